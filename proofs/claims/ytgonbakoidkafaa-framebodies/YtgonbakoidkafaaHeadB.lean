/-
  EncodeHead, the document's.
-/
import Derived.Test.YtgonbakoidkafaaHeadA
namespace Go.Proofs.Ytgonbakoidkafaa
open Go.RowKit
/-- The least, the greatest that a head's numbers may be. -/
def lst : Nat → Int
  | 0 => 64 | _ => 0
def tp : Nat → Int
  | 0 => 1048576 | 1 => 1048576 | 2 => 65536 | 3 => 65536 | _ => 262144
theorem okH_all {l e s t n : Int} (h : ∀ i, i < 5 → lst i ≤ fld l e s t n i ∧ fld l e s t n i ≤ tp i) : okH l e s t n = true := by
  have h0 := h 0 (by omega)
  have h1 := h 1 (by omega)
  have h2 := h 2 (by omega)
  have h3 := h 3 (by omega)
  have h4 := h 4 (by omega)
  simp only [lst, tp, fld] at h0 h1 h2 h3 h4
  unfold okH; rw [decide_eq_true_eq]; omega
theorem okH_not {l e s t n : Int} {i : Nat} (hi : i < 5) (h : fld l e s t n i < lst i ∨ tp i < fld l e s t n i) : okH l e s t n = false := by
  unfold okH; rw [decide_eq_false_iff_not]
  match i, hi, h with
  | 0, _, h => simp only [lst, tp, fld] at h; omega
  | 1, _, h => simp only [lst, tp, fld] at h; omega
  | 2, _, h => simp only [lst, tp, fld] at h; omega
  | 3, _, h => simp only [lst, tp, fld] at h; omega
  | 4, _, h => simp only [lst, tp, fld] at h; omega
theorem lst_bd (i : Nat) : 0 ≤ lst i ∧ lst i ≤ 64 := by unfold lst; split <;> omega
theorem tp_bd (i : Nat) : 0 ≤ tp i ∧ tp i ≤ 1048576 := by unfold tp; split <;> omega
def MT : Obj := .cells #[.int .i64 1048576, .int .i64 1048576, .int .i64 65536, .int .i64 65536, .int .i64 262144] 46
def ML : Obj := .cells #[.int .i64 64, .int .i64 0, .int .i64 0, .int .i64 0, .int .i64 0] 46
def MN (l e s t n : Int) : Obj := .cells #[.int .i64 l, .int .i64 e, .int .i64 s, .int .i64 t, .int .i64 n] 46
theorem mt_cell (w : World) (k : Nat) (hk : k < 5) : (w.alloc MT).cell? ⟨w.heap.size, k, none⟩ = some (.int .i64 (tp k)) := by
  unfold MT
  match k, hk with
  | 0, _ => rw [World.cell?_alloc_at _ _ _ _ rfl]; rfl
  | 1, _ => rw [World.cell?_alloc_at _ _ _ _ rfl]; rfl
  | 2, _ => rw [World.cell?_alloc_at _ _ _ _ rfl]; rfl
  | 3, _ => rw [World.cell?_alloc_at _ _ _ _ rfl]; rfl
  | 4, _ => rw [World.cell?_alloc_at _ _ _ _ rfl]; rfl
theorem ml_cell (w : World) (k : Nat) (hk : k < 5) : (w.alloc ML).cell? ⟨w.heap.size, k, none⟩ = some (.int .i64 (lst k)) := by
  unfold ML
  match k, hk with
  | 0, _ => rw [World.cell?_alloc_at _ _ _ _ rfl]; rfl
  | 1, _ => rw [World.cell?_alloc_at _ _ _ _ rfl]; rfl
  | 2, _ => rw [World.cell?_alloc_at _ _ _ _ rfl]; rfl
  | 3, _ => rw [World.cell?_alloc_at _ _ _ _ rfl]; rfl
  | 4, _ => rw [World.cell?_alloc_at _ _ _ _ rfl]; rfl
theorem mn_cell (l e s t n : Int) (w : World) (k : Nat) (hk : k < 5) : (w.alloc (MN l e s t n)).cell? ⟨w.heap.size, k, none⟩ = some (.int .i64 (fld l e s t n k)) := by
  unfold MN
  match k, hk with
  | 0, _ => rw [World.cell?_alloc_at _ _ _ _ rfl]; rfl
  | 1, _ => rw [World.cell?_alloc_at _ _ _ _ rfl]; rfl
  | 2, _ => rw [World.cell?_alloc_at _ _ _ _ rfl]; rfl
  | 3, _ => rw [World.cell?_alloc_at _ _ _ _ rfl]; rfl
  | 4, _ => rw [World.cell?_alloc_at _ _ _ _ rfl]; rfl
set_option maxHeartbeats 1600000 in
theorem reh_any (l e s t n : Int) (w : World) :
    Calls Try.prog 6 #[.agg #[.int .i64 l, .int .i64 e, .int .i64 s, .int .i64 t, .int .i64 n]] w (EhSaid l e s t n w) := by
  have mo := mo_any (w.alloc (HC l e s t n))
  have HB0 := hide (below_alloc1 w (HC l e s t n))
  have HL : w.heap.size < (w.alloc (HC l e s t n)).heap.size := by simp
  have c0 := hc_cell l e s t n w
  go_enter Try.func6, Try.ntmps6
  go_wp2_with fail
  change Calls _ _ _ (w.alloc (HC l e s t n)) _
  refine mo.mono ?_
  rintro r w1 ⟨rfl, hb1⟩
  clear mo
  generalize w.alloc (HC l e s t n) = W0 at HB0 HL hb1 c0
  have kk : ∀ k, k < 5 → ∀ o1 o2, ((w1.alloc o1).alloc o2).cell? ⟨w.heap.size, k, none⟩ = some (.int .i64 (fld l e s t n k)) := fun k hk o1 o2 =>
    ((below_alloc2 w1 o1 o2).cell (p := ⟨w.heap.size, k, none⟩) (Nat.lt_of_lt_of_le HL hb1.size)).trans ((hb1.cell (p := ⟨w.heap.size, k, none⟩) HL).trans (c0 k hk))
  have k0 := kk 0 (by omega)
  have k1 := kk 1 (by omega)
  have k2 := kk 2 (by omega)
  have k3 := kk 3 (by omega)
  have k4 := kk 4 (by omega)
  simp only [fld] at k0 k1 k2 k3 k4
  clear kk
  have hb1s := hb1.size
  have HB1 := hide hb1
  clear c0 hb1
  go_wp2_with fail
  change Calls _ _ _ ((w1.alloc MT).alloc ML) _
  refine (nu_any l e s t n _).mono ?_
  rintro r w2 ⟨rfl, hb2⟩
  have tC0 : ∀ k, k < 5 → ((w1.alloc MT).alloc ML).cell? ⟨w1.heap.size, k, none⟩ = some (.int .i64 (tp k)) := fun k hk => (Below.cell (below_alloc1 (w1.alloc MT) ML) (p := ⟨w1.heap.size, k, none⟩) (by simp)).trans (mt_cell w1 k hk)
  have lC0 : ∀ k, k < 5 → ((w1.alloc MT).alloc ML).cell? ⟨w1.heap.size + 1, k, none⟩ = some (.int .i64 (lst k)) := fun k hk => by
    have h := ml_cell (w1.alloc MT) k hk
    have e : (w1.alloc MT).heap.size = w1.heap.size + 1 := by simp
    rwa [e] at h
  have s1 : ((w1.alloc MT).alloc ML).heap.size = w1.heap.size + 2 := by simp
  have HB1' := hide ((HB1.out.alloc hb1s MT).alloc (Nat.le_trans hb1s (by simp)) ML)
  generalize (w1.alloc MT).alloc ML = W1 at hb2 tC0 lC0 s1 HB1'
  have hb2s := hb2.size
  rw [s1] at hb2s hb2
  have tC : ∀ k, k < 5 → (w2.alloc (MN l e s t n)).cell? ⟨w1.heap.size, k, none⟩ = some (.int .i64 (tp k)) := fun k hk => (Below.cell (below_alloc1 w2 _) (p := ⟨w1.heap.size, k, none⟩) (by simp only; omega)).trans ((hb2.cell (p := ⟨w1.heap.size, k, none⟩) (by simp only; omega)).trans (tC0 k hk))
  have lC : ∀ k, k < 5 → (w2.alloc (MN l e s t n)).cell? ⟨w1.heap.size + 1, k, none⟩ = some (.int .i64 (lst k)) := fun k hk => (Below.cell (below_alloc1 w2 _) (p := ⟨w1.heap.size + 1, k, none⟩) (by simp only; omega)).trans ((hb2.cell (p := ⟨w1.heap.size + 1, k, none⟩) (by simp only; omega)).trans (lC0 k hk))
  have nC := mn_cell l e s t n w2
  have s2 : (w2.alloc (MN l e s t n)).heap.size = w2.heap.size + 1 := by simp
  have HB2 : Hid (Below W0.heap.size W0 (w2.alloc (MN l e s t n))) := ((HB1'.out.trans (hb2.mono (by omega))).alloc (by omega) _)
  have hown := World.ownsRow_lit (base := (w2.alloc (MN l e s t n)).heap.size) (e := 5) (size := 1) (w2.alloc (MN l e s t n)) #[.int .u8 1] 1 (Nat.le_refl _) (by decide) rfl
  have HG := hide (below_alloc1 (w2.alloc (MN l e s t n)) (.cells #[.int .u8 1] 5))
  obtain ⟨F, hF⟩ : ∃ F, F = fld l e s t n := ⟨_, rfl⟩
  have HFE := hide hF
  rw [← hF] at nC
  have HT := hide tC
  have HLC := hide lC
  have HN := hide nC
  have HO := hide hown
  clear hF tC lC nC tC0 lC0 k0 k1 k2 k3 k4 hb2 hown HB1 HB1'
  go_wp2
  change Code.wp _ _ _ _ ((w2.alloc (MN l e s t n)).alloc (.cells #[.int .u8 1] 5))
  generalize w2.alloc (MN l e s t n) = Wb at HT HLC HN HO HG HB2 s2
  rw [s2] at HO HG
  obtain ⟨S, hS⟩ : ∃ S, S = w2.heap.size + 1 := ⟨_, rfl⟩
  rw [← hS] at HO HG s2 ⊢
  have hS1 : w2.heap.size < S := by omega
  have s3 : Wb.heap.size ≤ S := by omega
  have s4 : S ≤ Wb.heap.size := by omega
  clear hS s2
  go_loopw [7, 8] (fun v si wr => ∃ (k m : Nat), k ≤ 5 ∧ si = .int .i64 k ∧ (hbK F k).length = m ∧ (∀ i, i < k → lst i ≤ F i ∧ F i ≤ tp i) ∧ wr.ownsRow S 5 1 v m ((hbK F k).map (Value.int .u8)) ∧ Below S Wb wr)
    (fun _ si _ => 5 - (intOf si).toNat)
  case atStart => exact ⟨0, 1, by omega, rfl, rfl, fun i hi => by omega, HO.out, HG.out⟩
  case round =>
    obtain ⟨k, m, hk, rfl, hm, hall, ho, hb⟩ := hrel
    by_cases hlt : k < 5
    · have hn := (hb.cell (p := ⟨w2.heap.size, k, none⟩) (by simp only; omega)).trans (HN.out k hlt)
      have hl := (hb.cell (p := ⟨w1.heap.size + 1, k, none⟩) (by simp only; omega)).trans (HLC.out k hlt)
      have ht := (hb.cell (p := ⟨w1.heap.size, k, none⟩) (by simp only; omega)).trans (HT.out k hlt)
      have hml := hbK_len F k (fun i hi => ⟨Int.le_trans (lst_bd i).1 (hall i hi).1, Int.le_trans (hall i hi).2 (tp_bd i).2⟩)
      rw [hm] at hml
      have HS := hide (hbK_succ F k)
      have HA := hide hall
      have HM := hide hm
      have lb := lst_bd k
      have tb := tp_bd k
      obtain ⟨x, hx⟩ : ∃ x, F k = x := ⟨_, rfl⟩
      obtain ⟨lo, hlo⟩ : ∃ lo, lst k = lo := ⟨_, rfl⟩
      obtain ⟨hi, hhi⟩ : ∃ hi, tp k = hi := ⟨_, rfl⟩
      rw [hx] at hn HS
      rw [hlo] at hl lb
      rw [hhi] at ht tb
      have HX := hide hx
      have HLO := hide hlo
      have HHI := hide hhi
      have hbs := hb.size
      have hk0 : (0 : Int) ≤ (k : Int) := by omega
      have hk1 : (k : Int) < 5 := by omega
      clear hall hm hx hlo hhi
      have HBr := hide (HB0.out.trans ((HB2.out.trans (hb.mono (by have := HB2.out.size; omega))).mono (Nat.le_of_lt HL)))
      by_cases c1 : x < lo
      · go_wp2
        go_quiet (fail)
        go_wp2
        go_ret2
        exact eh_bad l e s t n w _ (okH_not hlt (.inl (by rw [← HFE.out, HX.out, HLO.out]; exact c1))) (below_drewN HBr.out nq)
      · by_cases c2 : hi < x
        · go_wp2
          go_quiet (fail)
          go_wp2
          go_ret2
          exact eh_bad l e s t n w _ (okH_not hlt (.inr (by rw [← HFE.out, HX.out, HHI.out]; exact c2))) (below_drewN HBr.out nq)
        · obtain ⟨q, hq⟩ : ∃ q, (enc x.toNat).length = q := ⟨_, rfl⟩
          have hx0 : 0 ≤ x := by omega
          have hx1 : x ≤ 1048576 := by omega
          have hq10 : q ≤ 10 := by rw [← hq]; exact enc_le _ (by omega)
          have HQ := hide hq
          have HU := hide (fun j => ruv_kept x q (wr.drewN j) hx0 (by omega) hq)
          clear hq
          go_wp2
          go_quiet (fail)
          go_wp2_with fail
          refine (HU.out nq).mono ?_
          rintro e w5 ⟨a5, c5, rfl, ho5, hb5⟩
          have hr5 := own_row_u8 ho5 (u8_of_mem (enc_mem x.toNat))
          have h05 := own_nil ho5
          have hb7 : Below wr.heap.size wr w5 := (below_drewN (Below.refl _ _) nq).trans hb5
          have ho' := ho.kept (grown_of hb7 (r := none)) (ob _)
          have hbs5 := hb7.size
          clear hn hl ht HU ho5
          go_wp2_with (at_builtin; refine append_row _ rfl (.tmp 36) (.tmp 41) rfl S _ m (hbK F k) rfl ho' _ q c5 (enc x.toNat) rfl hr5 h05 (by omega) (by omega) ?_; intro v' w6 hown6 hgrow6)
          rw [← HS.out] at hown6
          have hb6 : Below S Wb w6 := (hb.trans (hb7.mono (by omega))).grown hgrow6 (by omega) (fun k hk => (ho'.lt k hk).1)
          have HA' : ∀ i, i < k + 1 → lst i ≤ F i ∧ F i ≤ tp i := by
            intro i hi'
            by_cases hik : i < k
            · exact HA.out i hik
            · have : i = k := by omega
              subst this
              rw [HX.out, HLO.out, HHI.out]; omega
          exact ⟨⟨k + 1, m + q, by omega, by go_num, by rw [HS.out, List.length_append, HM.out, HQ.out], HA', hown6, hb6⟩, by simp [intOf]; omega⟩
    · have hk5 : k = 5 := by omega
      subst hk5
      have HA := hide hall
      clear hall
      go_wp2
      go_ret2
      rw [HFE.out] at hm ho HA
      exact eh_good l e s t n w _ _ m _ (okH_all HA.out) hm ho (HB0.out.trans ((HB2.out.trans (hb.mono (by have := HB2.out.size; omega))).mono (Nat.le_of_lt HL)))
end Go.Proofs.Ytgonbakoidkafaa
