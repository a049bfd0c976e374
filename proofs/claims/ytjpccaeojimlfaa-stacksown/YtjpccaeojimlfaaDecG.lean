/-
  readRecord; a body.
-/
import Derived.Test.YtjpccaeojimlfaaDecF
namespace Go.Proofs.Ytjpccaeojimlfaa
open Go.RowKit Go.Maps Go.Shelf
/-- A forest, all its memory new since w0, over a table that was there. -/
structure FN (w0 w : World) (T S : Nat → Prop) (tb fb : Nat) (L : List ByteArray) (N : List Nd) : Prop where
  tab : ∃ tv tm, Tab w0 tb T L tv tm
  frs : ∃ v mb, Frs w fb tb S N v mb
  news : ∀ k, S k → w0.heap.size ≤ k ∧ k < w.heap.size
  bel : Below w0.heap.size w0 w
  fit : ∃ P, Fit L N P
theorem FN.but {w0 w w' : World} {T S U : Nat → Prop} {tb fb : Nat} {L : List ByteArray} {N : List Nd} (h : FN w0 w T S tb fb L N) (hb : But U w w') (hU : ∀ k, U k → w0.heap.size ≤ k ∧ ¬ S k) : FN w0 w' T S tb fb L N := by
  obtain ⟨v, mb, hF⟩ := h.frs
  exact ⟨h.tab, ⟨v, mb, hF.kept hb (fun k hk e => (hU k e).2 hk)⟩, fun k hk => ⟨(h.news k hk).1, Nat.lt_of_lt_of_le (h.news k hk).2 hb.size⟩, hb.beyond h.bel (fun k e => (hU k e).1), h.fit⟩
theorem FN.below {w0 w w' : World} {T S : Nat → Prop} {tb fb : Nat} {L : List ByteArray} {N : List Nd} (h : FN w0 w T S tb fb L N) (hb : Below w.heap.size w w') : FN w0 w' T S tb fb L N := h.but (U := fun _ => False) (But.of_below hb) (fun _ e => e.elim)
def recE (r : Int × Int × List Nd) : Ending := .returned (.tuple #[.int .i64 r.1, .int .i64 r.2.1])
set_option maxHeartbeats 1000000 in
set_option maxRecDepth 4000 in
theorem rrec_any {w0 w : World} {T S : Nat → Prop} {tb fb : Nat} {L : List ByteArray} {N : List Nd} (h : FN w0 w T S tb fb L N) (a : Option Addr) (n c : Nat) (zs : List Int) (t : Int) (hr : Row w0 a n zs) (hn : (n : Int) ≤ 140737488355328) :
    Calls Try.prog 53 #[.pointer (some ⟨fb, 0, none⟩), .slice a n c, .int .i64 t] w fun e w' => e = recE (rdRecN L.length N zs t) ∧ ∃ S', FN w0 w' T S' tb fb L (rdRecN L.length N zs t).2.2 ∧ More w S S' ∧ But S w w' := by
  have HN : Hid (FN w0 w T S tb fb L N) := h
  obtain ⟨tv, tm, hT0⟩ := h.tab
  obtain ⟨v, mb, hF⟩ := h.frs
  have hS := h.news
  obtain ⟨P, hfit⟩ := h.fit
  have hT := hT0.kept (T := fun _ => False) (But.of_below h.bel) (fun _ _ e => e)
  have c0 := hF.cell0
  have c1 := hF.cell1
  have t0 := hT.cell0
  obtain ⟨va, vc, rfl⟩ := own_form hF.own
  obtain ⟨ta, tc, rfl⟩ := own_form hT.own
  have hNl : (N.length : Int) ≤ 262144 := by have := hF.len; omega
  have hLl : (L.length : Int) ≤ 65536 := by have := hT.len; omega
  have hrw := hr.below h.bel
  have HQ1 : Hid _ := hide (ru_any a n c t zs w hrw (by omega))
  have HR : Hid (Row w a n zs) := hrw
  have HTL : Hid _ := hide (len_any tb _ tc ta w t0)
  have HF : Hid _ := hide hF
  have HS : Hid _ := hide hS
  have HFit : Hid (Fit L N P) := hfit
  have hbd := rdAt_bd zs t hr.u8
  have e1 : (rdAt zs t).2.2 ≠ 0 → rdRecN L.length N zs t = (0, (rdAt zs t).2.2, N) := fun h => by unfold rdRecN; rw [if_pos h]
  have e2 : (rdAt zs t).2.2 = 0 → (N.length : Int) < (rdAt zs t).1 → rdRecN L.length N zs t = (0, 52, N) := fun h h' => by unfold rdRecN; rw [if_neg (by omega), if_pos h']
  have e3 : (rdAt zs t).2.2 = 0 → ¬ (N.length : Int) < (rdAt zs t).1 → (rdAt zs (rdAt zs t).2.1).2.2 ≠ 0 → rdRecN L.length N zs t = (0, (rdAt zs (rdAt zs t).2.1).2.2, N) := fun h h' h3 => by unfold rdRecN; rw [if_neg (by omega), if_neg h', if_pos h3]
  have e4 : (rdAt zs t).2.2 = 0 → ¬ (N.length : Int) < (rdAt zs t).1 → (rdAt zs (rdAt zs t).2.1).2.2 = 0 → (L.length : Int) ≤ (rdAt zs (rdAt zs t).2.1).1 → rdRecN L.length N zs t = (0, 40, N) := fun h h' h3 h4 => by unfold rdRecN; rw [if_neg (by omega), if_neg h', if_neg (by omega), if_pos h4]
  have e5 : (rdAt zs t).2.2 = 0 → ¬ (N.length : Int) < (rdAt zs t).1 → (rdAt zs (rdAt zs t).2.1).2.2 = 0 → ¬ (L.length : Int) ≤ (rdAt zs (rdAt zs t).2.1).1 → why N (N.length - (rdAt zs t).1.toNat, (rdAt zs (rdAt zs t).2.1).1.toNat) ≠ 0 → rdRecN L.length N zs t = (0, why N (N.length - (rdAt zs t).1.toNat, (rdAt zs (rdAt zs t).2.1).1.toNat), N) := fun h h' h3 h4 h5 => by unfold rdRecN; rw [if_neg (by omega), if_neg h', if_neg (by omega), if_neg h4, if_pos h5]
  have e6 : (rdAt zs t).2.2 = 0 → ¬ (N.length : Int) < (rdAt zs t).1 → (rdAt zs (rdAt zs t).2.1).2.2 = 0 → ¬ (L.length : Int) ≤ (rdAt zs (rdAt zs t).2.1).1 → why N (N.length - (rdAt zs t).1.toNat, (rdAt zs (rdAt zs t).2.1).1.toNat) = 0 → rdRecN L.length N zs t = ((rdAt zs (rdAt zs t).2.1).2.1, 0, N ++ [(N.length - (rdAt zs t).1.toNat, (rdAt zs (rdAt zs t).2.1).1.toNat)]) := fun h h' h3 h4 h5 => by unfold rdRecN; rw [if_neg (by omega), if_neg h', if_neg (by omega), if_neg h4, if_neg (by omega)]
  generalize rdRecN L.length N zs t = R at e1 e2 e3 e4 e5 e6 ⊢
  have hbd2 := fun q => rdAt_bd zs q hr.u8
  have HQ2' : Hid _ := hide (fun q : Int => ru_any a n c q zs w hrw (by omega))
  generalize hr1 : rdAt zs t = r1 at HQ1 hbd e1 e2 e3 e4 e5 e6
  obtain ⟨x, p, f⟩ := r1
  simp only [out3] at HQ1 hbd e1 e2 e3 e4 e5 e6
  clear h hT0 hF hS hfit hT hr hrw hr1 t0
  by_cases hf : f ≠ 0
  · have HE : Hid (R = (0, f, N)) := e1 hf
    clear e1 e2 e3 e4 e5 e6 hbd2
    go_enter Try.func53, Try.ntmps53
    go_wp2_with fail
    refine HQ1.out.mono ?_
    rintro e w1 ⟨rfl, hh⟩; rw [hh]; clear hh
    go_wp2
    go_ret2
    exact ⟨by rw [HE.out]; rfl, S, by rw [HE.out]; exact HN.out, fun _ e => .inl e, But.refl _ _⟩
  have hf0 : f = 0 := by omega
  clear hf
  subst hf0
  have hx0 := hbd.1
  have hx1 := hbd.2.1
  by_cases hx : (N.length : Int) < x
  · have HE : Hid (R = (0, 52, N)) := e2 rfl hx
    clear e1 e2 e3 e4 e5 e6 hbd2 hbd
    go_enter Try.func53, Try.ntmps53
    go_wp2_with fail
    refine HQ1.out.mono ?_
    rintro e w1 ⟨rfl, hh⟩; rw [hh]; clear hh
    go_wp2
    go_ret2
    exact ⟨by rw [HE.out]; rfl, S, by rw [HE.out]; exact HN.out, fun _ e => .inl e, But.refl _ _⟩
  have HQ2 : Hid _ := hide (HQ2'.out p)
  have hbq := hbd2 p
  generalize rdAt zs p = r2 at HQ2 hbq e3 e4 e5 e6
  obtain ⟨y, p2, f2⟩ := r2
  simp only [out3] at HQ2 hbq e3 e4 e5 e6
  clear hbd2 HQ2' e1 e2 hbd
  by_cases hf2 : f2 ≠ 0
  · have HE : Hid (R = (0, f2, N)) := e3 (by first | rfl | trivial) hx hf2
    clear e3 e4 e5 e6 hbq
    go_enter Try.func53, Try.ntmps53
    go_wp2_with fail
    refine HQ1.out.mono ?_
    rintro e w1 ⟨rfl, hh⟩; rw [hh]; clear hh
    go_wp2_with fail
    refine HQ2.out.mono ?_
    rintro e w1 ⟨rfl, hh⟩; rw [hh]; clear hh
    go_wp2
    go_ret2
    exact ⟨by rw [HE.out]; rfl, S, by rw [HE.out]; exact HN.out, fun _ e => .inl e, But.refl _ _⟩
  have hf20 : f2 = 0 := by omega
  clear hf2
  subst hf20
  have hy0 := hbq.1
  have hy1 := hbq.2.1
  by_cases hy : (L.length : Int) ≤ y
  · have HE : Hid (R = (0, 40, N)) := e4 (by first | rfl | trivial) hx (by first | rfl | trivial) hy
    clear e3 e4 e5 e6 hbq
    go_enter Try.func53, Try.ntmps53
    go_wp2_with fail
    refine HQ1.out.mono ?_
    rintro e w1 ⟨rfl, hh⟩; rw [hh]; clear hh
    go_wp2_with fail
    refine HQ2.out.mono ?_
    rintro e w1 ⟨rfl, hh⟩; rw [hh]; clear hh
    go_wp2_with fail
    refine HTL.out.mono ?_
    rintro e w1 ⟨rfl, hh⟩; rw [hh]; clear hh
    go_wp2
    go_ret2
    exact ⟨by rw [HE.out]; rfl, S, by rw [HE.out]; exact HN.out, fun _ e => .inl e, But.refl _ _⟩
  obtain ⟨X, rfl⟩ := Int.eq_ofNat_of_zero_le hx0
  obtain ⟨Y, rfl⟩ := Int.eq_ofNat_of_zero_le hy0
  rw [Int.toNat_natCast, Int.toNat_natCast] at e5 e6
  have hXN : X ≤ N.length := by omega
  obtain ⟨q, hq⟩ : ∃ q, q = N.length - X := ⟨_, rfl⟩
  have hqI : (N.length : Int) - X = (q : Int) := by omega
  rw [← hq] at e5 e6
  have hqn : q ≤ N.length := by omega
  have HY65 : Hid (Y ≤ 65536 ∧ Y < L.length ∧ q ≤ N.length) := ⟨by omega, by omega, hqn⟩
  obtain ⟨W1, hW1⟩ : ∃ W1, W1 = w.alloc (.cells #[.int .i64 (q : Int), .int .i64 (Y : Int)] 73) := ⟨_, rfl⟩
  have b1 : Below w.heap.size w W1 := by rw [hW1]; exact (Below.refl _ w).alloc (Nat.le_refl _) _
  have r1 : W1.heap[w.heap.size]? = some (.cells #[.int .i64 (q : Int), .int .i64 (Y : Int)] 73 (0, 0)) := by rw [hW1]; exact heap_alloc_new w _
  have hF1 := HF.out.kept (T := fun _ => False) (But.of_below b1) (fun _ _ e => e)
  have HRf : Hid _ := hide (refusal_any hF1 HFit.out.rep.anc (q, Y) hqn HY65.out.1)
  have HB1 : Hid _ := hide b1
  have HR1 : Hid _ := hide r1
  have hyI : ¬ (L.length : Int) ≤ (Y : Int) := hy
  have hXI : (X : Int) ≤ N.length := by omega
  unfold nodeV at HRf
  dsimp only at HRf
  have e5' := e5 (by first | rfl | trivial) hx (by first | rfl | trivial) hy
  have e6' := e6 (by first | rfl | trivial) hx (by first | rfl | trivial) hy
  clear e3 e4 e5 e6 hbq b1 r1 hF1 hq hXN hqn hx hy
  generalize hwy : why N (q, Y) = y at HRf e5' e6'
  have HWy : Hid (why N (q, Y) = y) := hwy
  have hyb : -9223372036854775808 ≤ y ∧ y ≤ 9223372036854775807 := by
    rw [← hwy]; unfold why; split
    · omega
    · split
      · omega
      · split <;> omega
  clear hwy
  have hw64 : wrap64 ((N.length : Int) - X) = (q : Int) := by unfold wrap64; omega
  by_cases hy : y = 0
  · subst hy
    have HE : Hid _ := hide (e6' rfl)
    clear e5' e6'
    go_enter Try.func53, Try.ntmps53
    go_wp2_with fail
    refine HQ1.out.mono ?_
    rintro e w1 ⟨rfl, hh⟩; rw [hh]; clear hh
    go_wp2_with fail
    refine HQ2.out.mono ?_
    rintro e w1 ⟨rfl, hh⟩; rw [hh]; clear hh
    go_wp2_with fail
    refine HTL.out.mono ?_
    rintro e w1 ⟨rfl, hh⟩; rw [hh]; clear hh
    go_wp2_with fail
    rw [← hW1]
    refine HRf.out.mono ?_
    rintro e w2 ⟨rfl, hb2⟩
    have hk2 : But (fun _ => False) w w2 := (But.of_below (S := fun _ => False) HB1.out).trans (But.of_below (S := fun _ => False) hb2) (fun _ _ e => e)
    have hF2 := HF.out.kept hk2 (fun _ _ e => e)
    have hr2 : w2.heap[w.heap.size]? = some (.cells #[.int .i64 (q : Int), .int .i64 (Y : Int)] 73 (0, 0)) := (hb2.block _ (Array.getElem?_eq_some_iff.1 HR1.out).1).trans HR1.out
    have k0 : w2.cell? ⟨w.heap.size, 0, none⟩ = some (.int .i64 (q : Int)) := by rw [cell_of_row w2 w.heap.size 0 _ 73 (0, 0) hr2]; rfl
    have k1 : w2.cell? ⟨w.heap.size, 1, none⟩ = some (.int .i64 (Y : Int)) := by rw [cell_of_row w2 w.heap.size 1 _ 73 (0, 0) hr2]; rfl
    have hwn : nid N (q, Y) = 0 ∧ N.length ≠ 262144 := by
      have := HWy.out
      unfold why at this
      split at this
      · cases this
      · split at this
        · cases this
        · rename_i h2
          split at this
          · cases this
          · rename_i h3; exact ⟨by simpa using h2, h3⟩
    have HP : Hid _ := hide (put_f hF2 (q, Y) (by have := HY65.out; dsimp only; omega) HY65.out.1 (by
      intro hm
      have := hwn.1
      rw [nid, if_pos hm] at this
      omega) (by have := hwn.2; omega))
    have HK2 : Hid _ := hide hk2
    unfold nodeV at HP
    dsimp only at HP
    clear hb2 hF2 hr2 hwn hW1 hk2
    go_wp2_with fail
    refine HP.out.mono ?_
    rintro e w3 ⟨rfl, ⟨v3, hF3⟩, hb3⟩
    have HFin : Hid (∃ S', FN w0 w3 T S' tb fb L (N ++ [(q, Y)]) ∧ More w S S' ∧ But S w w3) := hide (by
      obtain ⟨P', hP'⟩ := HFit.out.next (n := (q, Y)) HY65.out.2.2 HY65.out.2.1 HWy.out
      have h0 := HN.out.bel
      have g2 := HK2.out.size
      have g3 := hb3.size
      refine ⟨_, ⟨HN.out.tab, ⟨_, _, hF3⟩, ?_, ?_, P', hP'⟩, ?_, (HK2.out.mono (fun _ e => e.elim)).trans hb3 (fun _ _ e => e)⟩
      · rintro k (hk | hk)
        · have := HS.out k hk; omega
        · have := h0.size; omega
      · exact hb3.beyond (HK2.out.beyond h0 (fun _ e => e.elim)) (fun k hk => (HS.out k hk).1)
      · rintro k (hk | hk)
        · exact .inl hk
        · right; omega)
    clear hF3 hb3 k0 k1
    go_wp2
    go_ret2
    rw [HE.out]
    exact ⟨rfl, HFin.out⟩
  · have HE : Hid _ := hide (e5' hy)
    clear e5' e6'
    go_enter Try.func53, Try.ntmps53
    go_wp2_with fail
    refine HQ1.out.mono ?_
    rintro e w1 ⟨rfl, hh⟩; rw [hh]; clear hh
    go_wp2_with fail
    refine HQ2.out.mono ?_
    rintro e w1 ⟨rfl, hh⟩; rw [hh]; clear hh
    go_wp2_with fail
    refine HTL.out.mono ?_
    rintro e w1 ⟨rfl, hh⟩; rw [hh]; clear hh
    go_wp2_with fail
    rw [← hW1]
    refine HRf.out.mono ?_
    rintro e w2 ⟨rfl, hb2⟩
    have hfn : Hid (FN w0 w2 T S tb fb L N) := hide (HN.out.below ((HB1.out).trans (hb2.mono HB1.out.size)))
    have hfb : Hid (But S w w2) := hide (But.of_below ((HB1.out).trans (hb2.mono HB1.out.size)))
    clear hb2 hW1
    go_wp2
    go_ret2
    exact ⟨by rw [HE.out]; rfl, S, by rw [HE.out]; exact hfn.out, fun _ e => .inl e, hfb.out⟩
end Go.Proofs.Ytjpccaeojimlfaa
