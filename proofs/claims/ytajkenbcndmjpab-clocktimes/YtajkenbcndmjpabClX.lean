/-
  Bytes as values; ClockBack: the walk.
-/
import Derived.Test.YtajkenbcndmjpabClW
namespace Go.Proofs.Ytajkenbcndmjpab
open Go.RowKit
open Go.Proofs.Ytajkenbcndmjpab.W1 (Row enc enc_small enc_big)
/-- All are bytes. -/
def u8s (zs : List Int) : Prop := ∀ z ∈ zs, 0 ≤ z ∧ z ≤ 255
theorem u8s_get {zs : List Int} (h : u8s zs) (i : Nat) : 0 ≤ zs[i]?.getD 0 ∧ zs[i]?.getD 0 ≤ 255 := by
  cases e : zs[i]? with
  | none => exact ⟨by simp, by simp⟩
  | some z => exact h z (List.mem_of_getElem? e)
theorem u8s_app {a b : List Int} (h : u8s a) (k : u8s b) : u8s (a ++ b) := fun z hz => by
  rcases List.mem_append.1 hz with hz | hz
  · exact h z hz
  · exact k z hz
theorem u8s_enc (x : Nat) : u8s (enc x) := by
  induction x using Nat.strongRecOn with
  | _ x ih =>
    by_cases h : x < 128
    · rw [enc_small x h]
      intro z hz
      simp at hz
      omega
    · rw [enc_big x h]
      intro z hz
      rcases List.mem_cons.1 hz with rfl | hz
      · omega
      · exact ih (x / 128) (by omega) z hz
theorem u8s_txt (m : Int) (c : List Tk) : u8s (txt m c) := by
  induction c generalizing m with
  | nil => intro z hz; simp [txt] at hz
  | cons x c ih => exact u8s_app (u8s_enc _) (u8s_app (u8s_enc _) (ih _))
theorem u8s_encC (c : List Tk) : u8s (encC c) := u8s_app (u8s_enc _) (u8s_txt _ _)
/-- Bytes that are handed in. -/
structure BV (w : World) (v : Value) (zs : List Int) : Prop where
  ex : ∃ a n c, v = .slice a n c ∧ Row w a n zs ∧ (n : Int) ≤ 9223372036854700000
theorem BV.below {w w' : World} {v : Value} {zs : List Int} (h : BV w v zs) (hb : Below w.heap.size w w') : BV w' v zs := by
  obtain ⟨a, n, c, hv, h1, h2⟩ := h.ex
  exact ⟨a, n, c, hv, h1.below hb, h2⟩
theorem BV.u8 {w : World} {v : Value} {zs : List Int} (h : BV w v zs) : ∀ i : Nat, 0 ≤ zs[i]?.getD 0 ∧ zs[i]?.getD 0 ≤ 255 := by
  obtain ⟨a, n, c, hv, h1, h2⟩ := h.ex
  exact h1.u8
theorem row_b {w : World} {a : Option Addr} {n : Nat} {zs : List Int} (h : TRow layB w a n zs) (hu : u8s zs) : Row w a n zs := by
  refine ⟨h.len, u8s_get hu, h.cells.imp id ?_⟩
  rintro ⟨b, off, ha, hc⟩
  refine ⟨b, off, ha, fun i hi => ?_⟩
  obtain ⟨x, hx⟩ := get_ex (L := zs) (i := i) (by rw [h.len]; exact hi)
  have := hc i x hx 0 (.int .u8 x) rfl
  rw [List.getD_eq_getElem?_getD, hx]
  simpa [layB] using this
theorem bv_own {w : World} {base : Nat} {v : Value} {zs : List Int} (h : Own layB 5 w base v zs) (hu : u8s zs) (hl : (zs.length : Int) ≤ 9223372036854700000) : BV w v zs := by
  obtain ⟨a, c, rfl, -, -⟩ := own_form h
  exact ⟨a, _, c, rfl, row_b (h.row rfl) hu, hl⟩
theorem bdec_any {w : World} {v : Value} {zs : List Int} (h : BV w v zs) : Calls Try.prog 9 #[v] w fun e w' => ∃ x, e = .returned (.tuple #[x, .int .i64 (decC zs).2]) ∧ Own layT 43 w' w.heap.size x (decC zs).1 ∧ Below w.heap.size w w' := by
  obtain ⟨a, n, c, rfl, h1, h2⟩ := h.ex
  exact dec_any a n c zs w h1 h2
theorem brdec_any {w : World} {v : Value} {zs : List Int} (h : BV w v zs) : Calls Try.prog 10 #[v] w fun e w' => ∃ x, e = .returned (.tuple #[x, .int .i64 (decC zs).2]) ∧ Own layT 43 w' w.heap.size x (decC zs).1 ∧ Below w.heap.size w w' := by
  obtain ⟨a, n, c, rfl, h1, h2⟩ := h.ex
  exact rdec_any a n c zs w h1 h2
theorem bsame_any {w : World} {v u : Value} {zs ys : List Int} (h : BV w v zs) (k : BV w u ys) : Calls Try.prog 11 #[v, u] w fun e w' => e = .returned (.bool (decide (zs = ys))) ∧ Below w.heap.size w w' := by
  obtain ⟨a, n, c, rfl, h1, h2⟩ := h.ex
  obtain ⟨b, m, d, rfl, k1, k2⟩ := k.ex
  refine (W1.same_any a b n c m d zs ys w h1 k1 (by omega)).mono ?_
  rintro e w' ⟨he, q, rfl⟩
  exact ⟨he, below_drewN (Below.refl _ _) _⟩
theorem bsameT_any {w : World} {v u : Value} {zs ys : List Int} (h : BV w v zs) (k : BV w u ys) (e : zs = ys) : Calls Try.prog 11 #[v, u] w fun e w' => e = .returned (.bool true) ∧ Below w.heap.size w w' := by
  refine (bsame_any h k).mono ?_
  rintro r w' ⟨rfl, hb⟩
  exact ⟨by rw [decide_eq_true e], hb⟩
theorem fin_err {zs : List Int} {acc : List Tk} {r : List Tk × Int × Int} (h : (fin zs acc r).2 ≠ 0) : (fin zs acc r).1 = [] := by
  unfold fin at h ⊢
  split
  · rfl
  · rename_i e
    rw [if_neg e] at h
    split
    · rfl
    · rename_i e2
      rw [if_neg e2] at h
      exact absurd rfl h
theorem decC_err {zs : List Int} (h : (decC zs).2 ≠ 0) : (decC zs).1 = [] := by
  unfold decC at h ⊢
  split
  · rfl
  · rename_i e
    rw [if_neg e] at h
    exact fin_err h
theorem rdL_fits {zs : List Int} (hu : ∀ i : Nat, 0 ≤ zs[i]?.getD 0 ∧ zs[i]?.getD 0 ≤ 255) : ∀ (n : Nat) (m t : Int), 0 ≤ m → fits (rdL zs n m t).1
  | 0, m, t, _ => fun x hx => by simp [rdL] at hx
  | n + 1, m, t, hm => by
    rw [rdL]
    split
    · intro x hx; simp at hx
    · rename_i e
      have hb := rdT_bd zs m t hu (by simpa using e)
      split
      · intro x hx; simp at hx
      · intro x hx
        rcases List.mem_cons.1 hx with rfl | hx
        · refine ⟨?_, ?_, ?_, ?_⟩ <;> omega
        · exact rdL_fits hu n _ _ (by omega) x hx
theorem decC_fits {zs : List Int} (hu : ∀ i : Nat, 0 ≤ zs[i]?.getD 0 ∧ zs[i]?.getD 0 ≤ 255) : fits (decC zs).1 := by
  unfold decC
  split
  · intro x hx; simp at hx
  · unfold fin
    split
    · intro x hx; simp at hx
    · split
      · intro x hx; simp at hx
      · rw [List.nil_append]; exact rdL_fits hu _ _ _ (Int.le_refl _)
theorem fits_t {c : List Tk} (h : fits c) : ∀ x ∈ c, x.t ≤ 9223372036854775807 := fun x hx => (h x hx).2.2.2
theorem decC_self {c : List Tk} (h : gd 0 c = true) (hf : fits c) : decC (encC c) = (c, 0) := by
  have := decC_enc h (fits_t hf) []
  rw [List.append_nil, if_pos rfl] at this
  exact this
theorem decC_more {c : List Tk} (h : gd 0 c = true) (hf : fits c) : decC (encC c ++ [0]) = ([], 170) := by
  have := decC_enc h (fits_t hf) [0]
  rw [if_neg (by simp)] at this
  exact this
theorem encC_big {c : List Tk} (h : gd 0 c = true) (hf : fits c) : ((encC c).length : Int) ≤ 2000000 := by
  have h1 := encC_len h hf
  have h2 := gd_len0 h
  omega
set_option maxRecDepth 100000 in
set_option maxHeartbeats 8000000 in
theorem clockBack {w : World} {v vb : Value} {L : List Tk} {zs : List Int} (h : CL w v L) (hf : fits L) (k : BV w vb zs) : Calls Try.prog 4 #[v, vb] w fun e w' => e = .returned (.bool true) ∧ Below w.heap.size w w' := by
  have HC := hide h
  have HF := hide hf
  have HBv := hide k
  have HBv0 := hide k
  have HAw := hide (awake_any w)
  have HB := hide (Below.refl w.heap.size w)
  have HN0 := hide (fun W => num_any 0 W)
  have HN170 := hide (fun W => num_any 170 W)
  obtain ⟨i0, hi, hz0, hz1, hz2⟩ := info_parts Try.infoB
  clear h hf k
  cases hg : gd 0 L with
  | true =>
    have HG := hide hg
    clear hg
    go_enter Try.func4, Try.ntmps4
    go_wp2_with fail
    refine (HAw.out).mono ?_
    rintro e w9 ⟨rfl, hb⟩
    replace HC := hide (HC.out.below hb)
    replace HBv := hide (HBv.out.below hb)
    replace HB := hide (Below.on HB.out hb)
    clear hb
    go_wp2_with fail
    refine (enc_ok ⟨HC.out, HG.out⟩ HF.out).mono ?_
    rintro e w9 ⟨vt, rfl, ot, hb⟩
    have HT := hide (ot.mono HB.out.size)
    replace HC := hide (HC.out.below hb)
    replace HBv := hide (HBv.out.below hb)
    replace HB := hide (Below.on HB.out hb)
    clear ot
    clear hb
    go_wp2_with fail
    refine (cgood_any HC.out).mono ?_
    rintro e w9 ⟨rfl, hb⟩
    replace HC := hide (HC.out.below hb)
    replace HBv := hide (HBv.out.below hb)
    replace HT := hide (HT.out.below hb)
    replace HB := hide (Below.on HB.out hb)
    rw [HG.out]
    clear hb
    go_wp2_with fail
    refine (HN0.out _).mono ?_
    rintro e w9 ⟨rfl, hw⟩
    rw [hw]
    clear hw w9
    go_wp2_with fail
    refine (bdec_any (bv_own HT.out (u8s_encC _) (by have := encC_big HG.out HF.out; omega))).mono ?_
    rintro e w9 ⟨vd, rfl, od, hb⟩
    replace HC := hide (HC.out.below hb)
    replace HBv := hide (HBv.out.below hb)
    replace HT := hide (HT.out.below hb)
    replace HB := hide (Below.on HB.out hb)
    rw [decC_self HG.out HF.out] at od
    rw [decC_self HG.out HF.out]
    have HDo := hide od
    clear od
    clear hb
    go_wp2_with fail
    refine (HN0.out _).mono ?_
    rintro e w9 ⟨rfl, hw⟩
    rw [hw]
    clear hw w9
    go_wp2_with fail
    refine (csame_any (cl_own HDo.out (by have := gd_len0 HG.out; omega)) HC.out).mono ?_
    rintro e w9 ⟨rfl, hb⟩
    replace HC := hide (HC.out.below hb)
    replace HBv := hide (HBv.out.below hb)
    replace HT := hide (HT.out.below hb)
    replace HB := hide (Below.on HB.out hb)
    rw [decide_eq_true (rfl : L = L)]
    clear HDo
    clear hb
    have HTl := hide (encC_big HG.out HF.out)
    have hu1 := u8s_app (u8s_encC L) (show u8s [0] by intro z hz; simp at hz; omega)
    have HU1 := hide hu1
    clear hu1
    go_wp2_with (at_builtin; refine append_lay layB _ 23 5 i0 _ 1 Try.underlying23 hi hz0 hz1 hz2 rfl rfl (.tmp 62) (.tmp 63) rfl w.heap.size _ (encC L) rfl (HT.out.below (below_alloc1 _ _)) (some ⟨w9.heap.size, 0, none⟩) 1 1 [0] rfl (TRow.one (y := layB) (x := 0) (e := 5) (heap_new _ _)) (by intro e; cases e) ?b1 ?b2 ?b3 ?_)
    case b1 => unfold maxLen; have := HTl.out; omega
    case b2 => have := HTl.out; omega
    case b3 => have := HB.out.size; simp; omega
    intro v4 w4 o4 g4 l4
    replace HB := hide ((HB.out.alloc HB.out.size _).grown g4 (by have := HB.out.size; simp; omega) (fun q hq => (HT.out.lt q hq).1))
    have HV4 := hide (bv_own o4 HU1.out (by rw [List.length_append]; have := HTl.out; simp; omega))
    replace HBv := hide (HBv0.out.below HB.out)
    clear o4 g4 l4 HT HC
    go_wp2_with fail
    refine (bdec_any HV4.out).mono ?_
    rintro e w9 ⟨vd, rfl, od, hb⟩
    replace HBv := hide (HBv.out.below hb)
    replace HB := hide (Below.on HB.out hb)
    rw [decC_more HG.out HF.out]
    clear od HV4
    clear hb
    go_wp2_with fail
    refine (HN170.out _).mono ?_
    rintro e w9 ⟨rfl, hw⟩
    rw [hw]
    clear hw w9
    by_cases hE : (decC zs).2 = 0
    · have hD := decC_inv HBv.out.u8 (c := (decC zs).1) (by rw [← hE])
      have hFt := decC_fits HBv.out.u8
      have HGd := hide hD.1
      have HEn := hide hD.2
      have HFt := hide hFt
      go_wp2_with fail
      refine (bdec_any HBv.out).mono ?_
      rintro e w9 ⟨vd, rfl, od, hb⟩
      replace HBv := hide (HBv.out.below hb)
      replace HB := hide (Below.on HB.out hb)
      have HDo := hide od
      clear od
      clear hb
      rw [hE]
      generalize (decC zs).1 = D at HGd HEn HFt HDo
      clear hE hD hFt
      go_wp2_with fail
      refine (HN0.out _).mono ?_
      rintro e w9 ⟨rfl, hw⟩
      rw [hw]
      clear hw w9
      go_wp2_with fail
      refine (enc_ok (cv_own HDo.out HGd.out) HFt.out).mono ?_
      rintro e w9 ⟨vu, rfl, ou, hb⟩
      replace HBv := hide (HBv.out.below hb)
      replace HB := hide (Below.on HB.out hb)
      have HU := hide (bv_own ou (u8s_encC _) (by have := encC_big HGd.out HFt.out; omega))
      clear ou
      clear hb
      go_wp2_with fail
      refine (HN0.out _).mono ?_
      rintro e w9 ⟨rfl, hw⟩
      rw [hw]
      clear hw w9
      go_wp2_with fail
      refine (bsameT_any HU.out HBv.out HEn.out).mono ?_
      rintro e w9 ⟨rfl, hb⟩
      replace HB := hide (Below.on HB.out hb)
      clear hb
      go_wp2
      go_ret
      exact ⟨rfl, HB.out⟩
    · have hD := decC_err hE
      go_wp2_with fail
      refine (bdec_any HBv.out).mono ?_
      rintro e w9 ⟨vd, rfl, od, hb⟩
      replace HB := hide (Below.on HB.out hb)
      have HDo := hide od
      clear od
      clear hb
      rw [hD] at HDo
      obtain ⟨a9, c9, rfl, -, -⟩ := own_form HDo.out
      generalize hee : (decC zs).2 = er at hE ⊢
      have d9 : (er != 0) = true := by simp [hE]
      have HNr := hide (fun W => num_any er W)
      clear hD hee hE
      go_wp2_with fail
      refine (HNr.out _).mono ?_
      rintro e w9 ⟨rfl, hw⟩
      rw [hw]
      clear hw w9
      go_wp2
      go_ret
      exact ⟨rfl, HB.out⟩
  | false =>
    have HG := hide hg
    clear hg
    go_enter Try.func4, Try.ntmps4
    go_wp2_with fail
    refine (HAw.out).mono ?_
    rintro e w9 ⟨rfl, hb⟩
    replace HC := hide (HC.out.below hb)
    replace HBv := hide (HBv.out.below hb)
    replace HB := hide (Below.on HB.out hb)
    clear hb
    go_wp2_with fail
    refine (enc_bad HC.out HG.out).mono ?_
    rintro e w9 ⟨rfl, hb⟩
    replace HC := hide (HC.out.below hb)
    replace HBv := hide (HBv.out.below hb)
    replace HB := hide (Below.on HB.out hb)
    clear hb
    go_wp2_with fail
    refine (cgood_any HC.out).mono ?_
    rintro e w9 ⟨rfl, hb⟩
    replace HC := hide (HC.out.below hb)
    replace HBv := hide (HBv.out.below hb)
    replace HB := hide (Below.on HB.out hb)
    rw [HG.out]
    clear hb
    go_wp2_with fail
    refine (HN170.out _).mono ?_
    rintro e w9 ⟨rfl, hw⟩
    rw [hw]
    clear hw w9
    go_wp2_with fail
    refine (HN170.out _).mono ?_
    rintro e w9 ⟨rfl, hw⟩
    rw [hw]
    clear hw w9
    by_cases hE : (decC zs).2 = 0
    · have hD := decC_inv HBv.out.u8 (c := (decC zs).1) (by rw [← hE])
      have hFt := decC_fits HBv.out.u8
      have HGd := hide hD.1
      have HEn := hide hD.2
      have HFt := hide hFt
      go_wp2_with fail
      refine (bdec_any HBv.out).mono ?_
      rintro e w9 ⟨vd, rfl, od, hb⟩
      replace HBv := hide (HBv.out.below hb)
      replace HB := hide (Below.on HB.out hb)
      have HDo := hide od
      clear od
      clear hb
      rw [hE]
      generalize (decC zs).1 = D at HGd HEn HFt HDo
      clear hE hD hFt
      go_wp2_with fail
      refine (HN0.out _).mono ?_
      rintro e w9 ⟨rfl, hw⟩
      rw [hw]
      clear hw w9
      go_wp2_with fail
      refine (enc_ok (cv_own HDo.out HGd.out) HFt.out).mono ?_
      rintro e w9 ⟨vu, rfl, ou, hb⟩
      replace HBv := hide (HBv.out.below hb)
      replace HB := hide (Below.on HB.out hb)
      have HU := hide (bv_own ou (u8s_encC _) (by have := encC_big HGd.out HFt.out; omega))
      clear ou
      clear hb
      go_wp2_with fail
      refine (HN0.out _).mono ?_
      rintro e w9 ⟨rfl, hw⟩
      rw [hw]
      clear hw w9
      go_wp2_with fail
      refine (bsameT_any HU.out HBv.out HEn.out).mono ?_
      rintro e w9 ⟨rfl, hb⟩
      replace HB := hide (Below.on HB.out hb)
      clear hb
      go_wp2
      go_ret
      exact ⟨rfl, HB.out⟩
    · have hD := decC_err hE
      go_wp2_with fail
      refine (bdec_any HBv.out).mono ?_
      rintro e w9 ⟨vd, rfl, od, hb⟩
      replace HB := hide (Below.on HB.out hb)
      have HDo := hide od
      clear od
      clear hb
      rw [hD] at HDo
      obtain ⟨a9, c9, rfl, -, -⟩ := own_form HDo.out
      generalize hee : (decC zs).2 = er at hE ⊢
      have d9 : (er != 0) = true := by simp [hE]
      have HNr := hide (fun W => num_any er W)
      clear hD hee hE
      go_wp2_with fail
      refine (HNr.out _).mono ?_
      rintro e w9 ⟨rfl, hw⟩
      rw [hw]
      clear hw w9
      go_wp2
      go_ret
      exact ⟨rfl, HB.out⟩
end Go.Proofs.Ytajkenbcndmjpab
