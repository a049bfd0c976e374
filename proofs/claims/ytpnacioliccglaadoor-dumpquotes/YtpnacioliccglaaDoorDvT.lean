/-
  The document's reading of a word.
-/
import Derived.Test.YtpnacioliccglaaDoorDvS
import Derived.Test.YtpnacioliccglaaDoorDuF
namespace Go.Proofs.YtpnacioliccglaaDoor
open Go.RowKit Go.Maps Go.Shelf
set_option linter.unusedVariables false
/-- What plain answers. -/
structure PlP (s : ByteArray) (i0 : Nat) (e : Ending) : Prop where
  gen : (e = .returned (.tuple #[.string ⟨#[]⟩, .int .i64 (-1)])) ∨ ∃ (out : ByteArray) (k : Nat), e = .returned (.tuple #[.string out, .int .i64 (k : Int)]) ∧ out.size ≤ s.size ∧ i0 < k ∧ k ≤ s.size
  can : ∀ (t : ByteArray) (rest : List UInt8), s.data.toList.drop i0 = wrd t ++ rest → e = .returned (.tuple #[.string t, .int .i64 ((i0 + (wrd t).length : Nat) : Int)])
theorem plP_no {s : ByteArray} {i0 : Nat} (h : ∀ (t : ByteArray) (rest : List UInt8), s.data.toList.drop i0 ≠ wrd t ++ rest) : PlP s i0 (.returned (.tuple #[.string ⟨#[]⟩, .int .i64 (-1)])) := ⟨.inl rfl, fun t rest he => absurd he (h t rest)⟩
/-- The loop's state. -/
structure Pq (s : ByteArray) (i0 : Nat) (w wr : World) (bv : Value) (k : Nat) (xs : List UInt8) : Prop where
  own : Ou wr w.heap.size bv xs
  bel : Below w.heap.size w wr
  len : xs.length ≤ k
  ge : i0 < k
  le : k ≤ s.size
  pc : Pc s i0 k xs
section
variable {s : ByteArray} {i0 k : Nat} {w wr w6 : World} {bv bv' : Value} {xs : List UInt8} {b : Nat}
theorem Pq.on (h : Pq s i0 w wr bv k xs) {j : Nat} (hj : 1 ≤ j) (hk : k + j ≤ s.size) (ho : Ou w6 w.heap.size bv' (xs ++ [UInt8.ofNat b])) (hf : Fr w.heap.size wr w6) (hp : Pc s i0 (k + j) (xs ++ [UInt8.ofNat b])) : Pq s i0 w w6 bv' (k + j) (xs ++ [UInt8.ofNat b]) :=
  ⟨ho, h.bel.trans hf.bel, by have := h.len; rw [List.length_append, List.length_singleton]; omega, by have := h.ge; omega, hk, hp⟩
end
set_option maxRecDepth 100000 in
set_option maxHeartbeats 8000000 in
theorem plain_any (s : ByteArray) (i0 : Nat) (w : World) (hs : s.size ≤ 1073741824) (hi0 : i0 ≤ s.size) :
    Calls Tryd.prog 28 #[.string s, .int .i64 (i0 : Int)] w fun e w' => PlP s i0 e ∧ Below w.heap.size w w' := by
  by_cases h0 : i0 < s.size
  rotate_left
  · have HN := hide (plP_no (pc_none (s := s) (i0 := i0) (fun h => h0 h.1)))
    have hI : ((s.size : Nat) : Int) ≤ (i0 : Int) := by omega
    go_enter Tryd.func28, Tryd.ntmps28
    go_wp2
    go_ret2
    exact ⟨HN.out, Below.refl _ _⟩
  have hI : ¬ ((s.size : Nat) : Int) ≤ (i0 : Int) := by omega
  have hI2 : (i0 : Int) < ((s.size : Nat) : Int) := by omega
  obtain ⟨q, hq⟩ : ∃ q, bA s i0 = q := ⟨_, rfl⟩
  have hqi : ((s[i0].toNat : Nat) : Int) = (q : Int) := (bA_int h0).trans (by rw [hq])
  by_cases h34 : q = 34
  rotate_left
  · have HN := hide (plP_no (pc_none (s := s) (i0 := i0) (fun h => h34 (hq.symm.trans h.2))))
    have hqe : ((q : Int) == 34) = false := by rw [beq_eq_false_iff_ne]; omega
    clear hq h34
    go_enter Tryd.func28, Tryd.ntmps28
    go_wp2
    go_ret2
    exact ⟨HN.out, Below.refl _ _⟩
  have hqe : ((q : Int) == 34) = true := by rw [beq_iff_eq]; omega
  have HST : Hid (Pq s i0 w w (.slice none 0 0) (i0 + 1) []) := hide ⟨Own.nil _ _ _ _, Below.refl _ _, by simp, by omega, by omega, pc_start i0⟩
  clear hq h34
  go_enter Tryd.func28, Tryd.ntmps28
  go_wp2
  go_loopw [1, 6] (fun iv bv wr => ∃ (k : Nat) (xs : List UInt8), iv = .int .i64 k ∧ k ≤ s.size ∧ Hid (Pq s i0 w wr bv k xs)) (fun iv _ _ => s.size - (intOf iv).toNat)
  case atStart => exact ⟨i0 + 1, _, by go_num, by omega, HST⟩
  case round =>
    obtain ⟨k, xs, rfl, hks, HJ⟩ := hrel
    by_cases hk : k < s.size
    rotate_left
    · have hkI : ¬ (k : Int) < ((s.size : Nat) : Int) := by omega
      have hkI2 : ((s.size : Nat) : Int) ≤ (k : Int) := by omega
      have HN := hide (plP_no (pc_end HJ.out.pc hk))
      clear hk
      go_wp2
      go_ret2
      exact ⟨HN.out, HJ.out.bel⟩
    have hkI : (k : Int) < ((s.size : Nat) : Int) := by omega
    have hkI2 : ¬ ((s.size : Nat) : Int) ≤ (k : Int) := by omega
    obtain ⟨b, hbb⟩ : ∃ b, bA s k = b := ⟨_, rfl⟩
    have hbi : ((s[k].toNat : Nat) : Int) = (b : Int) := (bA_int hk).trans (by rw [hbb])
    have hb256 : b < 256 := by rw [← hbb]; exact bA_lt _ _
    by_cases c34 : b = 34
    · have hbe : ((b : Int) == 34) = true := by rw [beq_iff_eq]; omega
      have HF := hide (pc_fin HJ.out.pc hk (hbb.trans c34))
      have hcv := conv_own HJ.out.own
      have HK := hide hk
      clear hbb c34
      go_wp2
      (try go_quiet (fail))
      (try go_wp2)
      (try simp only [Exit.inBlock, Exit.then])
      refine bodyPost_ret (results_tmp2 rfl _ _ _) rfl ?_
      refine ⟨⟨.inr ⟨_, k + 1, by first | rfl | (push_cast; rfl), by (show xs.toArray.size ≤ _); rw [List.size_toArray]; have := HJ.out.len; have := HK.out; omega, by have := HJ.out.ge; omega, HK.out⟩, fun t rest he => ?_⟩, by first | exact below_drewN HJ.out.bel _ | exact HJ.out.bel⟩
      obtain ⟨e1, e2⟩ := HF.out t rest he
      rw [← e2, ← e1]
      first | rfl | (push_cast; rfl)
    have hbe : ((b : Int) == 34) = false := by rw [beq_eq_false_iff_ne]; omega
    have HLx : Hid (xs.length + 1 ≤ 140737488355328) := hide (by have := HJ.out.len; omega)
    by_cases c92 : b = 92
    rotate_left
    · have hbf : ((b : Int) == 92) = false := by rw [beq_eq_false_iff_ne]; omega
      have HP := hide (pc_raw HJ.out.pc hk (by rw [hbb]; exact c34) (by rw [hbb]; exact c92))
      rw [hbb] at HP
      have HK := hide hk
      clear hbb c34 c92
      go_wp2_with (at_builtin; go_must (refine append_u _ rfl _ _ rfl w.heap.size _ xs rfl (ou_fr HJ.out.own) wr.heap.size 1 1 _ [UInt8.ofNat b] rfl (heap_new _ _) (u8M hb256) rfl HLx.out (by rw [World.size_alloc]; exact Nat.le_succ_of_le HJ.out.bel.size) ?_); intro v7 w7 o7 f7; have HST7 := hide (HJ.out.on (j := 1) (by omega) HK.out o7 (((Fr.refl w.heap.size wr).alloc HJ.out.bel.size _).trans f7) HP.out); clear o7 f7)
      exact ⟨⟨k + 1, _, by go_num, HK.out, HST7⟩, by simp [intOf]; omega⟩
    have hbf : ((b : Int) == 92) = true := by rw [beq_iff_eq]; omega
    have hb92 := hbb.trans c92
    by_cases hk1 : k + 1 < s.size
    rotate_left
    · have hkJ : ((s.size : Nat) : Int) ≤ (k : Int) + 1 := by omega
      have HN := hide (plP_no (pc_short HJ.out.pc hb92 hk1))
      clear hbb c34 c92 hb92 hk1
      go_wp2
      go_ret2
      exact ⟨HN.out, HJ.out.bel⟩
    obtain ⟨k1, hk1e⟩ : ∃ k1, k1 = k + 1 := ⟨_, rfl⟩
    have hk1I : (k : Int) + 1 = (k1 : Int) := by omega
    have hk1J : ¬ ((s.size : Nat) : Int) ≤ (k1 : Int) := by omega
    have hk1z : k1 < s.size := by omega
    have hk1L : (k1 : Int) < ((s.size : Nat) : Int) := by omega
    obtain ⟨c, hcc⟩ : ∃ c, bA s (k + 1) = c := ⟨_, rfl⟩
    have hci : ((s[k1].toNat : Nat) : Int) = (c : Int) := (bA_int hk1z).trans (by rw [hk1e, hcc])
    have hc256 : c < 256 := by rw [← hcc]; exact bA_lt _ _
    obtain ⟨k2, hk2e⟩ : ∃ k2, k2 = k + 2 := ⟨_, rfl⟩
    have hk2I : (k : Int) + 2 = (k2 : Int) := by omega
    have HK2 : Hid (k + 2 ≤ s.size) := hide (by omega)
    have HK2e := hide hk2e
    have HJC := hide HJ.out.pc
    by_cases c110 : c = 110
    · have HP := hide (pc_two HJ.out.pc hb92 (b := 10) (by omega) (by omega))
      have hci2 : ((s[k1].toNat : Nat) : Int) = 110 := by rw [hci, c110]; rfl
      clear hbb c34 c92 hb92 hk1 hk1e hcc hci c110 hk2e
      go_wp2_with (at_builtin; go_must (refine append_u _ rfl _ _ rfl w.heap.size _ xs rfl (ou_fr HJ.out.own) wr.heap.size 1 1 _ [UInt8.ofNat 10] rfl (heap_new _ _) (by rfl) rfl HLx.out (by rw [World.size_alloc]; exact Nat.le_succ_of_le HJ.out.bel.size) ?_); intro v7 w7 o7 f7; have HST7 := hide (HJ.out.on (j := 2) (by omega) HK2.out o7 (((Fr.refl w.heap.size wr).alloc HJ.out.bel.size _).trans f7) HP.out); clear o7 f7)
      exact ⟨⟨k2, _, by go_num, by have := HK2.out; have := HK2e.out; omega, by rw [HK2e.out]; exact HST7⟩, by have := HK2e.out; have := HK2.out; simp [intOf]; omega⟩
    by_cases c114 : c = 114
    · have HP := hide (pc_two HJ.out.pc hb92 (b := 13) (by omega) (by omega))
      have hci2 : ((s[k1].toNat : Nat) : Int) = 114 := by rw [hci, c114]; rfl
      clear hbb c34 c92 hb92 hk1 hk1e hcc hci c114 hk2e
      go_wp2_with (at_builtin; go_must (refine append_u _ rfl _ _ rfl w.heap.size _ xs rfl (ou_fr HJ.out.own) wr.heap.size 1 1 _ [UInt8.ofNat 13] rfl (heap_new _ _) (by rfl) rfl HLx.out (by rw [World.size_alloc]; exact Nat.le_succ_of_le HJ.out.bel.size) ?_); intro v7 w7 o7 f7; have HST7 := hide (HJ.out.on (j := 2) (by omega) HK2.out o7 (((Fr.refl w.heap.size wr).alloc HJ.out.bel.size _).trans f7) HP.out); clear o7 f7)
      exact ⟨⟨k2, _, by go_num, by have := HK2.out; have := HK2e.out; omega, by rw [HK2e.out]; exact HST7⟩, by have := HK2e.out; have := HK2.out; simp [intOf]; omega⟩
    by_cases c116 : c = 116
    · have HP := hide (pc_two HJ.out.pc hb92 (b := 9) (by omega) (by omega))
      have hci2 : ((s[k1].toNat : Nat) : Int) = 116 := by rw [hci, c116]; rfl
      clear hbb c34 c92 hb92 hk1 hk1e hcc hci c116 hk2e
      go_wp2_with (at_builtin; go_must (refine append_u _ rfl _ _ rfl w.heap.size _ xs rfl (ou_fr HJ.out.own) wr.heap.size 1 1 _ [UInt8.ofNat 9] rfl (heap_new _ _) (by rfl) rfl HLx.out (by rw [World.size_alloc]; exact Nat.le_succ_of_le HJ.out.bel.size) ?_); intro v7 w7 o7 f7; have HST7 := hide (HJ.out.on (j := 2) (by omega) HK2.out o7 (((Fr.refl w.heap.size wr).alloc HJ.out.bel.size _).trans f7) HP.out); clear o7 f7)
      exact ⟨⟨k2, _, by go_num, by have := HK2.out; have := HK2e.out; omega, by rw [HK2e.out]; exact HST7⟩, by have := HK2e.out; have := HK2.out; simp [intOf]; omega⟩
    by_cases c120 : c = 120
    rotate_left
    · have HP := hide (pc_two HJ.out.pc hb92 (b := c) hc256 (by omega))
      have d1 : ((c : Int) == 110) = false := by rw [beq_eq_false_iff_ne]; omega
      have d2 : ((c : Int) == 114) = false := by rw [beq_eq_false_iff_ne]; omega
      have d3 : ((c : Int) == 116) = false := by rw [beq_eq_false_iff_ne]; omega
      have d4 : ((c : Int) == 120) = false := by rw [beq_eq_false_iff_ne]; omega
      clear hbb c34 c92 hb92 hk1 hk1e hcc c110 c114 c116 c120 hk2e
      go_wp2_with (at_builtin; go_must (refine append_u _ rfl _ _ rfl w.heap.size _ xs rfl (ou_fr HJ.out.own) wr.heap.size 1 1 _ [UInt8.ofNat c] rfl (heap_new _ _) (u8M hc256) rfl HLx.out (by rw [World.size_alloc]; exact Nat.le_succ_of_le HJ.out.bel.size) ?_); intro v7 w7 o7 f7; have HST7 := hide (HJ.out.on (j := 2) (by omega) HK2.out o7 (((Fr.refl w.heap.size wr).alloc HJ.out.bel.size _).trans f7) HP.out); clear o7 f7)
      exact ⟨⟨k2, _, by go_num, by have := HK2.out; have := HK2e.out; omega, by rw [HK2e.out]; exact HST7⟩, by have := HK2e.out; have := HK2.out; simp [intOf]; omega⟩
    have hci2 : ((s[k1].toNat : Nat) : Int) = 120 := by rw [hci, c120]; rfl
    have hcv120 := hcc.trans c120
    clear hci
    by_cases hk3 : k + 3 < s.size
    rotate_left
    · have hkJ : ((s.size : Nat) : Int) ≤ (k2 : Int) + 1 := by omega
      have HN := hide (plP_no (pc_xshort HJ.out.pc hb92 hcv120 hk3))
      clear hbb c34 c92 hb92 hk1 hk1e hcc c110 c114 c116 c120 hk2e hk3 hcv120
      go_wp2
      go_ret2
      exact ⟨HN.out, HJ.out.bel⟩
    obtain ⟨k3, hk3e⟩ : ∃ k3, k3 = k + 3 := ⟨_, rfl⟩
    have hk3I : (k2 : Int) + 1 = (k3 : Int) := by omega
    have hk3J : ¬ ((s.size : Nat) : Int) ≤ (k3 : Int) := by omega
    have hk3z : k3 < s.size := by omega
    have hk2z : k2 < s.size := by omega
    have hk3L : (k3 : Int) < ((s.size : Nat) : Int) := by omega
    have hk2L : (k2 : Int) < ((s.size : Nat) : Int) := by omega
    obtain ⟨x0, hx0⟩ : ∃ x, bA s (k + 2) = x := ⟨_, rfl⟩
    obtain ⟨y0, hy0⟩ : ∃ x, bA s (k + 3) = x := ⟨_, rfl⟩
    have hxi : ((s[k2].toNat : Nat) : Int) = (x0 : Int) := (bA_int hk2z).trans (by rw [hk2e, hx0])
    have hyi : ((s[k3].toNat : Nat) : Int) = (y0 : Int) := (bA_int hk3z).trans (by rw [hk3e, hy0])
    obtain ⟨k4, hk4e⟩ : ∃ k4, k4 = k + 4 := ⟨_, rfl⟩
    have hk4I : (k2 : Int) + 2 = (k4 : Int) := by omega
    have HK4 : Hid (k + 4 ≤ s.size) := hide (by omega)
    have HK4e := hide hk4e
    have HD1 := hide (digit_any x0 (by rw [← hx0]; exact bA_lt _ _) wr)
    have HD2 := hide (digit_any y0 (by rw [← hy0]; exact bA_lt _ _) wr)
    have HX0 := hide hx0
    have HY0 := hide hy0
    have HB92 := hide hb92
    have HC120 := hide hcv120
    clear hbb c34 c92 hb92 hk1 hk1e hcc c110 c114 c116 c120 hk2e hk3 hcv120 hk3e hk4e hx0 hy0
    go_wp2_with fail
    refine HD1.out.mono ?_
    rintro e w5 ⟨v1, rfl, hv1, hw5⟩
    subst hw5
    have HV1 := hide hv1
    clear hv1 HD1
    go_wp2_with fail
    refine HD2.out.mono ?_
    rintro e w6 ⟨v2, rfl, hv2, hw6⟩
    subst hw6
    have HV2 := hide hv2
    clear hv2 HD2
    rcases HV1.out with ⟨x, hx16, hxd, rfl⟩ | ⟨hxn, rfl⟩
    rotate_left
    · have HN := hide (plP_no (pc_xbad HJC.out HB92.out HC120.out (.inl (by rw [HX0.out]; exact hxn))))
      clear hxn
      go_wp2
      go_ret2
      exact ⟨HN.out, HJ.out.bel⟩
    rcases HV2.out with ⟨y, hy16, hyd, rfl⟩ | ⟨hyn, rfl⟩
    rotate_left
    · have HN := hide (plP_no (pc_xbad HJC.out HB92.out HC120.out (.inr (by rw [HY0.out]; exact hyn))))
      have hx0' : ¬ (x : Int) < 0 := by omega
      clear hyn hxd
      go_wp2
      go_ret2
      exact ⟨HN.out, HJ.out.bel⟩
    have HP := hide (pc_hex HJC.out HB92.out HC120.out hx16 hy16 (by rw [HX0.out]; exact hxd) (by rw [HY0.out]; exact hyd))
    have hx0' : ¬ (x : Int) < 0 := by omega
    have hy0' : ¬ (y : Int) < 0 := by omega
    obtain ⟨r, hr⟩ : ∃ r, r = 16 * x + y := ⟨_, rfl⟩
    have hrI : 16 * (x : Int) + (y : Int) = (r : Int) := by omega
    have hr256 : r < 256 := by omega
    have hrw : IntKind.u8.wrap (r : Int) = (r : Int) := wraps_u8 _ (by omega) (by omega)
    have hrm : (r : Int) % 256 = (r : Int) := by omega
    rw [← hr] at HP
    clear hr hxd hyd HJC HV1 HV2
    go_wp2_with (at_builtin; go_must (refine append_u _ rfl _ _ rfl w.heap.size _ xs rfl (ou_fr HJ.out.own) w6.heap.size 1 1 _ [UInt8.ofNat r] rfl (heap_new _ _) (by first | exact u8M hr256 | (rw [hrw]; exact u8M hr256) | (rw [hrm]; exact u8M hr256)) rfl HLx.out (by rw [World.size_alloc]; exact Nat.le_succ_of_le HJ.out.bel.size) ?_); intro v7 w7 o7 f7; have HST7 := hide (HJ.out.on (j := 4) (by omega) HK4.out o7 (((Fr.refl w.heap.size w6).alloc HJ.out.bel.size _).trans f7) HP.out); clear o7 f7)
    exact ⟨⟨k4, _, by go_num, by have := HK4.out; have := HK4e.out; omega, by rw [HK4e.out]; exact HST7⟩, by have := HK4e.out; have := HK4.out; simp [intOf]; omega⟩
end Go.Proofs.YtpnacioliccglaaDoor
