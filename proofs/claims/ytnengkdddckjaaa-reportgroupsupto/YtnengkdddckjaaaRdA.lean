/-
  The document's same, is.
-/
import Derived.Test.YtnengkdddckjaaaKmK
import Derived.Lib.Strings
namespace Go.Proofs.Ytnengkdddckjaaa
open Go.RowKit Go.Maps
set_option linter.unusedVariables false
theorem drew_onS {w wr : World} (h : ∃ m, wr = w.drewN m) (r : Nat) : ∃ m, wr.drewN r = w.drewN m := by
  obtain ⟨m, rfl⟩ := h
  exact ⟨m + r, by simp⟩
theorem bytes_ne {x y : ByteArray} (h : x ≠ y) : ¬ x.toList = y.toList := fun e => h (by
  rw [Lib.toList_data, Lib.toList_data] at e
  cases x; cases y
  simp only [ByteArray.mk.injEq]
  exact Array.toList_inj.1 e)
set_option maxRecDepth 8000 in
set_option maxHeartbeats 2000000 in
theorem same_any (a1 a2 : Option Addr) (n1 n2 c1 c2 : Nat) (A B : List ByteArray) (w : World) (h1 : E6.SRow w a1 n1 A) (h2 : E6.SRow w a2 n2 B) (hn : n1 ≤ 1048576) :
    Calls Try.prog 18 #[.slice a1 n1 c1, .slice a2 n2 c2] w fun e w' => e = .returned (.bool (decide (A = B))) ∧ ∃ m, w' = w.drewN m := by
  have H1 := hide h1
  have H2 := hide h2
  have l1 := h1.len
  have l2 := h2.len
  have HL := hide (And.intro l1 l2)
  have HR : Hid ((A = B → decide (A = B) = true) ∧ (A ≠ B → decide (A = B) = false)) := hide ⟨fun h => decide_eq_true h, fun h => decide_eq_false h⟩
  generalize decide (A = B) = R at HR ⊢
  by_cases hne : n1 = n2
  · subst hne
    have hnI : (n1 : Int) ≤ 1048576 := by omega
    clear h1 h2 l1 l2
    go_enter Try.func18, Try.ntmps18
    go_wp2
    go_loopw [5] (fun i wr => ∃ j : Nat, j ≤ n1 ∧ i = .int .i64 j ∧ Hid (∃ m, wr = w.drewN m) ∧ Hid (A.take j = B.take j)) (fun i _ => n1 - (intOf i).toNat)
    case atStart => exact ⟨0, Nat.zero_le _, rfl, hide ⟨0, rfl⟩, hide rfl⟩
    case round =>
      obtain ⟨j, hj, rfl, HD, HT⟩ := hrel
      have HB : Hid (Below w.heap.size w wr) := hide (by obtain ⟨m, hm⟩ := HD.out; rw [hm]; exact below_drewN (Below.refl _ _) m)
      by_cases hlt : j < n1
      · have hjI : (j : Int) < n1 := by omega
        have hj0 : (0 : Int) ≤ j := by omega
        have hA : j < A.length := by rw [HL.out.1]; exact hlt
        have hB : j < B.length := by rw [HL.out.2]; exact hlt
        obtain ⟨b1, o1, e1, d1⟩ := (H1.out.bel HB.out).at hlt
        obtain ⟨b2, o2, e2, d2⟩ := (H2.out.bel HB.out).at hlt
        obtain ⟨x, hx⟩ : ∃ x, A.getD j ByteArray.empty = x := ⟨_, rfl⟩
        obtain ⟨y, hy⟩ : ∃ y, B.getD j ByteArray.empty = y := ⟨_, rfl⟩
        rw [hx] at d1
        rw [hy] at d2
        have hx2 : A[j] = x := by rw [← hx, List.getD_eq_getElem?_getD, List.getElem?_eq_getElem hA]; rfl
        have hy2 : B[j] = y := by rw [← hy, List.getD_eq_getElem?_getD, List.getElem?_eq_getElem hB]; rfl
        have HXY : Hid ((x = y → A.take (j + 1) = B.take (j + 1)) ∧ (x ≠ y → A ≠ B)) := hide ⟨fun h => by rw [← List.take_append_getElem hA, ← List.take_append_getElem hB, HT.out, hx2, hy2, h], fun h e => h (by subst e; rw [← hx2, ← hy2])⟩
        have HLt := hide hlt
        clear hx hy hx2 hy2 hA hB
        subst e1
        subst e2
        by_cases hxy : x = y
        · have HF := hide (HXY.out.1 hxy)
          subst hxy
          go_wp2_with fail
          go_quiet (fail)
          go_wp2
          have hlt := HLt.out
          exact ⟨⟨j + 1, by omega, by go_num, hide (drew_onS HD.out _), HF⟩, by simp [intOf]; omega⟩
        · have HF := hide (HR.out.2 (HXY.out.2 hxy))
          have hb1 := bytes_ne hxy
          have hb2 : (x.toList == y.toList) = false := by rw [beq_eq_false_iff_ne]; exact hb1
          have hb3 : (x.toList != y.toList) = true := by rw [bne, hb2]; rfl
          clear hxy
          go_wp2_with fail
          go_quiet (fail)
          go_wp2
          (try simp only [Exit.inBlock, Exit.then])
          refine bodyPost_ret (results_tmp rfl _ _ _) rfl ?_
          exact ⟨by rw [HF.out]; rfl, drew_onS HD.out _⟩
      · have hjI : ¬ (j : Int) < n1 := by omega
        have hj9 : j = n1 := by omega
        have HF := hide (HR.out.1 (by
          have h9 := HT.out
          rw [hj9] at h9
          rwa [List.take_of_length_le (by rw [HL.out.1]; exact Nat.le_refl _), List.take_of_length_le (by rw [HL.out.2]; exact Nat.le_refl _)] at h9))
        clear hlt hj hj9
        go_wp2
        (try simp only [Exit.inBlock, Exit.then])
        refine bodyPost_ret (results_tmp rfl _ _ _) rfl ?_
        exact ⟨by rw [HF.out]; rfl, HD.out⟩
  · have HF := hide (HR.out.2 (fun e => hne (by rw [← l1, ← l2, e])))
    have hnI : ((n1 : Int) == (n2 : Int)) = false := by rw [beq_eq_false_iff_ne]; omega
    have hnI2 : ((n1 : Int) != (n2 : Int)) = true := by rw [bne, hnI]; rfl
    have hnI3 : ¬ (n1 : Int) = (n2 : Int) := by omega
    clear h1 h2 l1 l2
    go_enter Try.func18, Try.ntmps18
    go_wp2
    go_ret
    exact ⟨by rw [HF.out]; rfl, 0, rfl⟩
set_option maxRecDepth 8000 in
set_option maxHeartbeats 2000000 in
theorem is_any (a : Option Addr) (n c : Nat) (p q : Int) (w : World) (hn : n ≤ 1048576) :
    Calls Try.prog 12 #[.slice a n c, .agg #[.int .i64 p, .int .i64 q]] w fun e w' => e = .returned (.bool (vdB n (p, q))) ∧ Below w.heap.size w w' := by
  have HR : Hid (∀ b, vdB n (p, q) = b ↔ decide ((0 ≤ p ∧ p < n) ∧ (0 ≤ q ∧ q < n)) = b) := hide (fun b => Iff.rfl)
  generalize vdB n (p, q) = R at HR ⊢
  have HB := hide (fun ob => below_alloc1 w ob)
  go_enter Try.func12, Try.ntmps12
  by_cases h1 : 0 ≤ p
  · by_cases h2 : p < (n : Int)
    · by_cases h3 : 0 ≤ q
      · by_cases h4 : q < (n : Int)
        · have HF : Hid (R = true) := hide ((HR.out true).2 (by rw [decide_eq_true_iff]; omega))
          go_wp2
          go_ret
          exact ⟨by rw [HF.out]; rfl, HB.out _⟩
        · have HF : Hid (R = false) := hide ((HR.out false).2 (by rw [decide_eq_false_iff_not]; omega))
          have h5 : (n : Int) ≤ q := by omega
          go_wp2
          go_ret
          exact ⟨by rw [HF.out]; rfl, HB.out _⟩
      · have HF : Hid (R = false) := hide ((HR.out false).2 (by rw [decide_eq_false_iff_not]; omega))
        have h5 : q < 0 := by omega
        go_wp2
        go_ret
        exact ⟨by rw [HF.out]; rfl, HB.out _⟩
    · have HF : Hid (R = false) := hide ((HR.out false).2 (by rw [decide_eq_false_iff_not]; omega))
      have h5 : (n : Int) ≤ p := by omega
      go_wp2
      go_ret
      exact ⟨by rw [HF.out]; rfl, HB.out _⟩
  · have HF : Hid (R = false) := hide ((HR.out false).2 (by rw [decide_eq_false_iff_not]; omega))
    have h5 : p < 0 := by omega
    go_wp2
    go_ret
    exact ⟨by rw [HF.out]; rfl, HB.out _⟩
end Go.Proofs.Ytnengkdddckjaaa
