/-
  stands, Group.
-/
import Derived.Test.YtnengkdddckjaaaKmI
namespace Go.Proofs.Ytnengkdddckjaaa
open Go.RowKit Go.Maps
set_option linter.unusedVariables false
/-- A trace of n events has both of a race's. -/
def vdB (n : Nat) (r : Int × Int) : Bool := decide ((0 ≤ r.1 ∧ r.1 < n) ∧ (0 ≤ r.2 ∧ r.2 < n))
set_option maxRecDepth 8000 in
set_option maxHeartbeats 4000000 in
theorem stands_any (a : Option Addr) (n c : Nat) (p q : Int) (w : World) (hn : n ≤ 1048576) :
    Calls Try.prog 10 #[.slice a n c, .agg #[.int .i64 p, .int .i64 q]] w fun e w' => e = .returned (.bool (vdB n (p, q))) ∧ Below w.heap.size w w' := by
  have HR : Hid (∀ b, vdB n (p, q) = b ↔ decide ((0 ≤ p ∧ p < n) ∧ (0 ≤ q ∧ q < n)) = b) := hide (fun b => Iff.rfl)
  generalize vdB n (p, q) = R at HR ⊢
  have HB := hide (fun ob => below_alloc1 w ob)
  go_enter Try.func10, Try.ntmps10
  rcases Int.lt_trichotomy p q with h | h | h
  · have h1 : ¬ q < p := by omega
    have h2 : p ≤ q := by omega
    have h3 : ¬ q ≤ p := by omega
    by_cases h4 : 0 ≤ p
    · by_cases h5 : q < (n : Int)
      · have HF : Hid (R = true) := hide ((HR.out true).2 (by rw [decide_eq_true_iff]; omega))
        go_wp2
        go_ret
        exact ⟨by rw [HF.out]; rfl, HB.out _⟩
      · have HF : Hid (R = false) := hide ((HR.out false).2 (by rw [decide_eq_false_iff_not]; omega))
        have h6 : (n : Int) ≤ q := by omega
        go_wp2
        go_ret
        exact ⟨by rw [HF.out]; rfl, HB.out _⟩
    · have HF : Hid (R = false) := hide ((HR.out false).2 (by rw [decide_eq_false_iff_not]; omega))
      have h6 : p < 0 := by omega
      go_wp2
      go_ret
      exact ⟨by rw [HF.out]; rfl, HB.out _⟩
  · subst h
    have h1 : ¬ p < p := by omega
    have h2 : p ≤ p := by omega
    by_cases h4 : 0 ≤ p
    · by_cases h5 : p < (n : Int)
      · have HF : Hid (R = true) := hide ((HR.out true).2 (by rw [decide_eq_true_iff]; omega))
        go_wp2
        go_ret
        exact ⟨by rw [HF.out]; rfl, HB.out _⟩
      · have HF : Hid (R = false) := hide ((HR.out false).2 (by rw [decide_eq_false_iff_not]; omega))
        have h6 : (n : Int) ≤ p := by omega
        go_wp2
        go_ret
        exact ⟨by rw [HF.out]; rfl, HB.out _⟩
    · have HF : Hid (R = false) := hide ((HR.out false).2 (by rw [decide_eq_false_iff_not]; omega))
      have h6 : p < 0 := by omega
      go_wp2
      go_ret
      exact ⟨by rw [HF.out]; rfl, HB.out _⟩
  · have h1 : ¬ p < q := by omega
    have h2 : q ≤ p := by omega
    have h3 : ¬ p ≤ q := by omega
    by_cases h4 : 0 ≤ q
    · by_cases h5 : p < (n : Int)
      · have HF : Hid (R = true) := hide ((HR.out true).2 (by rw [decide_eq_true_iff]; omega))
        go_wp2
        go_ret
        exact ⟨by rw [HF.out]; rfl, HB.out _⟩
      · have HF : Hid (R = false) := hide ((HR.out false).2 (by rw [decide_eq_false_iff_not]; omega))
        have h6 : (n : Int) ≤ p := by omega
        go_wp2
        go_ret
        exact ⟨by rw [HF.out]; rfl, HB.out _⟩
    · have HF : Hid (R = false) := hide ((HR.out false).2 (by rw [decide_eq_false_iff_not]; omega))
      have h6 : q < 0 := by omega
      go_wp2
      go_ret
      exact ⟨by rw [HF.out]; rfl, HB.out _⟩
end Go.Proofs.Ytnengkdddckjaaa
