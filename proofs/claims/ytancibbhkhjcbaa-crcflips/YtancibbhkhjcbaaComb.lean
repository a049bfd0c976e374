/-
  Combine of the document, and the walk of CrcCombines.
-/
import Derived.Test.YtancibbhkhjcbaaTabs
namespace Go.Proofs.Ytancibbhkhjcbaa
open Go.RowKit
theorem rtwo_any (n : Int) (w : World) (h : ¬ (0 ≤ n ∧ n ≤ 67108864)) (a b : B) :
    Calls Try.prog 6 #[.int .u32 (num a), .int .u32 (num b), .int .i64 n] w fun e w' => e = .returned (.tuple #[.int .u32 0, .int .i64 20]) ∧ w' = w := by
  by_cases h0 : n < 0
  · go_enter Try.func6, Try.ntmps6
    go_wp2
    go_ret2
    exact ⟨rfl, rfl⟩
  · have h1 : 67108864 < n := by omega
    go_enter Try.func6, Try.ntmps6
    go_wp2
    go_ret2
    exact ⟨rfl, rfl⟩
theorem rcombine_any (n : Nat) (w : World) (h : n ≤ 67108864) (a b : B) :
    Calls Try.prog 6 #[.int .u32 (num a), .int .u32 (num b), .int .i64 n] w fun e w' => e = .returned (.tuple #[.int .u32 (num (stps (8 * n) a ^^^ b)), .int .i64 0]) ∧ Below w.heap.size w w' := by
  have H := hide (xor_num (stps (8 * n) a) b)
  have h1 : (n : Int) ≤ 67108864 := by omega
  go_enter Try.func6, Try.ntmps6
  go_wp2_with fail
  refine (rzeros_any _ _ _ (by omega)).mono ?_
  rintro e w' ⟨rfl, hb⟩
  go_wp2
  go_ret2
  exact ⟨by rw [← H.out]; rfl, hb⟩
theorem combines_walk (a b : B) (n : Int) (w : World) :
    Calls Try.prog 3 #[.int .u32 (num a), .int .u32 (num b), .int .i64 n] w fun e w' => e = .returned (.bool true) ∧ Below w.heap.size w w' := by
  by_cases h : 0 ≤ n ∧ n ≤ 67108864
  · obtain ⟨m, rfl⟩ := Int.eq_ofNat_of_zero_le h.1
    have hm : m ≤ 67108864 := by omega
    go_enter Try.func3, Try.ntmps3
    go_wp2_with fail
    refine (combine_any m _ hm a b).mono ?_
    rintro e w' ⟨rfl, rfl⟩
    go_wp2_with fail
    refine (rcombine_any m _ hm a b).mono ?_
    rintro e w1 ⟨rfl, hb⟩
    go_wp2
    go_ret
    exact ⟨rfl, hb⟩
  · go_enter Try.func3, Try.ntmps3
    go_wp2_with fail
    refine (two_any n _ h a b).mono ?_
    rintro e w' ⟨rfl, rfl⟩
    go_wp2_with fail
    refine (rtwo_any n _ h a b).mono ?_
    rintro e w1 ⟨rfl, rfl⟩
    go_wp2
    go_ret
    exact ⟨rfl, Below.refl _ _⟩
end Go.Proofs.Ytancibbhkhjcbaa
