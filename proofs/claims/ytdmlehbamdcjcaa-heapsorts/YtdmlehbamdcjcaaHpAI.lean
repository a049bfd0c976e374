/-
  Things of a heap, which of two comes first.
-/
import Derived.Test.YtdmlehbamdcjcaaHpB
namespace Go.Proofs.Ytdmlehbamdcjcaa
open Go.RowKit
structure It where
  k : Int
  t : Int
def layI : Lay It := ⟨fun a => [.int .i64 a.k, .int .i64 a.t], 2, by decide, fun _ => rfl, by intro a u hu; simp at hu; rcases hu with rfl | rfl <;> rfl⟩
def layEI : Lay (It × Int) := ⟨fun e => [.int .i64 e.1.k, .int .i64 e.1.t, .int .i64 e.2], 3, by decide, fun _ => rfl, by intro a u hu; simp at hu; rcases hu with rfl | rfl | rfl <;> rfl⟩
def bfI (a b : It) : Bool := decide (a.k < b.k)
theorem beforeI (a b : It) (w : World) : Calls Try.prog 111 #[.agg #[.int .i64 a.k, .int .i64 a.t], .agg #[.int .i64 b.k, .int .i64 b.t]] w fun e w' => e = .returned (.bool (bfI a b)) ∧ Below w.heap.size w w' := by
  obtain ⟨a0, a1⟩ := a
  obtain ⟨b0, b1⟩ := b
  go_enter Try.func111, Try.ntmps111
  go_wp2
  go_ret
  exact ⟨rfl, below_alloc2 _ _ _⟩
theorem methI (w : World) (a0 a1 : Int) : (method 263 27 (.agg #[.int .i64 a0, .int .i64 a1]) "Before").run Try.prog w = .ok (111, .agg #[.int .i64 a0, .int .i64 a1]) w := by kernel_rfl
set_option maxRecDepth 20000 in
theorem firstI (e f : It × Int) (w : World) : Calls Try.prog 72 #[.agg #[.int .i64 e.1.k, .int .i64 e.1.t, .int .i64 e.2], .agg #[.int .i64 f.1.k, .int .i64 f.1.t, .int .i64 f.2]] w fun r w' => r = .returned (.bool (fst bfI e f)) ∧ Below w.heap.size w w' := by
  obtain ⟨⟨a0, a1⟩, u⟩ := e
  obtain ⟨⟨b0, b1⟩, v⟩ := f
  have hm := fun w => methI w a0 a1
  have hk := fun w => methI w b0 b1
  by_cases huv : u < v
  · go_enter Try.func72, Try.ntmps72
    go_wp2_with fail
    refine (beforeI ⟨b0, b1⟩ ⟨a0, a1⟩ _).mono ?_
    rintro r w' ⟨rfl, hB⟩
    go_wp2
    go_ret
    exact ⟨ret_bool (by unfold fst; rw [if_pos huv]), Below.on (below_alloc2 _ _ _) hB⟩
  · go_enter Try.func72, Try.ntmps72
    go_wp2_with fail
    refine (beforeI ⟨a0, a1⟩ ⟨b0, b1⟩ _).mono ?_
    rintro r w' ⟨rfl, hB⟩
    go_wp2
    go_ret
    exact ⟨ret_bool (by unfold fst; rw [if_neg (by dsimp only; omega)]), Below.on (below_alloc2 _ _ _) hB⟩
end Go.Proofs.Ytdmlehbamdcjcaa
