/-
  Things of a heap, which of two comes first.
-/
import Derived.Test.YtdlpffbeladgaabHpB
namespace Go.Proofs.Ytdlpffbeladgaab
open Go.RowKit
structure Hd where
  stamp : Int
  row : Int
def layH : Lay Hd := ⟨fun a => [.int .i64 a.stamp, .int .i64 a.row], 2, by decide, fun _ => rfl, by intro a u hu; simp at hu; rcases hu with rfl | rfl <;> rfl⟩
def layEH : Lay (Hd × Int) := ⟨fun e => [.int .i64 e.1.stamp, .int .i64 e.1.row, .int .i64 e.2], 3, by decide, fun _ => rfl, by intro a u hu; simp at hu; rcases hu with rfl | rfl | rfl <;> rfl⟩
def bfH (a b : Hd) : Bool := if a.stamp = b.stamp then decide (a.row < b.row) else decide (a.stamp < b.stamp)
theorem beforeH (a b : Hd) (w : World) : Calls Try.prog 78 #[.agg #[.int .i64 a.stamp, .int .i64 a.row], .agg #[.int .i64 b.stamp, .int .i64 b.row]] w fun e w' => e = .returned (.bool (bfH a b)) ∧ Below w.heap.size w w' := by
  obtain ⟨a0, a1⟩ := a
  obtain ⟨b0, b1⟩ := b
  by_cases h : a0 = b0
  · subst h
    go_enter Try.func78, Try.ntmps78
    go_wp2
    go_ret
    exact ⟨ret_bool (by unfold bfH; rw [if_pos rfl]), below_alloc2 _ _ _⟩
  · go_enter Try.func78, Try.ntmps78
    go_wp2
    go_ret
    exact ⟨ret_bool (by unfold bfH; rw [if_neg h]), below_alloc2 _ _ _⟩
theorem methH (w : World) (a0 a1 : Int) : (method 233 72 (.agg #[.int .i64 a0, .int .i64 a1]) "Before").run Try.prog w = .ok (78, .agg #[.int .i64 a0, .int .i64 a1]) w := by kernel_rfl
set_option maxRecDepth 20000 in
theorem firstH (e f : Hd × Int) (w : World) : Calls Try.prog 59 #[.agg #[.int .i64 e.1.stamp, .int .i64 e.1.row, .int .i64 e.2], .agg #[.int .i64 f.1.stamp, .int .i64 f.1.row, .int .i64 f.2]] w fun r w' => r = .returned (.bool (fst bfH e f)) ∧ Below w.heap.size w w' := by
  obtain ⟨⟨a0, a1⟩, u⟩ := e
  obtain ⟨⟨b0, b1⟩, v⟩ := f
  have hm := fun w => methH w a0 a1
  have hk := fun w => methH w b0 b1
  by_cases huv : u < v
  · go_enter Try.func59, Try.ntmps59
    go_wp2_with fail
    refine (beforeH ⟨b0, b1⟩ ⟨a0, a1⟩ _).mono ?_
    rintro r w' ⟨rfl, hB⟩
    go_wp2
    go_ret
    exact ⟨ret_bool (by unfold fst; rw [if_pos huv]), Below.on (below_alloc2 _ _ _) hB⟩
  · go_enter Try.func59, Try.ntmps59
    go_wp2_with fail
    refine (beforeH ⟨a0, a1⟩ ⟨b0, b1⟩ _).mono ?_
    rintro r w' ⟨rfl, hB⟩
    go_wp2
    go_ret
    exact ⟨ret_bool (by unfold fst; rw [if_neg (by dsimp only; omega)]), Below.on (below_alloc2 _ _ _) hB⟩
end Go.Proofs.Ytdlpffbeladgaab
