/-
  Things of a heap, which of two comes first.
-/
import Derived.Test.YtdmlehbamdcjcaaHpB
namespace Go.Proofs.Ytdmlehbamdcjcaa
open Go.RowKit
structure Rc where
  stamp : Int
  kind : Int
  obj : Int
  arg : Int
  stack : Int
def layR : Lay Rc := ⟨fun a => [.int .i64 a.stamp, .int .i64 a.kind, .int .u64 a.obj, .int .u64 a.arg, .int .i64 a.stack], 5, by decide, fun _ => rfl, by intro a u hu; simp at hu; rcases hu with rfl | rfl | rfl | rfl | rfl <;> rfl⟩
def layER : Lay (Rc × Int) := ⟨fun e => [.int .i64 e.1.stamp, .int .i64 e.1.kind, .int .u64 e.1.obj, .int .u64 e.1.arg, .int .i64 e.1.stack, .int .i64 e.2], 6, by decide, fun _ => rfl, by intro a u hu; simp at hu; rcases hu with rfl | rfl | rfl | rfl | rfl | rfl <;> rfl⟩
def bfR (a b : Rc) : Bool := decide (a.stamp < b.stamp)
theorem beforeR (a b : Rc) (w : World) : Calls Try.prog 113 #[.agg #[.int .i64 a.stamp, .int .i64 a.kind, .int .u64 a.obj, .int .u64 a.arg, .int .i64 a.stack], .agg #[.int .i64 b.stamp, .int .i64 b.kind, .int .u64 b.obj, .int .u64 b.arg, .int .i64 b.stack]] w fun e w' => e = .returned (.bool (bfR a b)) ∧ Below w.heap.size w w' := by
  obtain ⟨a0, a1, a2, a3, a4⟩ := a
  obtain ⟨b0, b1, b2, b3, b4⟩ := b
  go_enter Try.func113, Try.ntmps113
  go_wp2
  go_ret
  exact ⟨rfl, below_alloc2 _ _ _⟩
theorem methR (w : World) (a0 a1 a2 a3 a4 : Int) : (method 263 47 (.agg #[.int .i64 a0, .int .i64 a1, .int .u64 a2, .int .u64 a3, .int .i64 a4]) "Before").run Try.prog w = .ok (113, .agg #[.int .i64 a0, .int .i64 a1, .int .u64 a2, .int .u64 a3, .int .i64 a4]) w := by kernel_rfl
set_option maxRecDepth 20000 in
theorem firstR (e f : Rc × Int) (w : World) : Calls Try.prog 73 #[.agg #[.int .i64 e.1.stamp, .int .i64 e.1.kind, .int .u64 e.1.obj, .int .u64 e.1.arg, .int .i64 e.1.stack, .int .i64 e.2], .agg #[.int .i64 f.1.stamp, .int .i64 f.1.kind, .int .u64 f.1.obj, .int .u64 f.1.arg, .int .i64 f.1.stack, .int .i64 f.2]] w fun r w' => r = .returned (.bool (fst bfR e f)) ∧ Below w.heap.size w w' := by
  obtain ⟨⟨a0, a1, a2, a3, a4⟩, u⟩ := e
  obtain ⟨⟨b0, b1, b2, b3, b4⟩, v⟩ := f
  have hm := fun w => methR w a0 a1 a2 a3 a4
  have hk := fun w => methR w b0 b1 b2 b3 b4
  by_cases huv : u < v
  · go_enter Try.func73, Try.ntmps73
    go_wp2_with fail
    refine (beforeR ⟨b0, b1, b2, b3, b4⟩ ⟨a0, a1, a2, a3, a4⟩ _).mono ?_
    rintro r w' ⟨rfl, hB⟩
    go_wp2
    go_ret
    exact ⟨ret_bool (by unfold fst; rw [if_pos huv]), Below.on (below_alloc2 _ _ _) hB⟩
  · go_enter Try.func73, Try.ntmps73
    go_wp2_with fail
    refine (beforeR ⟨a0, a1, a2, a3, a4⟩ ⟨b0, b1, b2, b3, b4⟩ _).mono ?_
    rintro r w' ⟨rfl, hB⟩
    go_wp2
    go_ret
    exact ⟨ret_bool (by unfold fst; rw [if_neg (by dsimp only; omega)]), Below.on (below_alloc2 _ _ _) hB⟩
end Go.Proofs.Ytdmlehbamdcjcaa
