/-
  Things of a heap, which of two comes first.
-/
import Derived.Test.YtdmlehbamdcjcaaHpB
namespace Go.Proofs.Ytdmlehbamdcjcaa
open Go.RowKit
structure Od where
  k : Int
  s : Int
  t : Int
def layO : Lay Od := ⟨fun a => [.int .i64 a.k, .int .i64 a.s, .int .i64 a.t], 3, by decide, fun _ => rfl, by intro a u hu; simp at hu; rcases hu with rfl | rfl | rfl <;> rfl⟩
def layEO : Lay (Od × Int) := ⟨fun e => [.int .i64 e.1.k, .int .i64 e.1.s, .int .i64 e.1.t, .int .i64 e.2], 4, by decide, fun _ => rfl, by intro a u hu; simp at hu; rcases hu with rfl | rfl | rfl | rfl <;> rfl⟩
def bfO (a b : Od) : Bool := (IntKind.u64.wrap ((IntKind.u64.wrap (IntKind.u64.wrap (IntKind.u64.wrap (IntKind.u64.wrap a.k * 2654435761) + IntKind.u64.wrap (IntKind.u64.wrap b.k * 40503)) + IntKind.u64.wrap (IntKind.u64.wrap a.s * 97))).tdiv 8)).tmod 3 == 1
theorem beforeO (a b : Od) (w : World) : Calls Try.prog 116 #[.agg #[.int .i64 a.k, .int .i64 a.s, .int .i64 a.t], .agg #[.int .i64 b.k, .int .i64 b.s, .int .i64 b.t]] w fun e w' => e = .returned (.bool (bfO a b)) ∧ Below w.heap.size w w' := by
  obtain ⟨a0, a1, a2⟩ := a
  obtain ⟨b0, b1, b2⟩ := b
  go_enter Try.func116, Try.ntmps116
  go_wp2
  go_ret
  exact ⟨rfl, below_alloc2 _ _ _⟩
theorem methO (w : World) (a0 a1 a2 : Int) : (method 263 65 (.agg #[.int .i64 a0, .int .i64 a1, .int .i64 a2]) "Before").run Try.prog w = .ok (116, .agg #[.int .i64 a0, .int .i64 a1, .int .i64 a2]) w := by kernel_rfl
set_option maxRecDepth 20000 in
theorem firstO (e f : Od × Int) (w : World) : Calls Try.prog 77 #[.agg #[.int .i64 e.1.k, .int .i64 e.1.s, .int .i64 e.1.t, .int .i64 e.2], .agg #[.int .i64 f.1.k, .int .i64 f.1.s, .int .i64 f.1.t, .int .i64 f.2]] w fun r w' => r = .returned (.bool (fst bfO e f)) ∧ Below w.heap.size w w' := by
  obtain ⟨⟨a0, a1, a2⟩, u⟩ := e
  obtain ⟨⟨b0, b1, b2⟩, v⟩ := f
  have hm := fun w => methO w a0 a1 a2
  have hk := fun w => methO w b0 b1 b2
  by_cases huv : u < v
  · go_enter Try.func77, Try.ntmps77
    go_wp2_with fail
    refine (beforeO ⟨b0, b1, b2⟩ ⟨a0, a1, a2⟩ _).mono ?_
    rintro r w' ⟨rfl, hB⟩
    go_wp2
    go_ret
    exact ⟨ret_bool (by unfold fst; rw [if_pos huv]), Below.on (below_alloc2 _ _ _) hB⟩
  · go_enter Try.func77, Try.ntmps77
    go_wp2_with fail
    refine (beforeO ⟨a0, a1, a2⟩ ⟨b0, b1, b2⟩ _).mono ?_
    rintro r w' ⟨rfl, hB⟩
    go_wp2
    go_ret
    exact ⟨ret_bool (by unfold fst; rw [if_neg (by dsimp only; omega)]), Below.on (below_alloc2 _ _ _) hB⟩
end Go.Proofs.Ytdmlehbamdcjcaa
