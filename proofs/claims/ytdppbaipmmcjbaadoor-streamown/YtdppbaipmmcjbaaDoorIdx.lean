/-
  An array of parts, indexed.
-/
import Derived.Test.YtdppbaipmmcjbaaDoorGetA
namespace Go.Proofs.YtdppbaipmmcjbaaDoor
open Go.RowKit
theorem idx0 (w : World) (a b c d e f : Value) : (Instr.index 98 (.agg #[a, b, c, d, e, f]) (.int .i64 0)).run Tryd.prog w = .ok (.agg #[a, b]) w := by
  simp [Instr.index, run_underlying Tryd.underlying98, asIntOf, go_sem]
theorem idx1 (w : World) (a b c d e f : Value) : (Instr.index 98 (.agg #[a, b, c, d, e, f]) (.int .i64 1)).run Tryd.prog w = .ok (.agg #[c, d]) w := by
  simp [Instr.index, run_underlying Tryd.underlying98, asIntOf, go_sem]
theorem idx2 (w : World) (a b c d e f : Value) : (Instr.index 98 (.agg #[a, b, c, d, e, f]) (.int .i64 2)).run Tryd.prog w = .ok (.agg #[e, f]) w := by
  simp [Instr.index, run_underlying Tryd.underlying98, asIntOf, go_sem]
theorem r5_cells {w : World} {g : Nat} {T : TypeId} {a b c d e : Value} (h : w.heap[g]? = some (.cells #[a, b, c, d, e] T (0, 0))) : w.cell? ⟨g, 0, none⟩ = some a ∧ w.cell? ⟨g, 1, none⟩ = some b ∧ w.cell? ⟨g, 2, none⟩ = some c ∧ w.cell? ⟨g, 3, none⟩ = some d ∧ w.cell? ⟨g, 4, none⟩ = some e :=
  ⟨by rw [cell_of_row w g 0 _ T (0, 0) h]; rfl, by rw [cell_of_row w g 1 _ T (0, 0) h]; rfl, by rw [cell_of_row w g 2 _ T (0, 0) h]; rfl, by rw [cell_of_row w g 3 _ T (0, 0) h]; rfl, by rw [cell_of_row w g 4 _ T (0, 0) h]; rfl⟩
theorem heap_old {w : World} {g : Nat} {o : Obj} {x : Obj} (h : w.heap[g]? = some x) : (w.alloc o).heap[g]? = some x := (Below.heap_alloc _ _ _ (Array.getElem?_eq_some_iff.1 h).1).trans h
theorem lt_of_heap {w : World} {g : Nat} {x : Obj} (h : w.heap[g]? = some x) : g < w.heap.size := (Array.getElem?_eq_some_iff.1 h).1
end Go.Proofs.YtdppbaipmmcjbaaDoor
