/-
  The calls of a heap: New, Len, Peek, Push, Pop.
-/
import Derived.Test.YtdmlehbamdcjcaaHpER
namespace Go.Proofs.Ytdmlehbamdcjcaa
open Go.RowKit
/-- A heap at p: what its field holds, its entries, how many were pushed. -/
structure HqR (w : World) (base p : Nat) (v : Value) (n : Int) (E : List (Rc × Int)) : Prop where
  hp : w.heap[p]? = some (.cells #[v, .int .i64 n] 86 (0, 0))
  own : Own layER 89 w base v E
theorem HqR.but {S : Nat → Prop} {w w' : World} {base p : Nat} {v : Value} {n : Int} {E : List (Rc × Int)} (h : HqR w base p v n E) (hb : But S w w') (hp : ¬ S p) (hv : ∀ g, v.ownBlock = some g → ¬ S g) : HqR w' base p v n E :=
  ⟨(hb.block p (hp_cellsR h.hp).2.2 hp).trans h.hp, h.own.but hb hv⟩
theorem HqR.below {w w' : World} {base p : Nat} {v : Value} {n : Int} {E : List (Rc × Int)} (h : HqR w base p v n E) (hb : Below w.heap.size w w') : HqR w' base p v n E :=
  h.but (S := fun _ => False) (But.of_below hb) (fun e => e) (fun _ _ e => e)
theorem HqR.lt {w : World} {base p : Nat} {v : Value} {n : Int} {E : List (Rc × Int)} (h : HqR w base p v n E) : p < w.heap.size := (hp_cellsR h.hp).2.2
theorem newR (w : World) : Calls Try.prog 21 #[] w fun r w' => r = .returned (.pointer (some ⟨w.heap.size, 0, none⟩)) ∧ HqR w' w.heap.size w.heap.size (.slice none 0 0) 0 [] ∧ Below w.heap.size w w' := by
  go_enter Try.func21, Try.ntmps21
  go_wp2
  go_ret
  exact ⟨rfl, ⟨heap_new _ _, Own.nil _ _ _ _⟩, below_alloc1 _ _⟩
theorem lenR {w : World} {base p : Nat} {v : Value} {n : Int} {E : List (Rc × Int)} (h : HqR w base p v n E) : Calls Try.prog 24 #[.pointer (some ⟨p, 0, none⟩)] w fun r w' => r = .returned (.int .i64 E.length) ∧ w' = w := by
  obtain ⟨a, c, rfl, _⟩ := own_form h.own
  obtain ⟨p0, p1, hp⟩ := hp_cellsR h.hp
  clear h
  go_enter Try.func24, Try.ntmps24
  go_wp2
  go_ret
  exact ⟨rfl, rfl⟩
theorem len_nilR (w : World) : Calls Try.prog 24 #[.pointer none] w fun r w' => r = .returned (.int .i64 0) ∧ w' = w := by
  go_enter Try.func24, Try.ntmps24
  go_wp2
  go_ret
  exact ⟨rfl, rfl⟩
theorem peek_nilR (w : World) : Calls Try.prog 47 #[.pointer none] w fun r w' => r = .returned (.tuple #[.agg #[.int .i64 0, .int .i64 0, .int .u64 0, .int .u64 0, .int .i64 0], .int .i64 1]) ∧ Below w.heap.size w w' := by
  go_enter Try.func47, Try.ntmps47
  go_wp2_with fail
  refine bodyPost_ret (results_ct rfl _ _ w.heap.size 47 #[.int .i64 0, .int .i64 0, .int .u64 0, .int .u64 0, .int .i64 0] (0, 0) _ rfl ?_ Try.underlying47 rfl (by kernel_rfl)) rfl ?_
  · exact (Below.heap_alloc _ _ _ (by simp)).trans (heap_new _ _)
  · exact ⟨rfl, below_alloc2 _ _ _⟩
theorem peek_emptyR {w : World} {base p : Nat} {v : Value} {n : Int} (h : HqR w base p v n []) : Calls Try.prog 47 #[.pointer (some ⟨p, 0, none⟩)] w fun r w' => r = .returned (.tuple #[.agg #[.int .i64 0, .int .i64 0, .int .u64 0, .int .u64 0, .int .i64 0], .int .i64 90]) ∧ Below w.heap.size w w' := by
  obtain ⟨a, c, rfl, _⟩ := own_form h.own
  obtain ⟨p0, p1, hp⟩ := hp_cellsR h.hp
  clear h
  simp only [List.length_nil] at p0
  go_enter Try.func47, Try.ntmps47
  go_wp2_with fail
  refine bodyPost_ret (results_ct rfl _ _ w.heap.size 47 #[.int .i64 0, .int .i64 0, .int .u64 0, .int .u64 0, .int .i64 0] (0, 0) _ rfl ?_ Try.underlying47 rfl (by kernel_rfl)) rfl ?_
  · exact (Below.heap_alloc _ _ _ (by simp)).trans (heap_new _ _)
  · exact ⟨rfl, below_alloc2 _ _ _⟩
theorem peekR {w : World} {base p : Nat} {v : Value} {n : Int} {E : List (Rc × Int)} {e : Rc × Int} (h : HqR w base p v n E) (h0 : E[0]? = some e) : Calls Try.prog 47 #[.pointer (some ⟨p, 0, none⟩)] w fun r w' => r = .returned (.tuple #[.agg #[.int .i64 e.1.stamp, .int .i64 e.1.kind, .int .u64 e.1.obj, .int .u64 e.1.arg, .int .i64 e.1.stack], .int .i64 0]) ∧ Below w.heap.size w w' := by
  obtain ⟨⟨a0, a1, a2, a3, a4⟩, ua⟩ := e
  have hl := get_lt h0
  obtain ⟨g, c, rfl, _, hg, _⟩ := h.own.frm hl
  obtain ⟨p0, p1, hp⟩ := hp_cellsR h.hp
  have x0 : w.cell? ⟨g, 0, none⟩ = some (.int .i64 a0) := (by have := h.own.cell h0 0 rfl; rw [Nat.zero_mul, Nat.zero_add] at this; exact this); have x1 : w.cell? ⟨g, 1, none⟩ = some (.int .i64 a1) := (by have := h.own.cell h0 1 rfl; rw [Nat.zero_mul, Nat.zero_add] at this; exact this); have x2 : w.cell? ⟨g, 2, none⟩ = some (.int .u64 a2) := (by have := h.own.cell h0 2 rfl; rw [Nat.zero_mul, Nat.zero_add] at this; exact this); have x3 : w.cell? ⟨g, 3, none⟩ = some (.int .u64 a3) := (by have := h.own.cell h0 3 rfl; rw [Nat.zero_mul, Nat.zero_add] at this; exact this); have x4 : w.cell? ⟨g, 4, none⟩ = some (.int .i64 a4) := (by have := h.own.cell h0 4 rfl; rw [Nat.zero_mul, Nat.zero_add] at this; exact this)
  clear h h0
  generalize E.length = N at *
  have hN : ¬ N = 0 := by omega
  have hNb : (N == 0) = false := by simp [hN]
  have hNi : ((N : Int) == 0) = false := by simp [hN]
  go_enter Try.func47, Try.ntmps47
  go_wp2_with fail
  refine bodyPost_ret (results_ct rfl _ _ w.heap.size 47 #[.int .i64 a0, .int .i64 a1, .int .u64 a2, .int .u64 a3, .int .i64 a4] (0, 0) _ rfl ?_ Try.underlying47 rfl (by kernel_rfl)) rfl ?_
  · exact (Below.heap_alloc _ _ _ (by simp)).trans (heap_new _ _)
  · exact ⟨rfl, below_alloc2 _ _ _⟩
end Go.Proofs.Ytdmlehbamdcjcaa
