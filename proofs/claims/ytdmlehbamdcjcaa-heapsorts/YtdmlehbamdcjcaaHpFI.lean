/-
  The calls of a heap: New, Len, Peek, Push, Pop.
-/
import Derived.Test.YtdmlehbamdcjcaaHpEI
namespace Go.Proofs.Ytdmlehbamdcjcaa
open Go.RowKit
/-- A heap at p: what its field holds, its entries, how many were pushed. -/
structure HqI (w : World) (base p : Nat) (v : Value) (n : Int) (E : List (It × Int)) : Prop where
  hp : w.heap[p]? = some (.cells #[v, .int .i64 n] 81 (0, 0))
  own : Own layEI 77 w base v E
theorem HqI.but {S : Nat → Prop} {w w' : World} {base p : Nat} {v : Value} {n : Int} {E : List (It × Int)} (h : HqI w base p v n E) (hb : But S w w') (hp : ¬ S p) (hv : ∀ g, v.ownBlock = some g → ¬ S g) : HqI w' base p v n E :=
  ⟨(hb.block p (hp_cellsI h.hp).2.2 hp).trans h.hp, h.own.but hb hv⟩
theorem HqI.below {w w' : World} {base p : Nat} {v : Value} {n : Int} {E : List (It × Int)} (h : HqI w base p v n E) (hb : Below w.heap.size w w') : HqI w' base p v n E :=
  h.but (S := fun _ => False) (But.of_below hb) (fun e => e) (fun _ _ e => e)
theorem HqI.lt {w : World} {base p : Nat} {v : Value} {n : Int} {E : List (It × Int)} (h : HqI w base p v n E) : p < w.heap.size := (hp_cellsI h.hp).2.2
theorem newI (w : World) : Calls Try.prog 14 #[] w fun r w' => r = .returned (.pointer (some ⟨w.heap.size, 0, none⟩)) ∧ HqI w' w.heap.size w.heap.size (.slice none 0 0) 0 [] ∧ Below w.heap.size w w' := by
  go_enter Try.func14, Try.ntmps14
  go_wp2
  go_ret
  exact ⟨rfl, ⟨heap_new _ _, Own.nil _ _ _ _⟩, below_alloc1 _ _⟩
theorem lenI {w : World} {base p : Nat} {v : Value} {n : Int} {E : List (It × Int)} (h : HqI w base p v n E) : Calls Try.prog 17 #[.pointer (some ⟨p, 0, none⟩)] w fun r w' => r = .returned (.int .i64 E.length) ∧ w' = w := by
  obtain ⟨a, c, rfl, _⟩ := own_form h.own
  obtain ⟨p0, p1, hp⟩ := hp_cellsI h.hp
  clear h
  go_enter Try.func17, Try.ntmps17
  go_wp2
  go_ret
  exact ⟨rfl, rfl⟩
theorem len_nilI (w : World) : Calls Try.prog 17 #[.pointer none] w fun r w' => r = .returned (.int .i64 0) ∧ w' = w := by
  go_enter Try.func17, Try.ntmps17
  go_wp2
  go_ret
  exact ⟨rfl, rfl⟩
theorem peek_nilI (w : World) : Calls Try.prog 43 #[.pointer none] w fun r w' => r = .returned (.tuple #[.agg #[.int .i64 0, .int .i64 0], .int .i64 1]) ∧ Below w.heap.size w w' := by
  go_enter Try.func43, Try.ntmps43
  go_wp2_with fail
  refine bodyPost_ret (results_ct rfl _ _ w.heap.size 27 #[.int .i64 0, .int .i64 0] (0, 0) _ rfl ?_ Try.underlying27 rfl (by kernel_rfl)) rfl ?_
  · exact (Below.heap_alloc _ _ _ (by simp)).trans (heap_new _ _)
  · exact ⟨rfl, below_alloc2 _ _ _⟩
theorem peek_emptyI {w : World} {base p : Nat} {v : Value} {n : Int} (h : HqI w base p v n []) : Calls Try.prog 43 #[.pointer (some ⟨p, 0, none⟩)] w fun r w' => r = .returned (.tuple #[.agg #[.int .i64 0, .int .i64 0], .int .i64 90]) ∧ Below w.heap.size w w' := by
  obtain ⟨a, c, rfl, _⟩ := own_form h.own
  obtain ⟨p0, p1, hp⟩ := hp_cellsI h.hp
  clear h
  simp only [List.length_nil] at p0
  go_enter Try.func43, Try.ntmps43
  go_wp2_with fail
  refine bodyPost_ret (results_ct rfl _ _ w.heap.size 27 #[.int .i64 0, .int .i64 0] (0, 0) _ rfl ?_ Try.underlying27 rfl (by kernel_rfl)) rfl ?_
  · exact (Below.heap_alloc _ _ _ (by simp)).trans (heap_new _ _)
  · exact ⟨rfl, below_alloc2 _ _ _⟩
theorem peekI {w : World} {base p : Nat} {v : Value} {n : Int} {E : List (It × Int)} {e : It × Int} (h : HqI w base p v n E) (h0 : E[0]? = some e) : Calls Try.prog 43 #[.pointer (some ⟨p, 0, none⟩)] w fun r w' => r = .returned (.tuple #[.agg #[.int .i64 e.1.k, .int .i64 e.1.t], .int .i64 0]) ∧ Below w.heap.size w w' := by
  obtain ⟨⟨a0, a1⟩, ua⟩ := e
  have hl := get_lt h0
  obtain ⟨g, c, rfl, _, hg, _⟩ := h.own.frm hl
  obtain ⟨p0, p1, hp⟩ := hp_cellsI h.hp
  have x0 : w.cell? ⟨g, 0, none⟩ = some (.int .i64 a0) := (by have := h.own.cell h0 0 rfl; rw [Nat.zero_mul, Nat.zero_add] at this; exact this); have x1 : w.cell? ⟨g, 1, none⟩ = some (.int .i64 a1) := (by have := h.own.cell h0 1 rfl; rw [Nat.zero_mul, Nat.zero_add] at this; exact this)
  clear h h0
  generalize E.length = N at *
  have hN : ¬ N = 0 := by omega
  have hNb : (N == 0) = false := by simp [hN]
  have hNi : ((N : Int) == 0) = false := by simp [hN]
  go_enter Try.func43, Try.ntmps43
  go_wp2_with fail
  refine bodyPost_ret (results_ct rfl _ _ w.heap.size 27 #[.int .i64 a0, .int .i64 a1] (0, 0) _ rfl ?_ Try.underlying27 rfl (by kernel_rfl)) rfl ?_
  · exact (Below.heap_alloc _ _ _ (by simp)).trans (heap_new _ _)
  · exact ⟨rfl, below_alloc2 _ _ _⟩
end Go.Proofs.Ytdmlehbamdcjcaa
