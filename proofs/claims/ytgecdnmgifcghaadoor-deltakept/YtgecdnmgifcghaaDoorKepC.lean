/-
  DeltaKept: what lies in memory while a copy is made and read and two variables are laid, in whatever order.
-/
import Derived.Test.YtgecdnmgifcghaaDoorRgI
namespace Go.Proofs.YtgecdnmgifcghaaDoor
open Go.RowKit
theorem upd_mono {B : Nat → Bool} {i j : Nat} (h : B j = true) : upd B i j = true := by unfold upd; split; rfl; exact h
/-- What copied has answered can be read. -/
def CpOk (n : Nat) (S O K : Int) (ans : Value) (W : World) (v : Value) : Prop :=
  ∃ a' c', v = .slice a' n c' ∧ ∀ Y, Below W.heap.size W Y → Calls Tryd.prog 14 #[.agg #[.int .i64 S, .int .u64 O, .int .i64 K], .slice a' n c', .int .i64 0] Y fun e w3 => e = .returned ans ∧ Below Y.heap.size Y w3
theorem CpOk.below {n : Nat} {S O K : Int} {ans : Value} {W W' : World} {v : Value} (h : CpOk n S O K ans W v) (hb : Below W.heap.size W W') : CpOk n S O K ans W' v := by
  obtain ⟨a', c', e, H⟩ := h
  exact ⟨a', c', e, fun Y hY => H Y (hb.trans (hY.mono hb.size))⟩
structure R20 (wm W : World) (n : Nat) (S O K : Int) (ans : Value) (rc sc : Array Value) (b5 b6 b12 b13 b14 b16 : Bool) (v22 v24 v157 : Value) : Prop where
  below : Below wm.heap.size wm W
  cp : b5 = true → b6 = false → CpOk n S O K ans W v157
  r : b12 = true → ∃ b, v22 = .pointer (some ⟨b, 0, none⟩) ∧ wm.heap.size ≤ b ∧ W.heap[b]? = some (.cells (if b14 = true then rc else #[.int .i64 0, .int .i64 0, .int .u64 0, .int .u64 0, .int .i64 0]) 32 (0, 0))
  s : b13 = true → ∃ b, v24 = .pointer (some ⟨b, 0, none⟩) ∧ wm.heap.size ≤ b ∧ W.heap[b]? = some (.cells (if b16 = true then sc else #[.int .i64 0, .int .u64 0, .int .i64 0]) 26 (0, 0))
  o14 : b14 = true → b12 = true ∧ b6 = true
  o16 : b16 = true → b13 = true ∧ b6 = true
section
variable {wm W W' : World} {n : Nat} {S O K : Int} {ans : Value} {rc sc : Array Value} {b5 b6 b12 b13 b14 b16 : Bool} {v22 v24 v157 : Value}
theorem R20.on (h : R20 wm W n S O K ans rc sc b5 b6 b12 b13 b14 b16 v22 v24 v157) (hb : Below W.heap.size W W') : R20 wm W' n S O K ans rc sc b5 b6 b12 b13 b14 b16 v22 v24 v157 := by
  refine ⟨h.below.trans (hb.mono h.below.size), fun e1 e2 => (h.cp e1 e2).below hb, fun e => ?_, fun e => ?_, h.o14, h.o16⟩
  · obtain ⟨b, h1, h2, h3⟩ := h.r e
    exact ⟨b, h1, h2, (hb.block b (lt_of_heap h3)).trans h3⟩
  · obtain ⟨b, h1, h2, h3⟩ := h.s e
    exact ⟨b, h1, h2, (hb.block b (lt_of_heap h3)).trans h3⟩
/-- copied has answered. -/
theorem R20.copied (h : R20 wm W n S O K ans rc sc false b6 b12 b13 b14 b16 v22 v24 v157) (hb : Below W.heap.size W W') {v : Value} (hc : CpOk n S O K ans W' v) : R20 wm W' n S O K ans rc sc true b6 b12 b13 b14 b16 v22 v24 v := by
  have h' := h.on hb
  exact ⟨h'.below, fun _ _ => hc, h'.r, h'.s, h.o14, h.o16⟩
/-- Get has answered. -/
theorem R20.got (h : R20 wm W n S O K ans rc sc b5 false b12 b13 b14 b16 v22 v24 v157) (hb : Below W.heap.size W W') : R20 wm W' n S O K ans rc sc b5 true b12 b13 b14 b16 v22 v24 v157 := by
  have h' := h.on hb
  exact ⟨h'.below, fun _ e => (by cases e), h'.r, h'.s, fun e => absurd (h.o14 e).2 (by decide), fun e => absurd (h.o16 e).2 (by decide)⟩
/-- The record's variable. -/
theorem R20.recA (h : R20 wm W n S O K ans rc sc b5 b6 false b13 b14 b16 v22 v24 v157) : R20 wm (W.alloc (.cells #[.int .i64 0, .int .i64 0, .int .u64 0, .int .u64 0, .int .i64 0] 32)) n S O K ans rc sc b5 b6 true b13 b14 b16 (.pointer (some ⟨W.heap.size, 0, none⟩)) v24 v157 := by
  have h' := h.on (below_alloc1 W (.cells #[.int .i64 0, .int .i64 0, .int .u64 0, .int .u64 0, .int .i64 0] 32))
  refine ⟨h'.below, h'.cp, fun _ => ⟨W.heap.size, rfl, h.below.size, ?_⟩, h'.s, fun e => absurd (h.o14 e).1 (by decide), h.o16⟩
  rw [if_neg (fun e => absurd (h.o14 e).1 (by decide))]
  exact heap_new _ _
/-- The state's variable. -/
theorem R20.st (h : R20 wm W n S O K ans rc sc b5 b6 b12 false b14 b16 v22 v24 v157) : R20 wm (W.alloc (.cells #[.int .i64 0, .int .u64 0, .int .i64 0] 26)) n S O K ans rc sc b5 b6 b12 true b14 b16 v22 (.pointer (some ⟨W.heap.size, 0, none⟩)) v157 := by
  have h' := h.on (below_alloc1 W (.cells #[.int .i64 0, .int .u64 0, .int .i64 0] 26))
  refine ⟨h'.below, h'.cp, h'.r, fun _ => ⟨W.heap.size, rfl, h.below.size, ?_⟩, h.o14, fun e => absurd (h.o16 e).1 (by decide)⟩
  rw [if_neg (fun e => absurd (h.o16 e).1 (by decide))]
  exact heap_new _ _
theorem R20.recAt (h : R20 wm W n S O K ans rc sc b5 b6 true b13 false b16 v22 v24 v157) : ∃ b, v22 = .pointer (some ⟨b, 0, none⟩) ∧ wm.heap.size ≤ b ∧ W.heap[b]? = some (.cells #[.int .i64 0, .int .i64 0, .int .u64 0, .int .u64 0, .int .i64 0] 32 (0, 0)) := by
  obtain ⟨b, h1, h2, h3⟩ := h.r rfl
  exact ⟨b, h1, h2, by simpa using h3⟩
theorem R20.stAt (h : R20 wm W n S O K ans rc sc b5 b6 b12 true b14 false v22 v24 v157) : ∃ b, v24 = .pointer (some ⟨b, 0, none⟩) ∧ wm.heap.size ≤ b ∧ W.heap[b]? = some (.cells #[.int .i64 0, .int .u64 0, .int .i64 0] 26 (0, 0)) := by
  obtain ⟨b, h1, h2, h3⟩ := h.s rfl
  exact ⟨b, h1, h2, by simpa using h3⟩
/-- The record is stored. -/
theorem R20.recS {b : Nat} {x y z u v : Value} (h : R20 wm W n S O K ans #[x, y, z, u, v] sc b5 b6 true b13 false b16 (.pointer (some ⟨b, 0, none⟩)) v24 v157) (h6 : b6 = true) : R20 wm (((((W.setCell ⟨b, 0, none⟩ x).setCell ⟨b, 1, none⟩ y).setCell ⟨b, 2, none⟩ z).setCell ⟨b, 3, none⟩ u).setCell ⟨b, 4, none⟩ v) n S O K ans #[x, y, z, u, v] sc b5 b6 true b13 true b16 (.pointer (some ⟨b, 0, none⟩)) v24 v157 := by
  obtain ⟨b', e1, h2, h3⟩ := h.recAt
  cases e1
  refine ⟨Bel.set (Bel.set (Bel.set (Bel.set (Bel.set h.below h2 _) h2 _) h2 _) h2 _) h2 _, fun _ e => absurd e (by rw [h6]; decide), fun _ => ⟨b, rfl, h2, by rw [if_pos rfl]; exact rec5_heap h3⟩, fun e => ?_, fun _ => ⟨rfl, h6⟩, h.o16⟩
  obtain ⟨c, q1, q2, q3⟩ := h.s e
  have hne : c ≠ b := by
    intro e; subst e
    rw [q3] at h3; simp at h3
  exact ⟨c, q1, q2, by rw [set_far _ hne, set_far _ hne, set_far _ hne, set_far _ hne, set_far _ hne]; exact q3⟩
/-- The state is stored. -/
theorem R20.stS {b : Nat} {x y z : Value} (h : R20 wm W n S O K ans rc #[x, y, z] b5 b6 b12 true b14 false v22 (.pointer (some ⟨b, 0, none⟩)) v157) (h6 : b6 = true) : R20 wm (((W.setCell ⟨b, 0, none⟩ x).setCell ⟨b, 1, none⟩ y).setCell ⟨b, 2, none⟩ z) n S O K ans rc #[x, y, z] b5 b6 b12 true b14 true v22 (.pointer (some ⟨b, 0, none⟩)) v157 := by
  obtain ⟨b', e1, h2, h3⟩ := h.stAt
  cases e1
  refine ⟨Bel.set (Bel.set (Bel.set h.below h2 _) h2 _) h2 _, fun _ e => absurd e (by rw [h6]; decide), fun e => ?_, fun _ => ⟨b, rfl, h2, by rw [if_pos rfl]; exact set3_heap h3⟩, h.o14, fun _ => ⟨rfl, h6⟩⟩
  obtain ⟨c, q1, q2, q3⟩ := h.r e
  have hne : c ≠ b := by
    intro e; subst e
    rw [q3] at h3; simp at h3
  exact ⟨c, q1, q2, by rw [set_far _ hne, set_far _ hne, set_far _ hne]; exact q3⟩
end
end Go.Proofs.YtgecdnmgifcghaaDoor
