/-
  One step of a play: Len, the table, and others.
-/
import Derived.Test.YtjpccaeojimlfaaPlyD
namespace Go.Proofs.Ytjpccaeojimlfaa
open Go.RowKit Go.Maps Go.Shelf
attribute [local go_sem] Oper.semAt_some
def opO (kd wh : Int) (sa : Option Addr) (sn sc : Nat) (s : ByteArray) (n : Int) : Obj := .cells #[.int .i64 kd, .int .i64 wh, .slice sa sn sc, .string s, .int .i64 n] 93
/-- The step's own words in a new block. -/
structure Boxed5 (w W : World) (kd wh : Int) (sa : Option Addr) (sn sc : Nat) (s : ByteArray) (n : Int) : Prop where
  bel : Below w.heap.size w W
  lt : w.heap.size < W.heap.size
  c0 : W.cell? ⟨w.heap.size, 0, none⟩ = some (.int .i64 kd)
  c1 : W.cell? ⟨w.heap.size, 1, none⟩ = some (.int .i64 wh)
  c2 : W.cell? ⟨w.heap.size, 2, none⟩ = some (.slice sa sn sc)
  c3 : W.cell? ⟨w.heap.size, 3, none⟩ = some (.string s)
  c4 : W.cell? ⟨w.heap.size, 4, none⟩ = some (.int .i64 n)
theorem boxed5 (w : World) (kd wh : Int) (sa : Option Addr) (sn sc : Nat) (s : ByteArray) (n : Int) : Boxed5 w (w.alloc (opO kd wh sa sn sc s n)) kd wh sa sn sc s n := by
  have h := heap_alloc_new w (opO kd wh sa sn sc s n)
  exact ⟨(Below.refl _ w).alloc (Nat.le_refl _) _, by simp, by rw [cell_of_row _ _ 0 _ 93 (0, 0) h]; rfl, by rw [cell_of_row _ _ 1 _ 93 (0, 0) h]; rfl, by rw [cell_of_row _ _ 2 _ 93 (0, 0) h]; rfl, by rw [cell_of_row _ _ 3 _ 93 (0, 0) h]; rfl, by rw [cell_of_row _ _ 4 _ 93 (0, 0) h]; rfl⟩
/-- Which forest a step asks. -/
def Who (wh : Int) (i : Nat) : Prop := (decide (wh < 0) = true ∧ i = 0) ∨ (decide (wh < 0) = false ∧ decide (2 < wh) = true ∧ i = 0) ∨ (wh = (i : Int) ∧ i < 3)
theorem who_all (wh : Int) : ∃ i, i < 3 ∧ Who wh i := by
  by_cases h0 : wh < 0
  · exact ⟨0, by decide, .inl ⟨decide_eq_true h0, rfl⟩⟩
  · by_cases h2 : 2 < wh
    · exact ⟨0, by decide, .inr (.inl ⟨decide_eq_false h0, decide_eq_true h2, rfl⟩)⟩
    · exact ⟨wh.toNat, by omega, .inr (.inr ⟨by omega, by omega⟩)⟩
def StepR (w0 : World) (pb : Nat) (e : Ending) (w' : World) : Prop := e = .returned (.bool true) ∧ Play5 w0 w' pb
section
variable {w0 w : World} {pb tb ub FB GB : Nat} {f g : Nat → Nat} {Z : Nat → Nat → Prop} {L : List ByteArray} {N : Nat → List Nd} {P : Nat → List Stk}
set_option maxHeartbeats 1000000 in
set_option maxRecDepth 4000 in
theorem step_len (h : Ply w0 w pb tb ub FB GB f g Z L L N N P) (wh : Int) (sa : Option Addr) (sn sc : Nat) (s : ByteArray) (n : Int) :
    Calls Try.prog 43 #[.pointer (some ⟨pb, 0, none⟩), .agg #[.int .i64 2, .int .i64 wh, .slice sa sn sc, .string s, .int .i64 n]] w (StepR w0 pb) := by
  obtain ⟨i, hi, hwho⟩ := who_all wh
  have hX := boxed5 w 2 wh sa sn sc s n
  obtain ⟨W0, hW0⟩ : ∃ W0, W0 = w.alloc (opO 2 wh sa sn sc s n) := ⟨_, rfl⟩
  rw [← hW0] at hX
  unfold opO at hW0
  have h0 := h.below hX.bel
  obtain ⟨_, _, p2, p3⟩ := h0.cells
  obtain ⟨kF, kG⟩ := h0.forest i hi
  obtain ⟨x, hx⟩ : ∃ x, x = fPtr f i := ⟨_, rfl⟩
  obtain ⟨y, hy⟩ : ∃ y, y = fPtr g i := ⟨_, rfl⟩
  have HQ1 : Hid _ := hide (len_x h0 i)
  have HQ2 : Hid _ := hide (rlen_x h0 i)
  rw [← hx] at kF HQ1
  rw [← hy] at kG HQ2
  have b0 := hX.c0
  have b1 := hX.c1
  have H0 : Hid _ := hide h0
  generalize lAns N i = r at HQ1 HQ2
  clear hx hy h hX h0
  subst hW0
  go_enter Try.func43, Try.ntmps43
  have hi' : (i : Int) < 3 := by omega
  rcases hwho with ⟨d0, rfl⟩ | ⟨d0, d2, rfl⟩ | ⟨rfl, hi3⟩
  all_goals
    go_wp2_with fail
    refine HQ1.out.mono ?_
    rintro e w2 ⟨rfl, hw2⟩
    rw [hw2]
    clear hw2 w2
    go_wp2_with fail
    refine HQ2.out.mono ?_
    rintro e w2 ⟨rfl, hw2⟩
    rw [hw2]
    clear hw2 w2
    go_wp2
    go_ret
    exact ⟨rfl, _, _, _, _, _, _, _, _, _, _, H0.out⟩
set_option maxHeartbeats 1000000 in
set_option maxRecDepth 4000 in
theorem step_table (h : Ply w0 w pb tb ub FB GB f g Z L L N N P) (wh : Int) (sa : Option Addr) (sn sc : Nat) (s : ByteArray) (n : Int) :
    Calls Try.prog 43 #[.pointer (some ⟨pb, 0, none⟩), .agg #[.int .i64 4, .int .i64 wh, .slice sa sn sc, .string s, .int .i64 n]] w (StepR w0 pb) := by
  obtain ⟨i, hi, hwho⟩ := who_all wh
  have hX := boxed5 w 4 wh sa sn sc s n
  obtain ⟨W0, hW0⟩ : ∃ W0, W0 = w.alloc (opO 4 wh sa sn sc s n) := ⟨_, rfl⟩
  rw [← hW0] at hX
  unfold opO at hW0
  have h0 := h.below hX.bel
  obtain ⟨p0, p1, p2, p3⟩ := h0.cells
  obtain ⟨kF, kG⟩ := h0.forest i hi
  obtain ⟨x, hx⟩ : ∃ x, x = fPtr f i := ⟨_, rfl⟩
  obtain ⟨y, hy⟩ : ∃ y, y = fPtr g i := ⟨_, rfl⟩
  rw [← hx] at kF
  rw [← hy] at kG
  have b0 := hX.c0
  have b1 := hX.c1
  have H0 : Hid _ := hide h0
  have HQ1 : Hid _ := hide (table_any h0)
  have hi' : (i : Int) < 3 := by omega
  clear hx hy h hX h0 p0 p1
  subst hW0
  go_enter Try.func43, Try.ntmps43
  rcases hwho with ⟨d0, rfl⟩ | ⟨d0, d2, rfl⟩ | ⟨rfl, hi3⟩
  all_goals
    go_wp2_with fail
    refine HQ1.out.mono ?_
    rintro e w2 ⟨rfl, hw2⟩
    have H2 : Hid _ := hide (H0.out.below hw2)
    clear hw2
    go_wp2
    go_ret
    exact ⟨rfl, _, _, _, _, _, _, _, _, _, _, H2.out⟩
set_option maxHeartbeats 1000000 in
set_option maxRecDepth 4000 in
theorem step_other (h : Ply w0 w pb tb ub FB GB f g Z L L N N P) (kd wh : Int) (sa : Option Addr) (sn sc : Nat) (s : ByteArray) (n : Int) (hk : kd < 0 ∨ 5 < kd) :
    Calls Try.prog 43 #[.pointer (some ⟨pb, 0, none⟩), .agg #[.int .i64 kd, .int .i64 wh, .slice sa sn sc, .string s, .int .i64 n]] w (StepR w0 pb) := by
  obtain ⟨i, hi, hwho⟩ := who_all wh
  have hX := boxed5 w kd wh sa sn sc s n
  obtain ⟨W0, hW0⟩ : ∃ W0, W0 = w.alloc (opO kd wh sa sn sc s n) := ⟨_, rfl⟩
  rw [← hW0] at hX
  unfold opO at hW0
  have h0 := h.below hX.bel
  obtain ⟨p0, p1, p2, p3⟩ := h0.cells
  obtain ⟨kF, kG⟩ := h0.forest i hi
  obtain ⟨x, hx⟩ : ∃ x, x = fPtr f i := ⟨_, rfl⟩
  obtain ⟨y, hy⟩ : ∃ y, y = fPtr g i := ⟨_, rfl⟩
  rw [← hx] at kF
  rw [← hy] at kG
  have b0 := hX.c0
  have b1 := hX.c1
  have H0 : Hid _ := hide h0
  have hi' : (i : Int) < 3 := by omega
  have q0 : (kd == 0) = false := by rw [beq_eq_false_iff_ne]; omega
  have q1 : (kd == 1) = false := by rw [beq_eq_false_iff_ne]; omega
  have q2 : (kd == 2) = false := by rw [beq_eq_false_iff_ne]; omega
  have q3 : (kd == 3) = false := by rw [beq_eq_false_iff_ne]; omega
  have q4 : (kd == 4) = false := by rw [beq_eq_false_iff_ne]; omega
  have q5 : (kd == 5) = false := by rw [beq_eq_false_iff_ne]; omega
  clear hx hy h hX h0 p0 p1 hk
  subst hW0
  go_enter Try.func43, Try.ntmps43
  rcases hwho with ⟨d0, rfl⟩ | ⟨d0, d2, rfl⟩ | ⟨rfl, hi3⟩
  all_goals
    go_wp2
    go_ret
    exact ⟨rfl, _, _, _, _, _, _, _, _, _, _, H0.out⟩
end
end Go.Proofs.Ytjpccaeojimlfaa
