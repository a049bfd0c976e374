/-
  A writer in memory: New, Held, Flush, what a Put defers.
-/
import Derived.Test.YtdppbaipmmcjbaaDoorSRec
import Derived.Test.YtdppbaipmmcjbaaDoorEqs
import Derived.Defers
import Derived.Recover
namespace Go.Proofs.YtdppbaipmmcjbaaDoor
open Go.RowKit
theorem heap_newS {w : World} {o : Obj} {n : Nat} (h : w.heap.size = n) : (w.alloc o).heap[n]? = some o := by rw [← h]; exact heap_new _ _
theorem heap_new2 (w : World) (o p : Obj) : ((w.alloc o).alloc p).heap[w.heap.size + 1]? = some p := heap_newS (by simp)
/-- The cells of a writer. -/
def wcs (lim : Int) (v : Value) (held S O K least : Int) : Array Value := #[.int .i64 lim, v, .int .i64 held, .int .i64 S, .int .u64 O, .int .i64 K, .int .i64 least]
theorem w7_cells {w : World} {p : Nat} {lim held S O K least : Int} {v : Value} (h : w.heap[p]? = some (.cells (wcs lim v held S O K least) 75 (0, 0))) :
    w.cell? ⟨p, 0, none⟩ = some (.int .i64 lim) ∧ w.cell? ⟨p, 1, none⟩ = some v ∧ w.cell? ⟨p, 2, none⟩ = some (.int .i64 held) ∧ w.cell? ⟨p, 3, none⟩ = some (.int .i64 S) ∧ w.cell? ⟨p, 4, none⟩ = some (.int .u64 O) ∧ w.cell? ⟨p, 5, none⟩ = some (.int .i64 K) ∧ w.cell? ⟨p, 6, none⟩ = some (.int .i64 least) := by
  unfold wcs at h
  exact ⟨by rw [cell_of_row w p 0 _ _ (0, 0) h]; rfl, by rw [cell_of_row w p 1 _ _ (0, 0) h]; rfl, by rw [cell_of_row w p 2 _ _ (0, 0) h]; rfl, by rw [cell_of_row w p 3 _ _ (0, 0) h]; rfl, by rw [cell_of_row w p 4 _ _ (0, 0) h]; rfl, by rw [cell_of_row w p 5 _ _ (0, 0) h]; rfl, by rw [cell_of_row w p 6 _ _ (0, 0) h]; rfl⟩
theorem new_ok (l : Int) (w : World) (h : 64 ≤ l ∧ l ≤ 1048576) : Calls Tryd.prog 30 #[.int .i64 l] w fun e w' => e = .returned (.tuple #[.pointer (some ⟨w.heap.size, 0, none⟩), .int .i64 0]) ∧ w' = w.alloc (.cells (wcs l (.slice none 0 0) 0 0 0 0 0) 75) := by
  have HL := lm_any l w
  rw [decide_eq_true h] at HL
  clear h
  go_enter Tryd.func30, Tryd.ntmps30
  go_wp2_with fail
  refine HL.mono ?_
  rintro e w1 ⟨rfl, rfl⟩
  go_wp2
  go_ret2
  exact ⟨rfl, rfl⟩
theorem new_bad (l : Int) (w : World) (h : ¬ (64 ≤ l ∧ l ≤ 1048576)) : Calls Tryd.prog 30 #[.int .i64 l] w fun e w' => e = .returned (.tuple #[.pointer none, .int .i64 2]) ∧ w' = w := by
  have HL := lm_any l w
  rw [decide_eq_false h] at HL
  clear h
  go_enter Tryd.func30, Tryd.ntmps30
  go_wp2_with fail
  refine HL.mono ?_
  rintro e w1 ⟨rfl, rfl⟩
  go_wp2
  go_ret2
  exact ⟨rfl, rfl⟩
theorem held_any {w : World} {p : Nat} {lim held S O K least : Int} {v : Value} (h : w.heap[p]? = some (.cells (wcs lim v held S O K least) 75 (0, 0))) :
    Calls Tryd.prog 37 #[.pointer (some ⟨p, 0, none⟩)] w fun e w' => e = .returned (.int .i64 held) ∧ w' = w := by
  obtain ⟨c0, c1, c2, c3, c4, c5, c6⟩ := w7_cells h
  clear h
  go_enter Tryd.func37, Tryd.ntmps37
  go_wp2
  go_ret
  exact ⟨rfl, rfl⟩
theorem held_nil (w : World) : Calls Tryd.prog 37 #[.pointer none] w fun e w' => e = .returned (.int .i64 0) ∧ w' = w := by
  go_enter Tryd.func37, Tryd.ntmps37
  go_wp2
  go_ret
  exact ⟨rfl, rfl⟩
theorem flush_nil (w : World) : Calls Tryd.prog 35 #[.pointer none] w fun e w' => e = .returned (.slice none 0 0) ∧ w' = w := by
  go_enter Tryd.func35, Tryd.ntmps35
  go_wp2
  go_ret
  exact ⟨rfl, rfl⟩
theorem flush_heap {w : World} {p : Nat} {lim held S O K least : Int} {v : Value} (h : w.heap[p]? = some (.cells (wcs lim v held S O K least) 75 (0, 0))) (a b c d e : Value) :
    (((((w.setCell ⟨p, 1, none⟩ a).setCell ⟨p, 2, none⟩ b).setCell ⟨p, 3, none⟩ c).setCell ⟨p, 4, none⟩ d).setCell ⟨p, 5, none⟩ e).heap[p]? = some (.cells #[.int .i64 lim, a, b, c, d, e, .int .i64 least] 75 (0, 0)) :=
  set1_heap e (set1_heap d (set1_heap c (set1_heap b (set1_heap a h))))
theorem flush_but {w : World} {p : Nat} (a b c d e : Value) : But (fun k => k = p) w (((((w.setCell ⟨p, 1, none⟩ a).setCell ⟨p, 2, none⟩ b).setCell ⟨p, 3, none⟩ c).setCell ⟨p, 4, none⟩ d).setCell ⟨p, 5, none⟩ e) :=
  (((((But.refl (fun k => k = p) w).setCell ⟨p, 1, none⟩ (fun _ => rfl) a).setCell ⟨p, 2, none⟩ (fun _ => rfl) b).setCell ⟨p, 3, none⟩ (fun _ => rfl) c).setCell ⟨p, 4, none⟩ (fun _ => rfl) d).setCell ⟨p, 5, none⟩ (fun _ => rfl) e
/-- Flush of a writer: its body, cut with its room. -/
theorem flush_any {w : World} {p : Nat} {lim held S O K least : Int} {a : Option Addr} {n c : Nat} (h : w.heap[p]? = some (.cells (wcs lim (.slice a n c) held S O K least) 75 (0, 0))) (hc : n ≤ c) :
    Calls Tryd.prog 35 #[.pointer (some ⟨p, 0, none⟩)] w fun e w' => e = .returned (.slice a n n) ∧ w'.heap[p]? = some (.cells (wcs lim (.slice none 0 0) 0 0 0 0 least) 75 (0, 0)) ∧ But (fun k => k = p) w w' := by
  obtain ⟨c0, c1, c2, c3, c4, c5, c6⟩ := w7_cells h
  have f1 := frz h 1
  have f2 := frz h 2
  have f3 := frz h 3
  have f4 := frz h 4
  have f5 := frz h 5
  have HH : Hid _ := hide h
  have hcI : (n : Int) ≤ (c : Int) := by omega
  clear h
  cases a with
  | none =>
    go_enter Tryd.func35, Tryd.ntmps35
    go_wp2
    go_ret
    exact ⟨rfl, flush_heap HH.out _ _ _ _ _, flush_but _ _ _ _ _⟩
  | some x =>
    go_enter Tryd.func35, Tryd.ntmps35
    go_wp2
    go_ret
    exact ⟨rfl, flush_heap HH.out _ _ _ _ _, flush_but _ _ _ _ _⟩
theorem put1_idle (F : Nat) (x : Int) (b c : Value) (u : FrameMode) (w : World) (hc : w.cell? ⟨F, 0, none⟩ = some (.int .i64 x)) (hx : ¬ x = 0) :
    CallsD Tryd.prog 49 #[.pointer (some ⟨F, 0, none⟩), b, c] u w fun e u' w' => u' = u ∧ (e = .returned (.tuple #[]) ∧ w' = w) := by
  go_enter_d Tryd.func49, Tryd.ntmps49
  go_wp2
  go_end0
  exact ⟨rfl, rfl⟩
theorem put1_on (F B R p : Nat) (held t : Int) (z : Value) (u : FrameMode) (w : World) (hc : w.cell? ⟨F, 0, none⟩ = some (.int .i64 0)) (hb : w.cell? ⟨B, 0, none⟩ = some (.pointer (some ⟨p, 0, none⟩))) (hr : w.cell? ⟨R, 0, none⟩ = some (.int .i64 t))
    (h2 : w.cell? ⟨p, 2, none⟩ = some (.int .i64 held)) (h6 : w.cell? ⟨p, 6, none⟩ = some z) (f2 : w.frozen? ⟨p, 2, none⟩ = false) (f6 : w.frozen? ⟨p, 6, none⟩ = false) (hB : ¬ p = B) (hR : ¬ p = R) (h0 : 0 ≤ held) (h1 : held ≤ 1048577) (ht0 : 0 ≤ t) (ht1 : t ≤ 1048577) :
    CallsD Tryd.prog 49 #[.pointer (some ⟨F, 0, none⟩), .pointer (some ⟨B, 0, none⟩), .pointer (some ⟨R, 0, none⟩)] u w fun e u' w' => u' = u ∧ (e = .returned (.tuple #[]) ∧ w' = (w.setCell ⟨p, 2, none⟩ (.int .i64 (held + 1))).setCell ⟨p, 6, none⟩ (.int .i64 (t + 1))) := by
  have hB' : ¬ B = p := fun e => hB e.symm
  have hR' : ¬ R = p := fun e => hR e.symm
  go_enter_d Tryd.func49, Tryd.ntmps49
  go_wp2
  go_end0
  exact ⟨rfl, rfl⟩
end Go.Proofs.YtdppbaipmmcjbaaDoor
