/-
  Truths in rows.
-/
import Derived.Test.YtnengkdddckjaaaDoorHpW
import Derived.Laws.OwnMore
import Derived.Laws.MakeOwn
import Derived.OneCell
namespace Go.Proofs.YtnengkdddckjaaaDoor
open Go.RowKit Go.Maps
set_option linter.unusedVariables false
def sB : Lay Bool := ⟨fun x => [.bool x], 1, by decide, fun _ => rfl, by intro a u hu; simp at hu; subst hu; rfl⟩
theorem row_cell {α : Type} {y : Lay α} {w : World} {a : Option Addr} {n i : Nat} {L : List α} {x : α} (h : TRow y w a n L) (hx : L[i]? = some x) : ∃ b off, a = some ⟨b, off, none⟩ ∧ ∀ t u, (y.cs x)[t]? = some u → w.cell? ⟨b, off + i * y.z + t, none⟩ = some u := by
  have hl := get_lt hx
  obtain ⟨b, off, ha, _, hc⟩ := h.at (by rw [h.len] at hl; omega)
  exact ⟨b, off, ha, fun t u hu => hc i x hx t u hu⟩
theorem sB_cell {w : World} {a : Option Addr} {n i : Nat} {L : List Bool} {x : Bool} (h : TRow sB w a n L) (hx : L[i]? = some x) : ∃ b off, a = some ⟨b, off, none⟩ ∧ w.cell? ⟨b, off + i, none⟩ = some (.bool x) := by
  obtain ⟨b, off, ha, hc⟩ := row_cell h hx
  refine ⟨b, off, ha, ?_⟩
  have h1 : w.cell? ⟨b, off + i * 1 + 0, none⟩ = some (.bool x) := hc 0 _ rfl
  rw [Nat.mul_one, Nat.add_zero] at h1
  exact h1
theorem zInfoB : (Tryd.prog.info? 4).map (fun i => (i.zero, i.size, i.bytes)) = some (some (.bool false), 1, 1) := by kernel_rfl
theorem made_bs (w : World) (base n : Nat) (hb : base ≤ w.heap.size) (hn : n * 1 ≤ 140737488355328) : ∃ w', (Instr.makeSlice 31 (.int .i64 (n : Int)) (.int .i64 (n : Int))).run Tryd.prog w = .ok (.slice (some ⟨w.heap.size, 0, none⟩) n n) w' ∧ Own sB 4 w' base (.slice (some ⟨w.heap.size, 0, none⟩) n n) (List.replicate n false) ∧ w.grownBy w' none := by
  obtain ⟨i0, hi, hz0, hz1, hz2⟩ := info_parts zInfoB
  obtain ⟨w', h1, h2, h3⟩ := run_make_full (P := Tryd.prog) w base 31 4 i0 (.bool false) 1 Tryd.underlying31 hi hz0 hz1 .i64 .i64 n (by rw [hz2]; omega) (by unfold maxLen; omega) hb
  refine ⟨w', h1, ?_, h3⟩
  unfold Own
  have e : (madeCells (Value.bool false).cells (n * 1)).toList = sB.fl (List.replicate n false) := by
    rw [Nat.mul_one, show (Value.bool false).cells = #[Value.bool false] from rfl, toList_madeCells_one]
    clear h1 h2 hn
    induction n with
    | zero => rfl
    | succ n ih => rw [List.replicate_succ, List.replicate_succ, sB.fl_cons, ih]; rfl
  rw [e] at h2
  rw [List.length_replicate]
  exact h2
/-- A made row of truths, the first j of which are told. -/
structure Bk (w0 wr : World) (ks : List Bool) (n j b : Nat) : Prop where
  own : Own sB 4 wr w0.heap.size (.slice (some ⟨b, 0, none⟩) n n) (ks.take j ++ List.replicate (n - j) false)
  len : ks.length = n
  bel : Below w0.heap.size w0 wr
section
variable {w0 wr w' : World} {ks : List Bool} {n j b : Nat} {x : Bool}
theorem Bk.on (h : Bk w0 wr ks n j b) (hb : Below wr.heap.size wr w') : Bk w0 w' ks n j b := ⟨h.own.below hb, h.len, h.bel.trans (hb.mono h.bel.size)⟩
theorem Bk.ll (h : Bk w0 wr ks n j b) (hj : j ≤ n) : (ks.take j ++ List.replicate (n - j) false).length = n := by
  rw [List.length_append, List.length_take, List.length_replicate, h.len]; omega
theorem Bk.cell (h : Bk w0 wr ks n j b) (hj : j < n) : (∃ u, wr.cell? ⟨b, j, none⟩ = some (.bool u)) ∧ wr.frozen? ⟨b, j, none⟩ = false := by
  have hl := h.ll (Nat.le_of_lt hj)
  have hx : (ks.take j ++ List.replicate (n - j) false)[j]? = some ((ks.take j ++ List.replicate (n - j) false)[j]'(by rw [hl]; exact hj)) := List.getElem?_eq_getElem _
  have h1 := h.own.cell hx 0 rfl
  rw [Nat.add_zero, show j * sB.z = j from Nat.mul_one j] at h1
  exact ⟨⟨_, h1⟩, h.own.frozen _⟩
theorem Bk.set (h : Bk w0 wr ks n j b) (hx : ks[j]? = some x) : Bk w0 (wr.setCell ⟨b, j, none⟩ (.bool x)) ks n (j + 1) b := by
  obtain ⟨hl, h9⟩ := List.getElem?_eq_some_iff.1 hx
  have hj : j < n := by rw [← h.len]; exact hl
  have hll := h.ll (Nat.le_of_lt hj)
  have hy : (ks.take j ++ List.replicate (n - j) false)[j]? = some ((ks.take j ++ List.replicate (n - j) false)[j]'(by rw [hll]; exact hj)) := List.getElem?_eq_getElem _
  have h1 := h.own.setU (t := 0) (u := .bool x) (a' := x) hll hy (by decide) rfl
  rw [Nat.add_zero, show j * sB.z = j from Nat.mul_one j] at h1
  have e1 : (ks.take j).length = j := by rw [List.length_take]; omega
  have e2 : n - j = (n - (j + 1)) + 1 := by omega
  have e3 : (ks.take j ++ List.replicate (n - j) false).set j x = ks.take (j + 1) ++ List.replicate (n - (j + 1)) false := by
    rw [List.set_append_right _ _ (by omega), e1, Nat.sub_self, e2, List.replicate_succ, List.set_cons_zero, List.take_succ_eq_append_getElem hl, h9, List.append_assoc]
    rfl
  rw [e3] at h1
  exact ⟨h1, h.len, h.bel.setCell (p := ⟨b, j, none⟩) (h.own.lt b rfl).1 _⟩
theorem Bk.fin (h : Bk w0 wr ks n n b) : TRow sB wr (some ⟨b, 0, none⟩) n ks := by
  have h1 := h.own
  rw [Nat.sub_self, List.replicate_zero, List.append_nil, List.take_of_length_le (by rw [h.len]; exact Nat.le_refl _)] at h1
  exact h1.row h.len
end
end Go.Proofs.YtnengkdddckjaaaDoor
