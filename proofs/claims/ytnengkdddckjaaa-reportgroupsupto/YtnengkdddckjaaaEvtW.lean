/-
  Lists of events.
-/
import Derived.Test.YtnengkdddckjaaaSlX
namespace Go.Proofs.Ytnengkdddckjaaa.E6
open Go.RowKit Go.Maps
structure Ev where
  g : Int
  k : Int
  o : Int
  a : Int
  sa : Option Addr
  sc : Nat
  ls : List ByteArray
/-- What an event that came in keeps to. -/
structure Ev.ok (e : Ev) : Prop where
  ho : 0 ≤ e.o ∧ e.o ≤ 18446744073709551615
  ha : 0 ≤ e.a ∧ e.a ≤ 18446744073709551615
  len : e.ls.length ≤ 8796093021952
  sz : ∀ s ∈ e.ls, s.size ≤ maxLen
  cap : e.ls.length ≤ e.sc
  nil : e.sa = none → e.ls.length = 0 ∧ e.sc = 0
/-- The same but where its stack lies. -/
def Ev.twin (e f : Ev) : Prop := f.g = e.g ∧ f.k = e.k ∧ f.o = e.o ∧ f.a = e.a ∧ f.ls = e.ls
/-- The event's stack lies in memory. -/
def Ev.at (w : World) (e : Ev) : Prop := SRow w e.sa e.ls.length e.ls
structure ERow (w : World) (a : Option Addr) (n : Nat) (es : List Ev) : Prop where
  len : es.length = n
  cells : n = 0 ∨ ∃ b off, a = some ⟨b, off, none⟩ ∧ ∀ i e, es[i]? = some e → w.cell? ⟨b, off + i * 5, none⟩ = some (.int .i64 e.g) ∧ w.cell? ⟨b, off + i * 5 + 1, none⟩ = some (.int .i64 e.k) ∧ w.cell? ⟨b, off + i * 5 + 2, none⟩ = some (.int .u64 e.o) ∧ w.cell? ⟨b, off + i * 5 + 3, none⟩ = some (.int .u64 e.a) ∧ w.cell? ⟨b, off + i * 5 + 4, none⟩ = some (.slice e.sa e.ls.length e.sc) ∧ e.at w
theorem ERow.at {w : World} {a : Option Addr} {n : Nat} {es : List Ev} (h : ERow w a n es) {i : Nat} (hi : i < n) : ∃ b off e, a = some ⟨b, off, none⟩ ∧ es[i]? = some e ∧ w.cell? ⟨b, off + i * 5, none⟩ = some (.int .i64 e.g) ∧ w.cell? ⟨b, off + i * 5 + 1, none⟩ = some (.int .i64 e.k) ∧ w.cell? ⟨b, off + i * 5 + 2, none⟩ = some (.int .u64 e.o) ∧ w.cell? ⟨b, off + i * 5 + 3, none⟩ = some (.int .u64 e.a) ∧ w.cell? ⟨b, off + i * 5 + 4, none⟩ = some (.slice e.sa e.ls.length e.sc) ∧ e.at w := by
  rcases h.cells with h0 | ⟨b, off, e, hc⟩
  · omega
  · have hl : i < es.length := by rw [h.len]; exact hi
    exact ⟨b, off, es[i], e, List.getElem?_eq_getElem hl, hc i _ (List.getElem?_eq_getElem hl)⟩
theorem cell_bel {w w' : World} {p : Addr} {v : Value} (hc : w.cell? p = some v) (hb : Below w.heap.size w w') : w'.cell? p = some v :=
  (hb.cell (World.block_lt_of_cell? w _ hc)).trans hc
theorem ERow.bel {w w' : World} {a : Option Addr} {n : Nat} {es : List Ev} (h : ERow w a n es) (hb : Below w.heap.size w w') : ERow w' a n es :=
  ⟨h.len, h.cells.imp id fun ⟨b, off, e, hc⟩ => ⟨b, off, e, fun i f hf => by
    obtain ⟨c0, c1, c2, c3, c4, hs⟩ := hc i f hf
    exact ⟨cell_bel c0 hb, cell_bel c1 hb, cell_bel c2 hb, cell_bel c3 hb, cell_bel c4 hb, SRow.bel hs hb⟩⟩⟩
/-- The cells of events. -/
def ecell (e : Ev) : List Value := [.int .i64 e.g, .int .i64 e.k, .int .u64 e.o, .int .u64 e.a, .slice e.sa e.ls.length e.sc]
def ecells : List Ev → List Value
  | [] => []
  | e :: l => ecell e ++ ecells l
theorem ecells_snoc (l : List Ev) (e : Ev) : ecells (l ++ [e]) = ecells l ++ ecell e := by
  induction l with
  | nil => simp [ecells]
  | cons x l ih => simp [ecells, ih]
theorem Try.infoEvent : (Try.prog.info? 38).map (fun i => (i.zero, i.size, i.bytes)) = some (some (.agg #[.int .i64 0, .int .i64 0, .int .u64 0, .int .u64 0, .slice none 0 0]), 5, 56) := by kernel_rfl
theorem srow_cells {w : World} {ad : Addr} {m : Nat} {L : List ByteArray} (h : SRow w (some ad) m L) : ∀ j u, (L.map Value.string)[j]? = some u → w.cell? (ad.add j) = some u := by
  intro j u hj
  have hlt : j < L.length := by have := (List.getElem?_eq_some_iff.1 hj).1; simpa using this
  obtain ⟨b, off, e, hc⟩ := h.at (i := j) (by rw [← h.len]; exact hlt)
  cases e
  have ha : (⟨b, off, none⟩ : Addr).add j = ⟨b, off + j, none⟩ := by unfold Addr.add; split <;> simp_all
  rw [ha, hc]
  rw [List.getElem?_map, getD_get hlt] at hj
  simpa using hj
/-- 'append(nil, l...)' in a region that draws. -/
theorem step_strs {ops : Array Oper} {o : Oper} {a : Act} {w : World} {K : Act → World → Prop} {Q : Exit → Act → World → Prop} {E : Prop}
    (hg : o.guard = none) (s x : Operand) (hop : o.op = Op.call { callee := Callee.builtin Builtin.append, args := #[s, x], argTypes := #[36, 36] })
    (hs : a.eval s = .slice none 0 0) (ra : Option Addr) (m c : Nat) (zs : List ByteArray) (hx : a.eval x = .slice ra m c) (hr : SRow w ra m zs) (h0 : ra = none → m = 0 ∧ c = 0) (hm : m * 16 ≤ 140737488355328)
    (h : ∀ (a' : Option Addr) (c' : Nat) w', w'.ownsRow w.heap.size 9 1 (.slice a' m c') m (zs.map Value.string) → w.grownBy w' none → K (a.put o.dst (.slice a' m c')) w') :
    if Region.wanted o (yielded ops a.tmps) = true then Oper.wp Try.prog o a w K Q else E := by
  have hw : Region.wanted o (yielded ops a.tmps) = true := by simp [Region.wanted, hg]
  rw [if_pos hw]
  obtain ⟨i0, hi, hz0, hz1, hz2⟩ := info_parts Try.info9
  have hown := World.ownsRow_nil w w.heap.size 9 1
  cases ra with
  | none =>
    obtain ⟨rfl, rfl⟩ := h0 rfl
    have e1 := List.length_eq_zero_iff.1 hr.len
    subst e1
    have hr := run_append_owned_none (P := Try.prog) (w := w) w.heap.size 36 o.type 9 i0 1 Try.underlying36 hi (.slice none 0 0) 0 [] hown
    unfold Oper.wp execOp
    simp only [hop, resolve, invoke, builtin, Sem.run_bind, Sem.run_pure, Result.andThen_ok, List.map_toArray, List.map_cons, List.map_nil, hs, hx, hr]
    exact h none 0 w (World.ownsRow_nil _ _ _ _) (World.grownBy.refl w _)
  | some ad =>
    obtain ⟨v', w', hrun, h2, h3, _, h5⟩ := run_append_own_at (P := Try.prog) w w.heap.size 36 o.type 9 i0 _ 1 16 Try.underlying36 hi hz0 hz1 hz2 rfl (by decide) (.slice none 0 0) 0 [] hown ad m c (zs.map Value.string) (by have := hr.len; simpa using this) (srow_cells hr) (by intro u hu; obtain ⟨y, _, rfl⟩ := List.mem_map.1 hu; rfl) (by unfold maxLen; omega) (by omega) (Nat.le_refl _)
    rw [Nat.zero_add] at h2
    obtain ⟨a', c', rfl⟩ := own_form h2
    unfold Oper.wp execOp
    simp only [hop, resolve, invoke, builtin, Sem.run_bind, Sem.run_pure, Result.andThen_ok, List.map_toArray, List.map_cons, List.map_nil, hs, hx, hrun]
    exact h a' c' w' (by simpa using h2) h3
end Go.Proofs.Ytnengkdddckjaaa.E6
