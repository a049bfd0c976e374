/-
  Events that came in: how they lie.
-/
import Derived.Test.YtkjmmcpjdjjmlaaDoorRgT
namespace Go.Proofs.YtkjmmcpjdjjmlaaDoor
open Go.RowKit Go.Maps Go.Shelf
/-- What an event that came in keeps to. -/
structure Ev.ok (e : Ev) : Prop where
  ho : 0 ≤ e.o ∧ e.o ≤ 18446744073709551615
  ha : 0 ≤ e.a ∧ e.a ≤ 18446744073709551615
  len : e.ls.length ≤ 8796093021952
  sz : ∀ s ∈ e.ls, s.size ≤ maxLen
  cap : e.ls.length ≤ e.sc
  nil : e.sa = .none → e.ls.length = 0 ∧ e.sc = 0
/-- The event's stack lies in memory. -/
def Ev.at (w : World) (e : Ev) : Prop := SRow w e.sa e.ls.length e.ls
structure ERow (w : World) (a : Option Addr) (n : Nat) (es : List Ev) : Prop where
  len : es.length = n
  cells : n = 0 ∨ ∃ b off, a = some ⟨b, off, none⟩ ∧ ∀ i e, es[i]? = some e → w.cell? ⟨b, off + i * 5, none⟩ = some (.int .i64 e.g) ∧ w.cell? ⟨b, off + i * 5 + 1, none⟩ = some (.int .i64 e.k) ∧ w.cell? ⟨b, off + i * 5 + 2, none⟩ = some (.int .u64 e.o) ∧ w.cell? ⟨b, off + i * 5 + 3, none⟩ = some (.int .u64 e.a) ∧ w.cell? ⟨b, off + i * 5 + 4, none⟩ = some (.slice e.sa e.ls.length e.sc) ∧ e.at w
theorem ERow.at {w : World} {a : Option Addr} {n : Nat} {es : List Ev} (h : ERow w a n es) {i : Nat} (hi : i < n) : ∃ b off e, a = some ⟨b, off, none⟩ ∧ es[i]? = some e ∧ w.cell? ⟨b, off + i * 5, none⟩ = some (.int .i64 e.g) ∧ w.cell? ⟨b, off + i * 5 + 1, none⟩ = some (.int .i64 e.k) ∧ w.cell? ⟨b, off + i * 5 + 2, none⟩ = some (.int .u64 e.o) ∧ w.cell? ⟨b, off + i * 5 + 3, none⟩ = some (.int .u64 e.a) ∧ w.cell? ⟨b, off + i * 5 + 4, none⟩ = some (.slice e.sa e.ls.length e.sc) ∧ e.at w := by
  rcases h.cells with h0 | ⟨b, off, e, hc⟩
  · omega
  · have hl : i < es.length := by rw [h.len]; exact hi
    exact ⟨b, off, es[i], e, List.getElem?_eq_getElem hl, hc i _ (List.getElem?_eq_getElem hl)⟩
theorem ERow.bel {w w' : World} {a : Option Addr} {n : Nat} {es : List Ev} (h : ERow w a n es) (hb : Below w.heap.size w w') : ERow w' a n es :=
  ⟨h.len, h.cells.imp id fun ⟨b, off, e, hc⟩ => ⟨b, off, e, fun i f hf => by
    obtain ⟨c0, c1, c2, c3, c4, hs⟩ := hc i f hf
    exact ⟨cell_bel c0 hb, cell_bel c1 hb, cell_bel c2 hb, cell_bel c3 hb, cell_bel c4 hb, SRow.bel hs hb⟩⟩⟩
/-- The cells of events. -/
def ecell (e : Ev) : List Value := [.int .i64 e.g, .int .i64 e.k, .int .u64 e.o, .int .u64 e.a, .slice e.sa e.ls.length e.sc]
end Go.Proofs.YtkjmmcpjdjjmlaaDoor
