/-
  A head and a foot that came in by value.
-/
import Derived.Test.YtgonbakoidkafaaOpens
import Derived.ProofKit
import Derived.OpenShut
import Derived.ChangeSame
namespace Go.Proofs.Ytgonbakoidkafaa
open Go.ChangeShapes Go.WideShapes Go.ChangeAt Go.RowKit

theorem arr2 {α : Type} {cs : Array α} (h : cs.size = 2) : ∃ c0 c1, cs = #[c0, c1] := by
  obtain ⟨l⟩ := cs
  match l, h with
  | [c0, c1], _ => exact ⟨c0, c1, rfl⟩
theorem arr5 {α : Type} {cs : Array α} (h : cs.size = 5) : ∃ c0 c1 c2 c3 c4, cs = #[c0, c1, c2, c3, c4] := by
  obtain ⟨l⟩ := cs
  match l, h with
  | [c0, c1, c2, c3, c4], _ => exact ⟨c0, c1, c2, c3, c4, rfl⟩
theorem Try.cells23 : Try.prog.cellsOf 23 = 5 := by kernel_rfl
theorem Try.cells26 : Try.prog.cellsOf 26 = 2 := by kernel_rfl
theorem Try.cells3 : Try.prog.cellsOf 3 = 1 := by kernel_rfl
theorem Try.cells24 : Try.prog.cellsOf 24 = 1 := by kernel_rfl
/-- A cell that is read as an integer is one. -/
theorem int_of {H : Type} {enc : TypeId × Value → H} {w : World} {base : Nat} {spare : Nat → Bool} {held : Bool} {n : Nat} {t : TypeId} {k : IntKind} {v : Value} {xs : List (DataW H × List MemPlace)} {i : Nat} (ht : Try.prog.underlying t = some (.int k))
    (hi : i < xs.length) (h : DataW.trod enc Try.prog w base spare held n t [v] = xs[i]?) : ∃ a, v = .int k a ∧ (Lit.int k a).wf = true := by
  rw [List.getElem?_eq_getElem hi] at h
  obtain ⟨a, e, _, wa⟩ := DataW.trod_int ht h
  simp at e
  exact ⟨a, e, wa⟩
theorem open_head {H : Type} {enc : TypeId × Value → H} {W : World} {base b0 : Nat} {r : Reach} {spare : Nat → Bool} {held : Bool} {v : Value} {d : DataW H} {p : List MemPlace}
    (hv : Value.okWide Try.prog W r b0 23 v) (h : DataW.Trod enc Try.prog W base spare held 23 v d p) :
    ∃ l e s t n, v = .agg #[.int .i64 l, .int .i64 e, .int .i64 s, .int .i64 t, .int .i64 n] := by
  obtain ⟨cs, rfl, hsz⟩ := okWide_struct Try.underlying23 hv
  obtain ⟨c0, c1, c2, c3, c4, rfl⟩ := arr5 (hsz.trans Try.cells23)
  obtain ⟨fuel, hf⟩ := h
  obtain ⟨xs, n, _, _, _, hlen, hfl⟩ := DataW.trod_struct Try.underlying23 hf
  have hlen' : xs.length = 5 := hlen
  obtain ⟨a0, rfl, _⟩ := int_of (v := c0) (xs := xs) (i := 0) Try.underlying3 (by omega) (by simpa [Value.cells, Try.cells3] using hfl 0 _ rfl)
  obtain ⟨a1, rfl, _⟩ := int_of (v := c1) (xs := xs) (i := 1) Try.underlying3 (by omega) (by simpa [Value.cells, Try.cells3] using hfl 1 _ rfl)
  obtain ⟨a2, rfl, _⟩ := int_of (v := c2) (xs := xs) (i := 2) Try.underlying3 (by omega) (by simpa [Value.cells, Try.cells3] using hfl 2 _ rfl)
  obtain ⟨a3, rfl, _⟩ := int_of (v := c3) (xs := xs) (i := 3) Try.underlying3 (by omega) (by simpa [Value.cells, Try.cells3] using hfl 3 _ rfl)
  obtain ⟨a4, rfl, _⟩ := int_of (v := c4) (xs := xs) (i := 4) Try.underlying3 (by omega) (by simpa [Value.cells, Try.cells3] using hfl 4 _ rfl)
  exact ⟨a0, a1, a2, a3, a4, rfl⟩
theorem open_foot {H : Type} {enc : TypeId × Value → H} {W : World} {base b0 : Nat} {r : Reach} {spare : Nat → Bool} {held : Bool} {v : Value} {d : DataW H} {p : List MemPlace}
    (hv : Value.okWide Try.prog W r b0 26 v) (h : DataW.Trod enc Try.prog W base spare held 26 v d p) :
    ∃ f u, v = .agg #[.int .i64 f, .int .u32 u] ∧ 0 ≤ u ∧ u ≤ 4294967295 := by
  obtain ⟨cs, rfl, hsz⟩ := okWide_struct Try.underlying26 hv
  obtain ⟨c0, c1, rfl⟩ := arr2 (hsz.trans Try.cells26)
  obtain ⟨fuel, hf⟩ := h
  obtain ⟨xs, n, _, _, _, hlen, hfl⟩ := DataW.trod_struct Try.underlying26 hf
  have hlen' : xs.length = 2 := hlen
  obtain ⟨a0, rfl, _⟩ := int_of (v := c0) (xs := xs) (i := 0) Try.underlying3 (by omega) (by simpa [Value.cells, Try.cells3] using hfl 0 _ rfl)
  obtain ⟨a1, rfl, w1⟩ := int_of (v := c1) (xs := xs) (i := 1) Try.underlying24 (by omega) (by simpa [Value.cells, Try.cells24] using hfl 1 _ rfl)
  have hw : IntKind.u32.min ≤ a1 ∧ a1 ≤ IntKind.u32.max := by simpa [Lit.wf] using w1
  have e1 : IntKind.u32.min = 0 := by decide
  have e2 : IntKind.u32.max = 4294967295 := by decide
  rw [e1, e2] at hw
  exact ⟨a0, a1, rfl, hw.1, hw.2⟩
end Go.Proofs.Ytgonbakoidkafaa
