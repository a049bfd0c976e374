/-
  Races that came in.
-/
import Derived.Test.YtnengkdddckjaaaOpE
namespace Go.Proofs.Ytnengkdddckjaaa
open Go.ChangeShapes Go.WideShapes Go.ChangeAt Go.RowKit
open Go.Proofs.Ytnengkdddckjaaa.E6 (bulk_slice add_at)
set_option linter.unusedVariables false
theorem open_layB {α : Type} [Inhabited α] (y : Lay α) {H : Type} {enc : TypeId × Value → H} {W : World} {t e : TypeId} (hu : Try.prog.underlying t = some (.slice e)) (hce : Try.prog.cellsOf e = y.z)
    (el : ∀ {n : Nat} {cs : List Value} {d : DataW H} {pl : List MemPlace}, DataW.trod enc Try.prog W 0 (fun _ => true) true n e cs = some (d, pl) → cs.length = y.z → ∃ q, cs = y.cs q)
    {a : Option Addr} {len cap : Nat} {d : DataW H} {p : List MemPlace}
    (h : DataW.Trod enc Try.prog W 0 (fun _ => true) true t (.slice a len cap) d p) :
    ∃ L, TRow y W a len L ∧ len ≤ Rows.uptoBulk d ∧ len ≤ cap ∧ (a = none → len = 0 ∧ cap = 0) := by
  obtain ⟨fuel, hf⟩ := h
  rcases Deep.open_slice hu hf with ⟨hcs, _⟩ | ⟨x, l, c, m, n, D, Pl, hcs, _, hl, hm, hmm, hx, hel⟩
  · simp [Value.cells] at hcs
    obtain ⟨rfl, rfl, rfl⟩ := hcs
    exact ⟨[], ⟨rfl, .inl rfl⟩, by omega, by omega, fun _ => ⟨rfl, rfl⟩⟩
  · simp [Value.cells] at hcs
    obtain ⟨rfl, rfl, rfl⟩ := hcs
    simp only [Prod.mk.injEq] at hx
    have hm' : m = cap := by simpa using hmm
    subst hm'
    have hlb : len ≤ Rows.uptoBulk d := by
      have hb := bulk_slice (H := H) ((List.range len).map D) ((List.range (m - len)).map fun j => D (len + j))
      rw [hx.1]
      simp only [List.length_map, List.length_range] at hb
      omega
    have each : ∀ i, i < len → ∃ q : α, ∀ k, k < y.z → W.cell? (x.add (i * y.z + k)) = (y.cs q)[k]? := by
      intro i hi
      obtain ⟨cs', h1, h2⟩ := hel i (by omega)
      rw [hce] at h1
      obtain ⟨_, hl5, hcell⟩ := World.cells?_some h1
      obtain ⟨q, e1⟩ := el h2 (by simpa using hl5)
      refine ⟨q, fun k hk => ?_⟩
      have := hcell k (by omega)
      rw [Deep.add_add] at this
      rw [this, e1]
    obtain ⟨f, hch⟩ := Deep.choose_lt each
    have hget : ∀ i e, ((List.range len).map f)[i]? = some e → i < len ∧ f i = e := by
      intro i e he
      have hi : i < len := by have := (List.getElem?_eq_some_iff.1 he).1; simpa using this
      exact ⟨hi, by simpa [hi] using he⟩
    refine ⟨(List.range len).map f, ⟨by simp, ?_⟩, hlb, by omega, fun h => by cases h⟩
    by_cases h0 : len = 0
    · exact .inl h0
    · right
      obtain ⟨b, off, sp⟩ := x
      have h1 := hch 0 (by omega) 0 y.pos
      have hsp : sp = none := by
        have h2 : (y.cs (f 0))[0]? = some ((y.cs (f 0))[0]'(by rw [y.len]; exact y.pos)) := List.getElem?_eq_getElem _
        rw [h2] at h1
        simpa [Addr.add] using World.cell?_spot h1
      subst hsp
      refine ⟨b, off, rfl, fun i e he k u hk => ?_⟩
      obtain ⟨hi, rfl⟩ := hget i e he
      have h3 := hch i hi k (by rw [← y.len (f i)]; exact get_lt hk)
      rw [add_at, ← Nat.add_assoc, hk] at h3
      exact h3
instance : Inhabited (Int × Int) := ⟨(0, 0)⟩
theorem ocellsR : Try.prog.cellsOf 33 = 2 := by kernel_rfl
theorem otwo {α : Type} {l : List α} (h : l.length = 2) : ∃ a b, l = [a, b] := by
  match l, h with
  | [a, b], _ => exact ⟨a, b, rfl⟩
theorem el_race {H : Type} {enc : TypeId × Value → H} {W : World} {n : Nat} {cs : List Value} {d : DataW H} {pl : List MemPlace} (h : DataW.trod enc Try.prog W 0 (fun _ => true) true n 33 cs = some (d, pl)) (hl : cs.length = sR.z) : ∃ q, cs = sR.cs q := by
  obtain ⟨xs, k, _, hxd, _, hxs, hfs⟩ := DataW.trod_struct Try.underlying33 h
  have g0 := hfs 0 _ rfl
  have g1 := hfs 1 _ rfl
  obtain ⟨y0, y1, rfl⟩ := otwo hxs
  obtain ⟨v0, v1, rfl⟩ := otwo (show cs.length = 2 from hl)
  simp [cellsT3] at g0 g1
  obtain ⟨k0, e0, _, w0⟩ := DataW.trod_int Try.underlying3 g0
  obtain ⟨k1, e1, _, w1⟩ := DataW.trod_int Try.underlying3 g1
  simp at e0 e1
  subst e0 e1
  exact ⟨(k0, k1), rfl⟩
end Go.Proofs.Ytnengkdddckjaaa
