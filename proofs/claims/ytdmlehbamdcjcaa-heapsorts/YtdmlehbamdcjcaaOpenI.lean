/-
  Items that came in.
-/
import Derived.Test.YtdmlehbamdcjcaaOpenB
import Derived.Test.YtdmlehbamdcjcaaHpAI
namespace Go.Proofs.Ytdmlehbamdcjcaa
open Go.ChangeShapes Go.WideShapes Go.ChangeAt Go.RowKit
instance : Inhabited It := ⟨⟨0, 0⟩⟩
theorem cellsI : Try.prog.cellsOf 27 = 2 := by kernel_rfl
theorem el_item {H : Type} {enc : TypeId × Value → H} {W : World} {n : Nat} {cs : List Value} {d : DataW H} {pl : List MemPlace} (h : DataW.trod enc Try.prog W 0 (fun _ => true) true n 27 cs = some (d, pl)) (hl : cs.length = layI.z) : ∃ q, cs = layI.cs q := by
  obtain ⟨xs, k, _, hxd, _, hxs, hfs⟩ := DataW.trod_struct Try.underlying27 h
  have g0 := hfs 0 _ rfl
  have g1 := hfs 1 _ rfl
  obtain ⟨y0, y1, rfl⟩ := two hxs
  obtain ⟨v0, v1, rfl⟩ := two hl
  simp [cells3] at g0 g1
  obtain ⟨k0, e0, _, _⟩ := DataW.trod_int Try.underlying3 g0
  obtain ⟨k1, e1, _, _⟩ := DataW.trod_int Try.underlying3 g1
  simp at e0 e1
  subst e0 e1
  exact ⟨⟨k0, k1⟩, rfl⟩
end Go.Proofs.Ytdmlehbamdcjcaa
