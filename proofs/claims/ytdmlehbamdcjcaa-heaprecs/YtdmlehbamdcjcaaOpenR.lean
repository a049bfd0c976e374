/-
  Records that came in.
-/
import Derived.Test.YtdmlehbamdcjcaaOpenB
import Derived.Test.YtdmlehbamdcjcaaHpAR
namespace Go.Proofs.Ytdmlehbamdcjcaa
open Go.ChangeShapes Go.WideShapes Go.ChangeAt Go.RowKit
instance : Inhabited Rc := ⟨⟨0, 0, 0, 0, 0⟩⟩
theorem cellsTR : Try.prog.cellsOf 47 = 5 := by kernel_rfl
theorem cellsU : Try.prog.cellsOf 45 = 1 := by kernel_rfl
theorem five {α : Type} {l : List α} (h : l.length = 5) : ∃ a b c d e, l = [a, b, c, d, e] := by
  match l, h with
  | [a, b, c, d, e], _ => exact ⟨a, b, c, d, e, rfl⟩
theorem el_rec {H : Type} {enc : TypeId × Value → H} {W : World} {n : Nat} {cs : List Value} {d : DataW H} {pl : List MemPlace} (h : DataW.trod enc Try.prog W 0 (fun _ => true) true n 47 cs = some (d, pl)) (hl : cs.length = layR.z) : ∃ q, cs = layR.cs q := by
  obtain ⟨xs, k, _, hxd, _, hxs, hfs⟩ := DataW.trod_struct Try.underlying47 h
  have g0 := hfs 0 _ rfl
  have g1 := hfs 1 _ rfl
  have g2 := hfs 2 _ rfl
  have g3 := hfs 3 _ rfl
  have g4 := hfs 4 _ rfl
  obtain ⟨y0, y1, y2, y3, y4, rfl⟩ := five hxs
  obtain ⟨v0, v1, v2, v3, v4, rfl⟩ := five hl
  simp [cells3, cellsU] at g0 g1 g2 g3 g4
  obtain ⟨k0, e0, _, _⟩ := DataW.trod_int Try.underlying3 g0
  obtain ⟨k1, e1, _, _⟩ := DataW.trod_int Try.underlying3 g1
  obtain ⟨k2, e2, _, _⟩ := DataW.trod_int Try.underlying45 g2
  obtain ⟨k3, e3, _, _⟩ := DataW.trod_int Try.underlying45 g3
  obtain ⟨k4, e4, _, _⟩ := DataW.trod_int Try.underlying3 g4
  simp at e0 e1 e2 e3 e4
  subst e0 e1 e2 e3 e4
  exact ⟨⟨k0, k1, k2, k3, k4⟩, rfl⟩
end Go.Proofs.Ytdmlehbamdcjcaa
