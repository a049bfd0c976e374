/-
  A script of steps that came in.
-/
import Derived.Test.YtdmlehbamdcjcabOpenG
import Derived.Test.YtdmlehbamdcjcabPlC
namespace Go.Proofs.Ytdmlehbamdcjcab
open Go.ChangeShapes Go.WideShapes Go.ChangeAt Go.RowKit
instance : Inhabited Opp := ⟨⟨0, 0, 0, 0⟩⟩
theorem bytesOp : Try.prog.bytesOf 47 = 32 := by kernel_rfl
theorem cellsOp : Try.prog.cellsOf 47 = 4 := by kernel_rfl
theorem cellsTI : Try.prog.cellsOf 28 = 2 := by kernel_rfl
theorem el_op {H : Type} {enc : TypeId × Value → H} {W : World} {n : Nat} {cs : List Value} {d : DataW H} {pl : List MemPlace} (h : DataW.trod enc Try.prog W 0 (fun _ => true) true n 47 cs = some (d, pl)) (hl : cs.length = layP.z) : ∃ q, cs = layP.cs q := by
  obtain ⟨xs, k, _, hxd, _, hxs, hfs⟩ := DataW.trod_struct Try.underlying47 h
  have g0 := hfs 0 _ rfl
  have g1 := hfs 1 _ rfl
  have g2 := hfs 2 _ rfl
  obtain ⟨y0, y1, y2, rfl⟩ := three hxs
  obtain ⟨v0, v1, v2, v3, rfl⟩ := four hl
  simp [cells3, cellsTI] at g0 g1 g2
  obtain ⟨kd, e0, _, _⟩ := DataW.trod_int Try.underlying3 g0
  obtain ⟨wh, e1, _, _⟩ := DataW.trod_int Try.underlying3 g1
  obtain ⟨xs2, k2, _, _, _, hxs2, hfs2⟩ := DataW.trod_struct Try.underlying28 g2
  have g3 := hfs2 0 _ rfl
  have g4 := hfs2 1 _ rfl
  obtain ⟨z0, z1, rfl⟩ := two hxs2
  simp [cells3] at g3 g4
  obtain ⟨xk, e3, _, _⟩ := DataW.trod_int Try.underlying3 g3
  obtain ⟨xt, e4, _, _⟩ := DataW.trod_int Try.underlying3 g4
  simp at e0 e1 e3 e4
  subst e0 e1 e3 e4
  exact ⟨⟨kd, wh, xk, xt⟩, rfl⟩
end Go.Proofs.Ytdmlehbamdcjcab
