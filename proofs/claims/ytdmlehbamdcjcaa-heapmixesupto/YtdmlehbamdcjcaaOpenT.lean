/-
  A row of truths as an argument.
-/
import Derived.Test.YtdmlehbamdcjcaaMixW
import Derived.Test.YtdmlehbamdcjcaaOpenB
namespace Go.Proofs.Ytdmlehbamdcjcaa
open Go.RowKit
theorem cells4 : Try.prog.cellsOf 4 = 1 := by kernel_rfl
theorem el_bool {H : Type} {enc : TypeId × Value → H} {W : World} {n : Nat} {cs : List Value} {d : DataW H} {pl : List MemPlace} (h : DataW.trod enc Try.prog W 0 (fun _ => true) true n 4 cs = some (d, pl)) (_hl : cs.length = layT.z) : ∃ q, cs = layT.cs q := by
  obtain ⟨k, e, _⟩ := DataW.trod_bool Try.underlying4 h
  exact ⟨k, e⟩
end Go.Proofs.Ytdmlehbamdcjcaa
