/-
  Bytes that came in.
-/
import Derived.Test.YtajkenbcndmjpabOpenT
import Derived.Test.YtajkenbcndmjpabClX
namespace Go.Proofs.Ytajkenbcndmjpab
open Go.ChangeShapes Go.WideShapes Go.ChangeAt Go.RowKit
theorem cellsB : Try.prog.cellsOf 5 = 1 := by kernel_rfl
theorem bytesB : Try.prog.bytesOf 5 = 1 := by kernel_rfl
def isU8 (x : Int) : Prop := 0 ≤ x ∧ x ≤ 255
theorem el_byte {H : Type} {enc : TypeId × Value → H} {W : World} {n : Nat} {cs : List Value} {d : DataW H} {pl : List MemPlace} (h : DataW.trod enc Try.prog W 0 (fun _ => true) true n 5 cs = some (d, pl)) (_hl : cs.length = layB.z) (_hw : ∀ n ∈ d.weights Try.prog 5, n ≤ reachBytes) : ∃ q, cs = layB.cs q ∧ isU8 q := by
  obtain ⟨k, e, _, w0⟩ := DataW.trod_int Try.underlying5 h
  have b0 := Go.bounds_u8 w0
  exact ⟨k, e, b0.1, b0.2⟩
theorem bv_arg {W : World} {a : Option Addr} {n c : Nat} {L : List Int} (h : TRow layB W a n L) (hp : ∀ q ∈ L, isU8 q) (hb : n * 1 ≤ 140737488351232) : BV W (.slice a n c) L := ⟨a, n, c, rfl, row_b h hp, by omega⟩
theorem fits_arg {L : List Tk} (h : ∀ q ∈ L, fitT q) : fits L := h
end Go.Proofs.Ytajkenbcndmjpab
