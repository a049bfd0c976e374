/-
  Where maps.Keys, slices.Sorted and what they call lie in this program; the keys of a map, sorted.
-/
import Derived.Shelf.SlIterI.Nil
import Derived.Test.YtdlpffbeladgaabLays
import Derived.Test.YtdlpffbeladgaabMgT
namespace Go.Proofs.Ytdlpffbeladgaab
open Go.RowKit Go.Maps Go.Sort Go.Shelf
def keysRen : Go.Shelf.Ren := ⟨fun | 6 => 15 | 7 => 16 | 8 => 23 | 9 => 24 | 10 => 25 | 11 => 34 | n => n, fun | 0 => 0 | 3 => 38 | 4 => 4 | 23 => 51 | 24 => 23 | 26 => 3 | 27 => 53 | 28 => 54 | 33 => 67 | n => n, fun | n => n⟩
theorem keysLay : SlLaysZI.n7 Try.prog keysRen := {
  mixed := by kernel_rfl
  f7 := ⟨Try.f16.name, by kernel_rfl, Try.func16.trans (congrArg some (by kernel_rfl))⟩
  f10 := ⟨Try.f25.name, by kernel_rfl, Try.func25.trans (congrArg some (by kernel_rfl))⟩
  t0 := Try.underlying0
  a0 := Try.isAgg0
  z0 := Try.sizeOf0
  v0 := Try.zeroValue0
  t4 := Try.underlying4
  a4 := Try.isAgg4
  z4 := Try.sizeOf4
  v4 := Try.zeroValue4
  t23 := Try.underlying51
  a23 := Try.isAgg51
  z23 := Try.sizeOf51
  v23 := Try.zeroValue51
  t26 := Try.underlying3
  a26 := Try.isAgg3
  z26 := Try.sizeOf3
  v26 := Try.zeroValue3
  t27 := Try.underlying53
  a27 := Try.isAgg53
  z27 := Try.sizeOf53
  v27 := Try.zeroValue53
  t28 := Try.underlying54
  a28 := Try.isAgg54
  z28 := Try.sizeOf54
  v28 := Try.zeroValue54
  t33 := Try.underlying67
  a33 := Try.isAgg67
  z33 := Try.sizeOf67
  v33 := Try.zeroValue67 }
theorem sortedLay : SlLaysZI.n6 Try.prog keysRen := {
  mixed := by kernel_rfl
  f6 := ⟨Try.f15.name, by kernel_rfl, Try.func15.trans (congrArg some (by kernel_rfl))⟩
  f8 := ⟨Try.f23.name, by kernel_rfl, Try.func23.trans (congrArg some (by kernel_rfl))⟩
  f11 := ⟨Try.f34.name, by kernel_rfl, Try.func34.trans (congrArg some (by kernel_rfl))⟩
  t0 := Try.underlying0
  a0 := Try.isAgg0
  z0 := Try.sizeOf0
  v0 := Try.zeroValue0
  t24 := Try.underlying23
  a24 := Try.isAgg23
  z24 := Try.sizeOf23
  v24 := Try.zeroValue23
  t26 := Try.underlying3
  a26 := Try.isAgg3
  z26 := Try.sizeOf3
  v26 := Try.zeroValue3
  t28 := Try.underlying54
  a28 := Try.isAgg54
  z28 := Try.sizeOf54
  v28 := Try.zeroValue54
  i26 := by kernel_rfl }
theorem keysSort (m : Nat) : AnyZI.SortsIn Try.prog keysRen Fence.wide m :=
  ⟨fun blk off cap ss W hH hblk hsz => callsIn_wide.2 (Any.slices_Sort_int sortLays blk off cap ss W hH hblk hsz), fun p cap W => callsIn_wide.2 (Any.slices_Sort_int_none sortLays p cap W)⟩
theorem keys_any (W : World) (mb : Nat) : Calls Try.prog 16 #[.map (some mb)] W fun e w' => e = .returned (.func (.func 25) #[] #[.pointer (some ⟨W.heap.size, 0, none⟩)]) ∧ w' = W.alloc (.cells #[.map (some mb)] 51) :=
  callsIn_wide.1 (AnyZI.keys_in keysLay Fence.wide 5 trivial rfl (some mb) W)
theorem sorted_any {H : Type} (b nn : Nat) (D : DataW H) (R : Value → Option (DataW H × List MemPlace)) (w : World) (hown : w.ownsMap Try.prog 3 R b nn D) (hs : (Maps.size D : Int) ≤ 1048576) :
    Calls Try.prog 15 #[.func (.func 25) #[] #[.pointer (some ⟨w.heap.size, 0, none⟩)]] (w.alloc (.cells #[.map (some b)] 51)) fun e w' => ∃ (v : Value) (ss : List Int), e = .returned v ∧ ss.Perm (intKeys D) ∧ Own layN 3 w' w.heap.size v (ss.mergeSort leI) ∧ Below w.heap.size w w' := by
  have hbl := hown.lt
  have hseq : SeqGives Fence.wide 2 Try.prog 25 #[.pointer (some ⟨w.heap.size, 0, none⟩)] encZ (fun ss => ss.Perm (intKeys D)) (Maps.size D) (w.alloc (.cells #[.map (some b)] 51)) :=
    AnyZI.keys_gives (ρ := keysRen) { keysLay with } Fence.wide _ trivial rfl (by omega) w.heap.size b nn D _ (by simp) (by simp) (by
      obtain ⟨es, clock, hb, Ft, hs, hD⟩ := hown
      exact ⟨es, clock, (Below.heap_alloc _ _ b hbl).trans hb, Ft, hs, hD⟩)
  have cS := AnyZI.sorted_in sortedLay Fence.wide 5 trivial trivial trivial trivial rfl (by omega) (keysSort _) (enters_of Try.func24 (by kernel_rfl) rfl) 25 #[.pointer (some ⟨w.heap.size, 0, none⟩)] trivial (enters_of Try.func25 (by kernel_rfl) rfl) _ _ (by unfold maxLen; omega) (by omega) _ hseq
  refine (callsIn_wide.1 cS).mono ?_
  rintro e w' ⟨v, ss, rfl, hS, hrow, _, hb⟩
  refine ⟨v, ss, rfl, hS, ?_, ((Below.refl _ w).alloc (Nat.le_refl _) _).trans (hb.mono (by simp))⟩
  have h9 := own_mono (base' := w.heap.size) hrow (by simp)
  have hl : ss.length = (ss.mergeSort leI).length := (List.length_mergeSort _).symm
  have hf : ∀ l : List Int, layN.fl l = l.map encZ := by
    intro l
    induction l with
    | nil => rfl
    | cons x l ih => rw [layN.fl_cons, ih]; rfl
  unfold Own
  rw [hf, ← hl]
  exact h9
end Go.Proofs.Ytdlpffbeladgaab
