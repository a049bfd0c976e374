/-
  EventNames.
-/
import Derived.Test.YtbflkdbimgakpaaDoorEvtL
import Derived.Test.YtbflkdbimgakpaaDoorEvtA
namespace Go.Proofs.YtbflkdbimgakpaaDoor.E6
open Go.RowKit Go.Maps Go.Shelf
def nkl : List ByteArray := (List.range 22).map fun i => kname (i + 1)
theorem nkl_get {i : Nat} (h : i < 22) : nkl.getD i ByteArray.empty = kname (i + 1) := by
  unfold nkl; rw [List.getD_eq_getElem?_getD]; simp [h]
theorem nkl_cells : nkl.map Value.string = [.string ⟨#[114, 101, 97, 100]⟩, .string ⟨#[119, 114, 105, 116, 101]⟩, .string ⟨#[97, 99, 113, 117, 105, 114, 101]⟩, .string ⟨#[114, 101, 108, 101, 97, 115, 101]⟩, .string ⟨#[114, 97, 99, 113, 117, 105, 114, 101]⟩, .string ⟨#[114, 114, 101, 108, 101, 97, 115, 101]⟩, .string ⟨#[102, 111, 114, 107]⟩, .string ⟨#[106, 111, 105, 110]⟩, .string ⟨#[109, 97, 107, 101]⟩, .string ⟨#[115, 101, 110, 100]⟩, .string ⟨#[97, 99, 107]⟩, .string ⟨#[114, 101, 99, 118]⟩, .string ⟨#[99, 108, 111, 115, 101]⟩, .string ⟨#[97, 100, 100]⟩, .string ⟨#[119, 97, 105, 116]⟩, .string ⟨#[111, 110, 99, 101]⟩, .string ⟨#[108, 111, 97, 100]⟩, .string ⟨#[115, 116, 111, 114, 101]⟩, .string ⟨#[115, 119, 97, 112]⟩, .string ⟨#[97, 108, 108, 111, 99]⟩, .string ⟨#[102, 114, 101, 101]⟩, .string ⟨#[109, 97, 114, 107]⟩] := rfl
theorem srow_lit {w : World} {b n : Nat} {L : List ByteArray} {cs : Array Value} (hr : w.heap[b]? = some (.cells cs 9 (0, 0))) (hc : cs.toList = L.map Value.string) (hl : L.length = n) : SRow w (some ⟨b, 0, none⟩) n L := by
  refine ⟨hl, .inr ⟨b, 0, rfl, fun i hi => ?_⟩⟩
  rw [Nat.zero_add, cell_of_row w b i _ 9 (0, 0) hr, ← Array.getElem?_toList, hc, List.getElem?_map, getD_get (by omega)]
  rfl
theorem below_one (w : World) (ob : Obj) : Below w.heap.size w (w.alloc ob) := (Below.refl _ w).alloc (Nat.le_refl _) _
set_option maxRecDepth 8000 in
theorem names_any (w : World) : Calls Tryd.prog 64 #[] w fun e w' => e = .returned (.slice (some ⟨w.heap.size, 0, none⟩) 22 22) ∧ SRow w' (some ⟨w.heap.size, 0, none⟩) 22 nkl ∧ Below w.heap.size w w' := by
  go_enter Tryd.func64, Tryd.ntmps64
  go_wp2
  go_ret
  exact ⟨rfl, srow_lit (heap_alloc_new w _) nkl_cells.symm (by decide), below_one w _⟩
set_option maxRecDepth 4000 in
theorem rname_any (k : Int) (w : World) : Calls Tryd.prog 41 #[.int .i64 k] w fun e w' => e = .returned (nameV k) ∧ Below w.heap.size w w' := by
  have HN : Hid _ := hide (names_any w)
  by_cases hk : 1 ≤ k ∧ k ≤ 22
  · have HV : Hid (nameV k = .tuple #[.string (kname k.toNat), .int .i64 0]) := hide (by rw [nameV, if_pos hk])
    obtain ⟨m, rfl⟩ : ∃ m : Nat, k = (m : Int) + 1 := ⟨(k - 1).toNat, by omega⟩
    have hm : m < 22 := by omega
    have hmI : (m : Int) < 22 := by omega
    have e1 : (m : Int) + 1 - 1 = m := by omega
    have e3 : IntKind.i64.wrap ((m : Int) + 1 - 1) = m := by rw [IntKind.wrap_i64]; omega
    have e2 : ((m : Int) + 1).toNat = m + 1 := by omega
    rw [e2] at HV
    generalize nameV ((m : Int) + 1) = V at HV ⊢
    clear hk
    go_enter Tryd.func41, Tryd.ntmps41
    go_wp2_with fail
    refine HN.out.mono ?_
    rintro e w' ⟨rfl, hs, hb⟩
    have HB : Hid _ := hide hb
    obtain ⟨b, off, he, hc⟩ := hs.at hm
    cases he
    rw [nkl_get hm, Nat.zero_add] at hc
    generalize kname (m + 1) = z at hc HV
    clear hb hs
    go_wp2
    go_ret2
    exact ⟨by rw [HV.out]; rfl, HB.out⟩
  · have HV : Hid (nameV k = .tuple #[.string ByteArray.empty, .int .i64 60]) := hide (by rw [nameV, if_neg hk])
    generalize nameV k = V at HV ⊢
    by_cases h1 : k < 1
    · clear hk
      go_enter Tryd.func41, Tryd.ntmps41
      go_wp2_with fail
      refine HN.out.mono ?_
      rintro e w' ⟨rfl, hs, hb⟩
      have HB : Hid _ := hide hb
      clear hs hb
      go_wp2
      go_ret2
      exact ⟨by rw [HV.out]; rfl, HB.out⟩
    · have d1 : decide (k < 1) = false := decide_eq_false h1
      have d2 : decide ((22 : Int) < k) = true := by simp; omega
      clear hk h1
      go_enter Tryd.func41, Tryd.ntmps41
      go_wp2_with fail
      refine HN.out.mono ?_
      rintro e w' ⟨rfl, hs, hb⟩
      have HB : Hid _ := hide hb
      clear hs hb
      go_wp2
      go_ret2
      exact ⟨by rw [HV.out]; rfl, HB.out⟩
end Go.Proofs.YtbflkdbimgakpaaDoor.E6
