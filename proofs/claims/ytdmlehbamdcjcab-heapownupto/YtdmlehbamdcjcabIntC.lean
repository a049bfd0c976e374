/-
  Ints: what it answers is its own.
-/
import Derived.Test.YtdmlehbamdcjcabIntB
namespace Go.Proofs.Ytdmlehbamdcjcab
open Go.RowKit
theorem sort_own2 (g cap : Nat) (L : List Int) (w w1 : World) (hown : Own layN 3 w1 w.heap.size (.slice (some ⟨g, 0, none⟩) L.length cap) L) (hb : Below w.heap.size w w1) (hn : L.length < 4611686018427387904) :
    Calls Try.prog 41 #[.slice (some ⟨g, 0, none⟩) L.length cap] w1 fun e w' => e = .returned (.tuple #[]) ∧ Own layN 3 w' w.heap.size (.slice (some ⟨g, 0, none⟩) L.length cap) (inOrder L) ∧ Below w.heap.size w w' := by
  unfold Own at hown
  rw [fl_ints] at hown
  have hown0 := hown
  obtain ⟨g', cap', hv, hbg, hgl, hncap, hcm, hlen, hH⟩ := Lib.holds_of_ownsRow hown (by intro h; cases h)
  cases hv
  rcases hown0.2 with ⟨hv, _⟩ | ⟨g2, cap2, cur, hv, hbase, hblk, hc1, hc2, hc3, hc4⟩
  · cases hv
  cases hv
  refine (Any.slices_Sort_int sortLays g 0 cap L w1 hH hgl hn).mono ?_
  rintro e w2 ⟨rfl, nn, os, rfl⟩
  refine ⟨rfl, ?_, hb.grown (Go.grownBy_sortedI _) hb.size (fun j hj => by cases hj; exact hbg)⟩
  unfold Own
  rw [fl_ints, inOrder_length]
  have h9 := Go.ownsRow_sortedI (n := nn) (os := os) (ts := inOrder L) (ss := L) (inOrder_length L) hbase hblk hc1 hc2
  exact h9 hc3
theorem sorted_ints2 (w : World) (Bs : Nat) (a : Option Addr) (len cap : Nat) (L : List Int) (hc : w.cell? ⟨Bs, 0, none⟩ = some (.slice a len cap)) (hr : TRow layN w a len L) (hl : (len : Int) ≤ 8000000000000) :
    Calls Try.prog 35 #[.func (.func 42) #[] #[.pointer (some ⟨Bs, 0, none⟩)]] w fun e w' => ∃ v, e = .returned v ∧ Own layN 3 w' w.heap.size v (inOrder L) ∧ Below w.heap.size w w' := by
  have CO := collect w Bs a len cap L hc hr hl
  have hln := hr.len
  clear hc hr
  go_enter Try.func35, Try.ntmps35
  go_wp2_with fail
  refine CO.mono ?_
  rintro e w1 ⟨v, rfl, ho, hb⟩
  subst hln
  rcases ho.2 with ⟨rfl, h0⟩ | ⟨g, c', cur, rfl, _⟩
  · have HB : Hid _ := hide hb
    have hL : L = [] := List.eq_nil_of_length_eq_zero h0
    clear CO ho hb h0 hl
    subst hL
    go_wp2_with fail
    refine (Any.slices_Sort_int_none sortLays none 0 _).mono ?_
    rintro e w2 ⟨rfl, rfl⟩
    go_wp2
    go_ret
    have e0 : inOrder ([] : List Int) = [] := List.eq_nil_of_length_eq_zero (inOrder_length [])
    exact ⟨_, rfl, by rw [e0]; exact Own.nil _ _ _ _, HB.out⟩
  · have SO := sort_own2 g c' L w w1 ho hb (by omega)
    clear CO ho hb
    go_wp2_with fail
    refine SO.mono ?_
    rintro e w2 ⟨rfl, hr2, hb2⟩
    go_wp2
    go_ret
    exact ⟨_, rfl, hr2, hb2⟩
/-- Ints: the numbers in their order, in memory of its own. -/
theorem ints_own (w : World) (a : Option Addr) (len cap : Nat) (L : List Int) (hr : TRow layN w a len L) (hl : (len : Int) ≤ 8000000000000) :
    Calls Try.prog 21 #[.slice a len cap] w fun e w' => ∃ v, e = .returned v ∧ Own layN 3 w' w.heap.size v (inOrder L) ∧ Below w.heap.size w w' := by
  have VA := callsIn_wide.1 (values_in 1 a len cap w)
  have HR : Hid _ := hide hr
  clear hr
  go_enter Try.func21, Try.ntmps21
  go_wp2_with fail
  refine VA.mono ?_
  rintro e w1 ⟨rfl, hw1⟩
  have b1 : Below w.heap.size w w1 := by rw [hw1]; exact below_alloc1 _ _
  have c1 : w1.cell? ⟨w.heap.size, 0, none⟩ = some (.slice a len cap) := by rw [hw1]; exact cell_at (heap_new _ _) rfl
  have SO := sorted_ints2 w1 w.heap.size a len cap L c1 (HR.out.below b1) hl
  have HB : Hid _ := hide b1
  clear VA hw1 b1 c1
  go_wp2_with fail
  refine SO.mono ?_
  rintro e w2 ⟨v, rfl, ho2, b2⟩
  have HB2 : Hid _ := hide (Below.on HB.out b2)
  have HO2 : Hid _ := hide (ho2.mono HB.out.size)
  clear SO ho2 b2
  go_wp2
  go_ret
  exact ⟨v, rfl, HO2.out, HB2.out⟩
end Go.Proofs.Ytdmlehbamdcjcab
