/-
  EventNames.
-/
import Derived.Test.YthekpcgebkoodaaDoorEvtL
import Derived.Test.YthekpcgebkoodaaDoorEvtA
namespace Go.Proofs.YthekpcgebkoodaaDoor
open Go.RowKit Go.Maps Go.Shelf
def nkl : List ByteArray := (List.range 22).map fun i => kname (i + 1)
theorem nkl_get {i : Nat} (h : i < 22) : nkl.getD i ByteArray.empty = kname (i + 1) := by
  unfold nkl; rw [List.getD_eq_getElem?_getD]; simp [h]
theorem nkl_cells : nkl.map Value.string = [.string ⟨#[114, 101, 97, 100]⟩, .string ⟨#[119, 114, 105, 116, 101]⟩, .string ⟨#[97, 99, 113, 117, 105, 114, 101]⟩, .string ⟨#[114, 101, 108, 101, 97, 115, 101]⟩, .string ⟨#[114, 97, 99, 113, 117, 105, 114, 101]⟩, .string ⟨#[114, 114, 101, 108, 101, 97, 115, 101]⟩, .string ⟨#[102, 111, 114, 107]⟩, .string ⟨#[106, 111, 105, 110]⟩, .string ⟨#[109, 97, 107, 101]⟩, .string ⟨#[115, 101, 110, 100]⟩, .string ⟨#[97, 99, 107]⟩, .string ⟨#[114, 101, 99, 118]⟩, .string ⟨#[99, 108, 111, 115, 101]⟩, .string ⟨#[97, 100, 100]⟩, .string ⟨#[119, 97, 105, 116]⟩, .string ⟨#[111, 110, 99, 101]⟩, .string ⟨#[108, 111, 97, 100]⟩, .string ⟨#[115, 116, 111, 114, 101]⟩, .string ⟨#[115, 119, 97, 112]⟩, .string ⟨#[97, 108, 108, 111, 99]⟩, .string ⟨#[102, 114, 101, 101]⟩, .string ⟨#[109, 97, 114, 107]⟩] := rfl
theorem srow_lit {w : World} {b n : Nat} {L : List ByteArray} {cs : Array Value} (hr : w.heap[b]? = some (.cells cs 9 (0, 0))) (hc : cs.toList = L.map Value.string) (hl : L.length = n) : SRow w (some ⟨b, 0, none⟩) n L := by
  refine ⟨hl, .inr ⟨b, 0, rfl, fun i hi => ?_⟩⟩
  rw [Nat.zero_add, cell_of_row w b i _ 9 (0, 0) hr, ← Array.getElem?_toList, hc, List.getElem?_map, getD_get (by omega)]
  rfl
theorem below_one (w : World) (ob : Obj) : Below w.heap.size w (w.alloc ob) := (Below.refl _ w).alloc (Nat.le_refl _) _
set_option maxRecDepth 8000 in
theorem names_any (w : World) : Calls Tryd.prog 27 #[] w fun e w' => e = .returned (.slice (some ⟨w.heap.size, 0, none⟩) 22 22) ∧ SRow w' (some ⟨w.heap.size, 0, none⟩) 22 nkl ∧ Below w.heap.size w w' := by
  go_enter Tryd.func27, Tryd.ntmps27
  go_wp2
  go_ret
  exact ⟨rfl, srow_lit (heap_alloc_new w _) nkl_cells.symm (by decide), below_one w _⟩
set_option maxRecDepth 4000 in
theorem rname_any (k : Int) (w : World) : Calls Tryd.prog 10 #[.int .i64 k] w fun e w' => e = .returned (nameV k) ∧ Below w.heap.size w w' := by
  have HN : Hid _ := hide (names_any w)
  by_cases hk : 1 ≤ k ∧ k ≤ 22
  · have HV : Hid (nameV k = .tuple #[.string (kname k.toNat), .int .i64 0]) := hide (by rw [nameV, if_pos hk])
    obtain ⟨m, rfl⟩ : ∃ m : Nat, k = (m : Int) + 1 := ⟨(k - 1).toNat, by omega⟩
    have hm : m < 22 := by omega
    have hmI : (m : Int) < 22 := by omega
    have e1 : (m : Int) + 1 - 1 = m := by omega
    have e3 : IntKind.i64.wrap ((m : Int) + 1 - 1) = m := by rw [IntKind.wrap_i64]; omega
    have e2 : ((m : Int) + 1).toNat = m + 1 := by omega
    rw [e2] at HV
    generalize nameV ((m : Int) + 1) = V at HV ⊢
    clear hk
    go_enter Tryd.func10, Tryd.ntmps10
    go_wp2_with fail
    refine HN.out.mono ?_
    rintro e w' ⟨rfl, hs, hb⟩
    have HB : Hid _ := hide hb
    obtain ⟨b, off, he, hc⟩ := hs.at hm
    cases he
    rw [nkl_get hm, Nat.zero_add] at hc
    generalize kname (m + 1) = z at hc HV
    clear hb hs
    go_wp2
    go_ret2
    exact ⟨by rw [HV.out]; rfl, HB.out⟩
  · have HV : Hid (nameV k = .tuple #[.string ByteArray.empty, .int .i64 60]) := hide (by rw [nameV, if_neg hk])
    generalize nameV k = V at HV ⊢
    by_cases h1 : k < 1
    · clear hk
      go_enter Tryd.func10, Tryd.ntmps10
      go_wp2_with fail
      refine HN.out.mono ?_
      rintro e w' ⟨rfl, hs, hb⟩
      have HB : Hid _ := hide hb
      clear hs hb
      go_wp2
      go_ret2
      exact ⟨by rw [HV.out]; rfl, HB.out⟩
    · have d1 : decide (k < 1) = false := decide_eq_false h1
      have d2 : decide ((22 : Int) < k) = true := by simp; omega
      clear hk h1
      go_enter Tryd.func10, Tryd.ntmps10
      go_wp2_with fail
      refine HN.out.mono ?_
      rintro e w' ⟨rfl, hs, hb⟩
      have HB : Hid _ := hide hb
      clear hs hb
      go_wp2
      go_ret2
      exact ⟨by rw [HV.out]; rfl, HB.out⟩
theorem rkind_any (s : ByteArray) (w : World) : Calls Tryd.prog 12 #[.string s] w fun e w' => e = .returned (.tuple #[.int .i64 (kfind s 1 22).1, .int .i64 (kfind s 1 22).2]) ∧ Below w.heap.size w w' := by
  have HN : Hid _ := hide (names_any w)
  obtain ⟨R, hR⟩ : ∃ R, R = kfind s 1 22 := ⟨_, rfl⟩
  rw [← hR]
  have HR : Hid _ := hide hR
  clear hR
  go_enter Tryd.func12, Tryd.ntmps12
  go_wp2_with fail
  refine HN.out.mono ?_
  rintro e w1 ⟨rfl, hs, hb⟩
  have HB : Hid _ := hide hb
  have HS : Hid _ := hide hs
  clear hb hs HN
  go_wp2
  go_loopw [5] (fun i wr => ∃ k : Nat, k ≤ 22 ∧ i = .int .i64 k ∧ wr = w1 ∧ R = kfind s (k + 1) (22 - k)) (fun i _ => 22 - (intOf i).toNat)
  case atStart => exact ⟨0, by omega, rfl, rfl, HR.out⟩
  case round =>
    obtain ⟨k, hk2, rfl, rfl, hr⟩ := hrel
    have HR2 : Hid _ := hide hr
    clear hr
    by_cases hk : k < 22
    · have hkI : (k : Int) < 22 := by omega
      obtain ⟨b, off, he, hc⟩ := HS.out.at hk
      cases he
      rw [nkl_get hk, Nat.zero_add] at hc
      obtain ⟨t, ht⟩ : ∃ t, t = kname (k + 1) := ⟨_, rfl⟩
      rw [← ht] at hc
      have HT : Hid _ := hide ht
      clear ht
      obtain ⟨f, hf⟩ : ∃ f, 22 - k = f + 1 := ⟨21 - k, by omega⟩
      cases hq : t.toList == s.toList
      · have HN : Hid (R = kfind s (k + 1 + 1) (22 - (k + 1))) := hide (by rw [HR2.out, hf, kfind, ← HT.out, hq, show 22 - (k + 1) = f by omega]; rfl)
        clear hf
        go_wp2
        exact ⟨⟨k + 1, by omega, by go_num, by trivial, HN.out⟩, by simp [intOf]; omega⟩
      · have HN : Hid (R = ((k : Int) + 1, 0)) := hide (by rw [HR2.out, hf, kfind, ← HT.out, hq]; rfl)
        clear hf
        go_wp2
        go_ret2
        exact ⟨by rw [HN.out]; rfl, HB.out⟩
    · have HN : Hid (R = (0, 60)) := hide (by rw [HR2.out, show 22 - k = 0 by omega]; rfl)
      go_wp2
      go_ret2
      exact ⟨by rw [HN.out]; rfl, HB.out⟩
theorem rsync_any (k : Int) (w : World) : Calls Tryd.prog 14 #[.int .i64 k] w fun e w' => e = .returned (.bool (syncB k)) ∧ w' = w := by
  obtain ⟨R, hR⟩ : ∃ R, R = syncB k := ⟨_, rfl⟩
  rw [← hR]
  unfold syncB at hR
  by_cases h1 : 3 ≤ k
  · have d1 : decide (3 ≤ k) = true := decide_eq_true h1
    by_cases h2 : k ≤ 8
    · have d2 : decide (k ≤ 8) = true := decide_eq_true h2
      have HN : Hid (R = true) := hide (by rw [hR]; simp; omega)
      clear hR
      go_enter Tryd.func14, Tryd.ntmps14
      go_wp2
      go_ret
      exact ⟨by rw [HN.out]; rfl, rfl⟩
    · have d2 : decide (k ≤ 8) = false := decide_eq_false h2
      by_cases h3 : 10 ≤ k
      · have d3 : decide (10 ≤ k) = true := decide_eq_true h3
        have HN : Hid (R = decide (k ≤ 19)) := hide (by rw [hR, Bool.eq_iff_iff]; simp; omega)
        clear hR
        go_enter Tryd.func14, Tryd.ntmps14
        go_wp2
        go_ret
        exact ⟨by rw [HN.out]; rfl, rfl⟩
      · have d3 : decide (10 ≤ k) = false := decide_eq_false h3
        have HN : Hid (R = false) := hide (by rw [hR, decide_eq_false_iff_not]; omega)
        clear hR
        go_enter Tryd.func14, Tryd.ntmps14
        go_wp2
        go_ret
        exact ⟨by rw [HN.out]; rfl, rfl⟩
  · have d1 : decide (3 ≤ k) = false := decide_eq_false h1
    have d3 : decide (10 ≤ k) = false := by simp; omega
    have HN : Hid (R = false) := hide (by rw [hR, decide_eq_false_iff_not]; omega)
    clear hR
    go_enter Tryd.func14, Tryd.ntmps14
    go_wp2
    go_ret
    exact ⟨by rw [HN.out]; rfl, rfl⟩
theorem nameV_form (k : Int) : ∃ s x, nameV k = .tuple #[.string s, .int .i64 x] := by
  unfold nameV; split <;> exact ⟨_, _, rfl⟩
theorem enames_any (k : Int) (s : ByteArray) (w : World) (h : Kn w) :
    Calls Tryd.prog 3 #[.int .i64 k, .string s] w fun r w' => r = .returned (.bool true) ∧ Below w.heap.size w w' := by
  obtain ⟨t, x, hV⟩ := nameV_form k
  have h1 := name_any k w h
  have h2 := rname_any k w
  rw [hV] at h1 h2
  have H1 : Hid _ := hide h1
  have H2 : Hid _ := hide h2
  have HK : Hid _ := hide h
  clear h1 h2 h hV
  go_enter Tryd.func3, Tryd.ntmps3
  go_wp2_with fail
  refine H1.out.mono ?_
  rintro r w' ⟨rfl, rfl⟩
  go_wp2_with fail
  refine H2.out.mono ?_
  rintro r w2 ⟨rfl, hb2⟩
  have HB2 : Hid _ := hide hb2
  have h3 := kind_any s w2 (HK.out.below hb2 (World.block_lt_of_cell? w' _ (HK.out.name 0 (by omega))))
  generalize hX : kfind s 1 22 = X at h3
  have HX : Hid _ := hide hX
  have H3 : Hid _ := hide h3
  clear hb2 h3 hX H1 H2
  go_wp2_with fail
  refine H3.out.mono ?_
  rintro r w'' ⟨rfl, rfl⟩
  have h4 := rkind_any s w''
  rw [HX.out] at h4
  have H4 : Hid _ := hide h4
  clear h4 H3 HX
  go_wp2_with fail
  refine H4.out.mono ?_
  rintro r w4 ⟨rfl, hb4⟩
  have HB4 : Hid _ := hide (HB2.out.trans (hb4.mono HB2.out.size))
  have H5 : Hid _ := hide (sync_any k w4)
  have H6 : Hid _ := hide (rsync_any k w4)
  clear hb4 H4
  obtain ⟨X1, X2⟩ := X
  dsimp only
  generalize syncB k = Y at H5 H6
  have g1 : (x == x) = true := by simp
  have g2 : (t.toList == t.toList) = true := by simp
  have g3 : (X2 == X2) = true := by simp
  have g4 : (X1 == X1) = true := by simp
  have g5 : (Y == Y) = true := by simp
  go_wp2_with fail
  refine H5.out.mono ?_
  rintro r w5 ⟨rfl, rfl⟩
  go_wp2_with fail
  refine H6.out.mono ?_
  rintro r w6 ⟨rfl, rfl⟩
  go_wp2
  go_ret
  exact ⟨rfl, HB4.out⟩
theorem kn_of_laid {W : World} (h : laidMetH Tryd.prog laid1 W) : Kn W := by
  rw [MakeChecks.laidMetH_plain _ _ _ (by kernel_rfl)] at h
  obtain ⟨ps, ⟨g0, t0, cs0, f0, p0, q0, hg0, ht0, hv0, hd0, _, _⟩, _, _⟩ := h
  obtain rfl := Option.some.inj (gKinds.symm.trans hg0)
  obtain rfl := Option.some.inj (tKinds.symm.trans ht0)
  have K := kinds_of hd0
  refine ⟨fun k hk => ?_, fun k hk => ?_⟩
  · rw [World.var?_cell hg0 hv0]; simpa using (K k hk).1
  · rw [World.var?_cell hg0 hv0]; simpa using (K k hk).2
end Go.Proofs.YthekpcgebkoodaaDoor
