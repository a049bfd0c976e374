/-
  good of any records.
-/
import Derived.Test.YtamoioebgnmcaaaDoorSLaw
namespace Go.Proofs.YtamoioebgnmcaaaDoor
open Go.RowKit
set_option maxHeartbeats 1600000 in
set_option maxRecDepth 8000 in
theorem good_any (a : Option Addr) (n c : Nat) (L : List Rc) (w : World) (hK : Kn w) (hw : 0 < w.heap.size) (hA : RRow w a n L) (hok : ∀ r ∈ L, r.ok) (hn : (n : Int) ≤ 9223372036854775000) :
    Calls Tryd.prog 24 #[.slice a n c] w fun e w' => e = .returned (.bool (decide (strE 0 L = 0))) ∧ Below w.heap.size w w' := by
  have hl := hA.len
  have H1 : Hid _ := hide hA
  have HOK : Hid _ := hide hok
  clear hA hok
  go_enter Tryd.func24, Tryd.ntmps24
  go_wp2
  go_loopw [3] (fun i wr => ∃ (k : Nat) (m : Int), k ≤ n ∧ i = .int .i64 k ∧ Below w.heap.size w wr ∧ strE 0 L = strE m (L.drop k) ∧ (∀ x, 0 < k → L[k - 1]? = some x → x.stamp + 1 = m) ∧ (k = 0 → m = 0)) (fun i _ => n - (intOf i).toNat)
  case atStart => exact ⟨0, 0, Nat.zero_le _, rfl, Below.refl _ _, rfl, fun x h => by omega, fun _ => rfl⟩
  case round =>
    obtain ⟨k, m, hk, rfl, hB, hS, hP, hm0⟩ := hrel
    have HB : Hid _ := hide hB
    have HS : Hid _ := hide hS
    have HM0 : Hid _ := hide hm0
    have hsz := hB.size
    by_cases hlt : k < n
    · have A1 := H1.out.below hB
      obtain ⟨⟨t, kd, o, ar, qq⟩, hrk⟩ : ∃ r, L[k]? = some r := ⟨L[k]'(by omega), List.getElem?_eq_getElem _⟩
      rcases A1.cells with h0 | ⟨b1, o1, rfl, hc1⟩
      · omega
      obtain ⟨x0, x1, x2, x3, x4⟩ := hc1 k _ hrk
      dsimp only at x0 x1 x2 x3 x4
      have hbl1 := World.block_lt_of_cell? wr _ x0
      have HRK : Hid _ := hide hrk
      have hltI : (k : Int) < (n : Int) := by omega
      have HPV : Hid (0 < k → ∃ u, wr.cell? ⟨b1, o1 + (k - 1) * 5, none⟩ = some (.int .i64 u) ∧ u + 1 = m) := hide (fun h0 => by
        obtain ⟨y, hy⟩ : ∃ y, L[k - 1]? = some y := ⟨L[k - 1]'(by omega), List.getElem?_eq_getElem _⟩
        exact ⟨y.stamp, (hc1 (k - 1) y hy).1, hP y h0 hy⟩)
      have HNP : Hid (∀ x, 0 < k + 1 → L[k + 1 - 1]? = some x → x.stamp + 1 = t + 1) := hide (fun x _ hx => by
        rw [Nat.add_sub_cancel, HRK.out] at hx
        cases hx; rfl)
      have HKW := hK.below hB (by omega)
      have hwr0 : 0 < wr.heap.size := by omega
      have HROK : Hid _ := hide (HOK.out _ (List.mem_of_getElem? hrk))
      clear hS hP A1 hrk hB hc1 hm0
      by_cases hE : putE St.zero ⟨t, kd, o, ar, qq⟩ = 0
      · have HP := put_n 0 0 0 t kd o ar qq wr HKW hwr0 hE HROK.out
        have HE : Hid _ := hide hE
        have hok := putE_ok hE
        dsimp only at hok
        have ht0 : 0 ≤ t := by have := hok; have h9 : (St.zero).stamp = 0 := rfl; omega
        clear hE hok
        go_wp2_with fail
        refine HP.mono ?_
        rintro e w2 ⟨g, cg, rfl, -, -, hb2⟩
        have hs2 := hb2.size
        have hb9 : Below wr.heap.size wr (w2.alloc (.cells #[.int .i64 (t + 1), .int .u64 o, .int .i64 qq] 48)) := hb2.alloc hs2 _
        have d0 := (hb9.cell (p := ⟨b1, o1 + k * 5, none⟩) hbl1).trans x0
        have HB9 : Hid _ := hide (HB.out.trans (hb9.mono hsz))
        have HNU := fun j => num_any 0 ((w2.alloc (.cells #[.int .i64 (t + 1), .int .u64 o, .int .i64 qq] 48)).drewN j)
        clear HP x0 x1 x2 x3 x4 hb2
        by_cases hk0 : k = 0
        · subst hk0
          have HNX : Hid (strE 0 L = strE (t + 1) (L.drop (0 + 1))) := hide (HS.out.trans (strE_on HRK.out HE.out (by rw [HM0.out rfl]; dsimp only; omega)))
          clear HPV hb9
          go_wp2_with fail
          go_quiet ((go_at_call 22; exact Calls.quiet_of ((HNU _).mono (fun e w' h => ⟨h.1, 0, h.2⟩))))
          go_wp2
          exact ⟨⟨0 + 1, t + 1, by omega, by go_num, below_drewN HB9.out nq, HNX.out, HNP.out, fun h => by omega⟩, by simp [intOf]; omega⟩
        · obtain ⟨u, hu, hut⟩ := HPV.out (by omega)
          have d1 := (hb9.cell (p := ⟨b1, o1 + (k - 1) * 5, none⟩) hbl1).trans hu
          have hi0 : (0 : Int) ≤ (k : Int) - 1 := by omega
          have hi1 : (k : Int) - 1 < (n : Int) := by omega
          have hi2 : (0 : Int) < (k : Int) := by omega
          have hi4 : 0 < k := by omega
          have hi5 : decide ((0 : Int) < (k : Int)) = true := decide_eq_true hi2
          have hi7 : (1 : Int) ≤ (k : Int) := by omega
          have hi8 : 1 ≤ k := by omega
          have hi9 : ¬ (k : Int) - 1 < 0 := by omega
          have hi10 : ¬ (k : Int) < 1 := by omega
          have hwr : IntKind.i64.wrap ((k : Int) - 1) = (k : Int) - 1 := by rw [IntKind.wrap_i64]; omega
          by_cases htu : t ≤ u
          · have HNX : Hid (strE 0 L = 80) := hide (HS.out.trans (strE_low HRK.out HE.out (by dsimp only; omega)))
            have hdl : decide (t ≤ u) = true := decide_eq_true htu
            clear HPV hb9 hu hut hk0
            go_wp2_with fail
            go_quiet ((go_at_call 22; exact Calls.quiet_of ((HNU _).mono (fun e w' h => ⟨h.1, 0, h.2⟩))))
            go_wp2
            go_ret
            exact ⟨by rw [HNX.out]; rfl, below_drewN HB9.out nq⟩
          · have HNX : Hid (strE 0 L = strE (t + 1) (L.drop (k + 1))) := hide (HS.out.trans (strE_on HRK.out HE.out (by dsimp only; omega)))
            have hdl : decide (t ≤ u) = false := decide_eq_false htu
            clear HPV hb9 hu hut hk0
            go_wp2_with fail
            go_quiet ((go_at_call 22; exact Calls.quiet_of ((HNU _).mono (fun e w' h => ⟨h.1, 0, h.2⟩))))
            go_wp2
            exact ⟨⟨k + 1, t + 1, by omega, by go_num, below_drewN HB9.out nq, HNX.out, HNP.out, fun h => by omega⟩, by simp [intOf]; omega⟩
      · have HP := put_bad 0 0 0 t kd o ar qq wr HKW hwr0 hE
        have HNX : Hid (strE 0 L = putE St.zero ⟨t, kd, o, ar, qq⟩) := hide (HS.out.trans (strE_bad HRK.out hE))
        have HP' : Calls Tryd.prog 27 #[.agg #[.int .i64 0, .int .u64 0, .int .i64 0], .agg #[.int .i64 t, .int .i64 kd, .int .u64 o, .int .u64 ar, .int .i64 qq]] wr fun e w' => e = .returned (.tuple #[.slice none 0 0, .agg #[.int .i64 0, .int .u64 0, .int .i64 0], .int .i64 (putE St.zero ⟨t, kd, o, ar, qq⟩)]) ∧ Below wr.heap.size wr w' := HP
        generalize putE St.zero ⟨t, kd, o, ar, qq⟩ = E at HP' HNX hE
        clear HP
        go_wp2_with fail
        refine HP'.mono ?_
        rintro e w2 ⟨rfl, hb2⟩
        have hs2 := hb2.size
        have HB9 : Hid (Below w.heap.size w (w2.alloc (.cells #[.int .i64 0, .int .u64 0, .int .i64 0] 48))) := hide ((HB.out.trans (hb2.mono hsz)).alloc (by omega) _)
        have HNU := fun j => num_any E ((w2.alloc (.cells #[.int .i64 0, .int .u64 0, .int .i64 0] 48)).drewN j)
        have hEb : (E != 0) = true := by simpa using hE
        clear HP' x0 x1 x2 x3 x4 hb2 HPV
        go_wp2_with fail
        go_quiet ((go_at_call 22; exact Calls.quiet_of ((HNU _).mono (fun e w' h => ⟨h.1, 0, h.2⟩))))
        go_wp2
        go_ret
        refine ⟨?_, below_drewN HB9.out nq⟩
        rw [HNX.out, decide_eq_false hE]
        rfl
    · have hd : L.drop k = [] := List.drop_eq_nil_of_le (by omega)
      have HNX : Hid (strE 0 L = 0) := hide (by rw [HS.out, hd]; rfl)
      clear hS hP hd
      go_wp2
      go_ret
      exact ⟨by rw [HNX.out]; rfl, HB.out⟩
end Go.Proofs.YtamoioebgnmcaaaDoor
