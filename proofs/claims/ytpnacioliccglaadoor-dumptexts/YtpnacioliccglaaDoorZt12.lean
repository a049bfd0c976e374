import Derived.Test.YtpnacioliccglaaDoorZt11
set_option maxRecDepth 8000
set_option maxHeartbeats 8000000
set_option linter.unusedVariables false
/-
  The document's Check.
-/
namespace Go.Proofs.YtpnacioliccglaaDoor.E6
open Go.RowKit Go.Maps Go.Shelf
theorem stkB_deep {ls : List ByteArray} {n : Nat} (hl : ls.length = n) (h : 16 < n) : stkB ls = false := by
  unfold stkB; rw [decide_eq_false (by omega)]; rfl
theorem stkB_all {ls : List ByteArray} {n : Nat} (hl : ls.length = n) (h : n ≤ 16) : stkB ls = ls.all fun s => decide (s.size ≤ 65536) := by
  unfold stkB; rw [decide_eq_true (by omega)]; rfl
theorem classes (k : Int) : ((k == 7) = true ∧ (k == 8) = false ∧ spanB k = false) ∨ ((k == 7) = false ∧ (k == 8) = true ∧ spanB k = false) ∨ ((k == 7) = false ∧ (k == 8) = false ∧ spanB k = false) ∨ ((k == 7) = false ∧ (k == 8) = false ∧ spanB k = true) := by
  by_cases h7 : k = 7
  · subst h7; exact .inl ⟨rfl, rfl, rfl⟩
  · by_cases h8 : k = 8
    · subst h8; exact .inr (.inl ⟨rfl, rfl, rfl⟩)
    · have e7 : (k == 7) = false := by rw [beq_eq_false_iff_ne]; exact h7
      have e8 : (k == 8) = false := by rw [beq_eq_false_iff_ne]; exact h8
      cases hs : spanB k
      · exact .inr (.inr (.inl ⟨e7, e8, rfl⟩))
      · exact .inr (.inr (.inr ⟨e7, e8, rfl⟩))
set_option maxRecDepth 4000 in
set_option maxHeartbeats 8000000 in
theorem rcheck_any (g k o a : Int) (sa : Option Addr) (sn sc : Nat) (ls : List ByteArray) (w : World) (hr : SRow w sa sn ls) (hn : (sn : Int) ≤ 9223372036854775806) (ho : 0 ≤ o ∧ o ≤ 18446744073709551615) (ha : 0 ≤ a ∧ a ≤ 18446744073709551615) :
    Calls Tryd.prog 20 #[.agg #[.int .i64 g, .int .i64 k, .int .u64 o, .int .u64 a, .slice sa sn sc]] w fun e w' => e = .returned (.int .i64 (chk g k o a ls)) ∧ Below w.heap.size w w' := by
  obtain ⟨R, hR⟩ : ∃ R, R = chk g k o a ls := ⟨_, rfl⟩
  rw [← hR]
  obtain ⟨W1, hW1⟩ : ∃ W1, W1 = w.alloc (.cells #[.int .i64 g, .int .i64 k, .int .u64 o, .int .u64 a, .slice sa sn sc] 25) := ⟨_, rfl⟩
  have hb1 : Below w.heap.size w W1 := by rw [hW1]; exact below_new w _
  have hs1 := hr.bel hb1
  have he1 : EvB W1 w.heap.size g k o a sa sn sc := by rw [hW1]; exact EvB.new
  have HL : Hid (ls.length = sn) := hr.len
  have HB : Hid _ := hide hb1
  have HS : Hid _ := hide hs1
  have HE : Hid _ := hide he1
  have HW : Hid _ := hide hW1
  clear hb1 hs1 he1 hr hW1
  by_cases hk : 1 ≤ k ∧ k ≤ 22
  · have k1 : decide (k < 1) = false := by simp; omega
    have k2 : decide (22 < k) = false := by simp; omega
    by_cases hg : g < 0 ∨ 65536 ≤ g
    · have HN : Hid (R = 61) := hide (by rw [hR]; unfold chk; rw [if_pos hk, if_pos hg])
      clear hR hk
      rcases hg with hg | hg
      · go_enter Tryd.func20, Tryd.ntmps20
        go_wp2
        go_ret
        exact ⟨by rw [HN.out]; rfl, by rw [← HW.out]; exact HB.out⟩
      · have g1 : decide (g < 0) = false := by simp; omega
        go_enter Tryd.func20, Tryd.ntmps20
        go_wp2
        go_ret
        exact ⟨by rw [HN.out]; rfl, by rw [← HW.out]; exact HB.out⟩
    · have g1 : decide (g < 0) = false := by simp; omega
      have g2 : decide (65536 ≤ g) = false := by simp; omega
      have hF := chk_flags (o := o) (a := a) (ls := ls) hk hg
      rw [← hR] at hF
      have HA : Hid _ := hide (rargs_any k (w.alloc (.cells #[.int .i64 g, .int .i64 k, .int .u64 o, .int .u64 a, .slice sa sn sc] 25)) hk)
      have HSp : Hid _ := hide (rspans_any k W1)
      have HOv : Hid _ := hide (rover_any g k o a sa sn sc W1 ho ha)
      have p0 := HE.out.c0
      have p1 := HE.out.c1
      have p2 := HE.out.c2
      have p3 := HE.out.c3
      have p4 := HE.out.c4
      have hfit : argB k.toNat a = (decide (rlo (ksort k.toNat) ≤ a) && decide (a ≤ rhi (ksort k.toNat))) := by unfold argB lo hi; rw [Bool.eq_iff_iff]; simp
      rw [hfit] at hF
      generalize rlo (ksort k.toNat) = l at HA hF
      generalize rhi (ksort k.toNat) = m at HA hF
      clear hR hk hg hfit ho ha
      obtain ⟨d1, e1⟩ : ∃ d, decide (l ≤ a) = d := ⟨_, rfl⟩
      obtain ⟨d2, e2⟩ : ∃ d, decide (a ≤ m) = d := ⟨_, rfl⟩
      obtain ⟨z, ez⟩ : ∃ z, (o != 0) = z := ⟨_, rfl⟩
      rw [e1, e2, ez] at hF
      rcases classes k with ⟨e7, e8, es⟩ | ⟨e7, e8, es⟩ | ⟨e7, e8, es⟩ | ⟨e7, e8, es⟩
      · rw [e7, e8, es] at hF
        rw [es] at HSp
        have HF : Hid _ := hide hF
        clear hF
        cases z
        · cases d1
          · go_enter Tryd.func20, Tryd.ntmps20
            go_wp2_with fail
            refine HA.out.mono ?_
            rintro e w' ⟨rfl, hw⟩
            rw [← HW.out] at hw
            subst hw
            go_wp2_with fail
            refine HSp.out.mono ?_
            rintro e w' ⟨rfl, rfl⟩
            go_wp2
            go_ret
            exact ⟨by rw [HF.out]; rfl, HB.out⟩
          · cases d2
            · go_enter Tryd.func20, Tryd.ntmps20
              go_wp2_with fail
              refine HA.out.mono ?_
              rintro e w' ⟨rfl, hw⟩
              rw [← HW.out] at hw
              subst hw
              go_wp2_with fail
              refine HSp.out.mono ?_
              rintro e w' ⟨rfl, rfl⟩
              go_wp2
              go_ret
              exact ⟨by rw [HF.out]; rfl, HB.out⟩
            · go_enter Tryd.func20, Tryd.ntmps20
              go_wp2_with fail
              refine HA.out.mono ?_
              rintro e w' ⟨rfl, hw⟩
              rw [← HW.out] at hw
              subst hw
              go_wp2_with fail
              refine HSp.out.mono ?_
              rintro e w' ⟨rfl, rfl⟩
              by_cases h16 : sn ≤ 16
              · have h16I : (sn : Int) ≤ 16 := by omega
                have HX : Hid _ := hide (stkB_all HL.out h16)
                clear p0 p1 p2 p3
                go_wp2
                go_loopw [6] (fun i wr => ∃ j : Nat, j ≤ sn ∧ i = .int .i64 j ∧ wr = w' ∧ ((ls.take j).all fun s => decide (s.size ≤ 65536)) = true) (fun i _ => sn - (intOf i).toNat)
                case atStart => exact ⟨0, Nat.zero_le _, rfl, rfl, by simp⟩
                case round =>
                  obtain ⟨j, hj, rfl, rfl, hall⟩ := hrel
                  have HAll : Hid _ := hide hall
                  clear hall
                  by_cases hlt : j < sn
                  · obtain ⟨b1, o1, rfl, hc1⟩ := HS.out.at hlt
                    have hjI : (j : Int) < sn := by omega
                    have HT' : Hid _ := hide (@all_take_succ ls (fun s => decide (s.size ≤ 65536)) j (by rw [HL.out]; exact hlt) HAll.out)
                    have HF' : Hid _ := hide (@all_false ls (fun s => decide (s.size ≤ 65536)) j (by rw [HL.out]; exact hlt))
                    generalize ls.getD j ByteArray.empty = x at hc1 HT' HF'
                    by_cases hx : x.size ≤ 65536
                    · have hxI : (x.size : Int) ≤ 65536 := by omega
                      have HN : Hid _ := hide (HT'.out (decide_eq_true hx))
                      clear hx
                      go_wp2
                      exact ⟨⟨j + 1, by omega, by go_num, by trivial, HN.out⟩, by simp [intOf]; omega⟩
                    · have hxI : (65536 : Int) < (x.size : Int) := by omega
                      have HN : Hid (R = 64) := hide (by rw [HF.out, HX.out, HF'.out (decide_eq_false hx)]; rfl)
                      clear hx
                      go_wp2
                      go_ret
                      exact ⟨by rw [HN.out]; rfl, HB.out⟩
                  · have HN : Hid (R = 0) := hide (by
                      have h0 := HAll.out
                      rw [List.take_of_length_le (by rw [HL.out]; omega)] at h0
                      rw [HF.out, HX.out, h0]; rfl)
                    go_wp2
                    go_ret
                    exact ⟨by rw [HN.out]; rfl, HB.out⟩
              · have h16I : (16 : Int) < sn := by omega
                have HN : Hid (R = 64) := hide (by rw [HF.out, stkB_deep HL.out (by omega)]; rfl)
                go_wp2
                go_ret
                exact ⟨by rw [HN.out]; rfl, HB.out⟩
        · cases d1
          · go_enter Tryd.func20, Tryd.ntmps20
            go_wp2_with fail
            refine HA.out.mono ?_
            rintro e w' ⟨rfl, hw⟩
            rw [← HW.out] at hw
            subst hw
            go_wp2
            go_ret
            exact ⟨by rw [HF.out]; rfl, HB.out⟩
          · cases d2
            · go_enter Tryd.func20, Tryd.ntmps20
              go_wp2_with fail
              refine HA.out.mono ?_
              rintro e w' ⟨rfl, hw⟩
              rw [← HW.out] at hw
              subst hw
              go_wp2
              go_ret
              exact ⟨by rw [HF.out]; rfl, HB.out⟩
            · go_enter Tryd.func20, Tryd.ntmps20
              go_wp2_with fail
              refine HA.out.mono ?_
              rintro e w' ⟨rfl, hw⟩
              rw [← HW.out] at hw
              subst hw
              go_wp2
              go_ret
              exact ⟨by rw [HF.out]; rfl, HB.out⟩
      · rw [e7, e8, es] at hF
        rw [es] at HSp
        have HF : Hid _ := hide hF
        clear hF
        cases z
        · cases d1
          · go_enter Tryd.func20, Tryd.ntmps20
            go_wp2_with fail
            refine HA.out.mono ?_
            rintro e w' ⟨rfl, hw⟩
            rw [← HW.out] at hw
            subst hw
            go_wp2_with fail
            refine HSp.out.mono ?_
            rintro e w' ⟨rfl, rfl⟩
            go_wp2
            go_ret
            exact ⟨by rw [HF.out]; rfl, HB.out⟩
          · cases d2
            · go_enter Tryd.func20, Tryd.ntmps20
              go_wp2_with fail
              refine HA.out.mono ?_
              rintro e w' ⟨rfl, hw⟩
              rw [← HW.out] at hw
              subst hw
              go_wp2_with fail
              refine HSp.out.mono ?_
              rintro e w' ⟨rfl, rfl⟩
              go_wp2
              go_ret
              exact ⟨by rw [HF.out]; rfl, HB.out⟩
            · go_enter Tryd.func20, Tryd.ntmps20
              go_wp2_with fail
              refine HA.out.mono ?_
              rintro e w' ⟨rfl, hw⟩
              rw [← HW.out] at hw
              subst hw
              go_wp2_with fail
              refine HSp.out.mono ?_
              rintro e w' ⟨rfl, rfl⟩
              by_cases h16 : sn ≤ 16
              · have h16I : (sn : Int) ≤ 16 := by omega
                have HX : Hid _ := hide (stkB_all HL.out h16)
                clear p0 p1 p2 p3
                go_wp2
                go_loopw [6] (fun i wr => ∃ j : Nat, j ≤ sn ∧ i = .int .i64 j ∧ wr = w' ∧ ((ls.take j).all fun s => decide (s.size ≤ 65536)) = true) (fun i _ => sn - (intOf i).toNat)
                case atStart => exact ⟨0, Nat.zero_le _, rfl, rfl, by simp⟩
                case round =>
                  obtain ⟨j, hj, rfl, rfl, hall⟩ := hrel
                  have HAll : Hid _ := hide hall
                  clear hall
                  by_cases hlt : j < sn
                  · obtain ⟨b1, o1, rfl, hc1⟩ := HS.out.at hlt
                    have hjI : (j : Int) < sn := by omega
                    have HT' : Hid _ := hide (@all_take_succ ls (fun s => decide (s.size ≤ 65536)) j (by rw [HL.out]; exact hlt) HAll.out)
                    have HF' : Hid _ := hide (@all_false ls (fun s => decide (s.size ≤ 65536)) j (by rw [HL.out]; exact hlt))
                    generalize ls.getD j ByteArray.empty = x at hc1 HT' HF'
                    by_cases hx : x.size ≤ 65536
                    · have hxI : (x.size : Int) ≤ 65536 := by omega
                      have HN : Hid _ := hide (HT'.out (decide_eq_true hx))
                      clear hx
                      go_wp2
                      exact ⟨⟨j + 1, by omega, by go_num, by trivial, HN.out⟩, by simp [intOf]; omega⟩
                    · have hxI : (65536 : Int) < (x.size : Int) := by omega
                      have HN : Hid (R = 64) := hide (by rw [HF.out, HX.out, HF'.out (decide_eq_false hx)]; rfl)
                      clear hx
                      go_wp2
                      go_ret
                      exact ⟨by rw [HN.out]; rfl, HB.out⟩
                  · have HN : Hid (R = 0) := hide (by
                      have h0 := HAll.out
                      rw [List.take_of_length_le (by rw [HL.out]; omega)] at h0
                      rw [HF.out, HX.out, h0]; rfl)
                    go_wp2
                    go_ret
                    exact ⟨by rw [HN.out]; rfl, HB.out⟩
              · have h16I : (16 : Int) < sn := by omega
                have HN : Hid (R = 64) := hide (by rw [HF.out, stkB_deep HL.out (by omega)]; rfl)
                go_wp2
                go_ret
                exact ⟨by rw [HN.out]; rfl, HB.out⟩
        · cases d1
          · go_enter Tryd.func20, Tryd.ntmps20
            go_wp2_with fail
            refine HA.out.mono ?_
            rintro e w' ⟨rfl, hw⟩
            rw [← HW.out] at hw
            subst hw
            go_wp2
            go_ret
            exact ⟨by rw [HF.out]; rfl, HB.out⟩
          · cases d2
            · go_enter Tryd.func20, Tryd.ntmps20
              go_wp2_with fail
              refine HA.out.mono ?_
              rintro e w' ⟨rfl, hw⟩
              rw [← HW.out] at hw
              subst hw
              go_wp2
              go_ret
              exact ⟨by rw [HF.out]; rfl, HB.out⟩
            · go_enter Tryd.func20, Tryd.ntmps20
              go_wp2_with fail
              refine HA.out.mono ?_
              rintro e w' ⟨rfl, hw⟩
              rw [← HW.out] at hw
              subst hw
              go_wp2
              go_ret
              exact ⟨by rw [HF.out]; rfl, HB.out⟩
      · rw [e7, e8, es] at hF
        rw [es] at HSp
        have HF : Hid _ := hide hF
        clear hF
        cases z <;> (
          cases d1
          · go_enter Tryd.func20, Tryd.ntmps20
            go_wp2_with fail
            refine HA.out.mono ?_
            rintro e w' ⟨rfl, hw⟩
            rw [← HW.out] at hw
            subst hw
            go_wp2_with fail
            refine HSp.out.mono ?_
            rintro e w' ⟨rfl, rfl⟩
            go_wp2
            go_ret
            exact ⟨by rw [HF.out]; rfl, HB.out⟩
          · cases d2
            · go_enter Tryd.func20, Tryd.ntmps20
              go_wp2_with fail
              refine HA.out.mono ?_
              rintro e w' ⟨rfl, hw⟩
              rw [← HW.out] at hw
              subst hw
              go_wp2_with fail
              refine HSp.out.mono ?_
              rintro e w' ⟨rfl, rfl⟩
              go_wp2
              go_ret
              exact ⟨by rw [HF.out]; rfl, HB.out⟩
            · go_enter Tryd.func20, Tryd.ntmps20
              go_wp2_with fail
              refine HA.out.mono ?_
              rintro e w' ⟨rfl, hw⟩
              rw [← HW.out] at hw
              subst hw
              go_wp2_with fail
              refine HSp.out.mono ?_
              rintro e w' ⟨rfl, rfl⟩
              by_cases h16 : sn ≤ 16
              · have h16I : (sn : Int) ≤ 16 := by omega
                have HX : Hid _ := hide (stkB_all HL.out h16)
                clear p0 p1 p2 p3
                go_wp2
                go_loopw [6] (fun i wr => ∃ j : Nat, j ≤ sn ∧ i = .int .i64 j ∧ wr = w' ∧ ((ls.take j).all fun s => decide (s.size ≤ 65536)) = true) (fun i _ => sn - (intOf i).toNat)
                case atStart => exact ⟨0, Nat.zero_le _, rfl, rfl, by simp⟩
                case round =>
                  obtain ⟨j, hj, rfl, rfl, hall⟩ := hrel
                  have HAll : Hid _ := hide hall
                  clear hall
                  by_cases hlt : j < sn
                  · obtain ⟨b1, o1, rfl, hc1⟩ := HS.out.at hlt
                    have hjI : (j : Int) < sn := by omega
                    have HT' : Hid _ := hide (@all_take_succ ls (fun s => decide (s.size ≤ 65536)) j (by rw [HL.out]; exact hlt) HAll.out)
                    have HF' : Hid _ := hide (@all_false ls (fun s => decide (s.size ≤ 65536)) j (by rw [HL.out]; exact hlt))
                    generalize ls.getD j ByteArray.empty = x at hc1 HT' HF'
                    by_cases hx : x.size ≤ 65536
                    · have hxI : (x.size : Int) ≤ 65536 := by omega
                      have HN : Hid _ := hide (HT'.out (decide_eq_true hx))
                      clear hx
                      go_wp2
                      exact ⟨⟨j + 1, by omega, by go_num, by trivial, HN.out⟩, by simp [intOf]; omega⟩
                    · have hxI : (65536 : Int) < (x.size : Int) := by omega
                      have HN : Hid (R = 64) := hide (by rw [HF.out, HX.out, HF'.out (decide_eq_false hx)]; rfl)
                      clear hx
                      go_wp2
                      go_ret
                      exact ⟨by rw [HN.out]; rfl, HB.out⟩
                  · have HN : Hid (R = 0) := hide (by
                      have h0 := HAll.out
                      rw [List.take_of_length_le (by rw [HL.out]; omega)] at h0
                      rw [HF.out, HX.out, h0]; rfl)
                    go_wp2
                    go_ret
                    exact ⟨by rw [HN.out]; rfl, HB.out⟩
              · have h16I : (16 : Int) < sn := by omega
                have HN : Hid (R = 64) := hide (by rw [HF.out, stkB_deep HL.out (by omega)]; rfl)
                go_wp2
                go_ret
                exact ⟨by rw [HN.out]; rfl, HB.out⟩)
      · rw [e7, e8, es] at hF
        rw [es] at HSp
        have HF : Hid _ := hide hF
        clear hF
        cases z <;> (
          cases d1
          · go_enter Tryd.func20, Tryd.ntmps20
            go_wp2_with fail
            refine HA.out.mono ?_
            rintro e w' ⟨rfl, hw⟩
            rw [← HW.out] at hw
            subst hw
            go_wp2_with fail
            refine HSp.out.mono ?_
            rintro e w' ⟨rfl, rfl⟩
            go_wp2
            go_ret
            exact ⟨by rw [HF.out]; rfl, HB.out⟩
          · cases d2
            · go_enter Tryd.func20, Tryd.ntmps20
              go_wp2_with fail
              refine HA.out.mono ?_
              rintro e w' ⟨rfl, hw⟩
              rw [← HW.out] at hw
              subst hw
              go_wp2_with fail
              refine HSp.out.mono ?_
              rintro e w' ⟨rfl, rfl⟩
              go_wp2
              go_ret
              exact ⟨by rw [HF.out]; rfl, HB.out⟩
            · go_enter Tryd.func20, Tryd.ntmps20
              go_wp2_with fail
              refine HA.out.mono ?_
              rintro e w' ⟨rfl, hw⟩
              rw [← HW.out] at hw
              subst hw
              go_wp2_with fail
              refine HSp.out.mono ?_
              rintro e w' ⟨rfl, rfl⟩
              go_wp2_with fail
              refine HOv.out.mono ?_
              rintro e w2 ⟨rfl, hb2⟩
              have HB2 : Hid _ := hide (HB.out.trans (hb2.mono HB.out.size))
              have HS2 : Hid _ := hide (HS.out.bel hb2)
              have HE2 : Hid _ := hide (HE.out.below hb2)
              clear p0 p1 p2 p3 p4
              have p0 := HE2.out.c0
              have p1 := HE2.out.c1
              have p2 := HE2.out.c2
              have p3 := HE2.out.c3
              have p4 := HE2.out.c4
              clear hb2
              cases hov : overB o a
              · rw [hov] at HF
                by_cases h16 : sn ≤ 16
                · have h16I : (sn : Int) ≤ 16 := by omega
                  have HX : Hid _ := hide (stkB_all HL.out h16)
                  clear p0 p1 p2 p3
                  go_wp2
                  go_loopw [6] (fun i wr => ∃ j : Nat, j ≤ sn ∧ i = .int .i64 j ∧ wr = w2 ∧ ((ls.take j).all fun s => decide (s.size ≤ 65536)) = true) (fun i _ => sn - (intOf i).toNat)
                  case atStart => exact ⟨0, Nat.zero_le _, rfl, rfl, by simp⟩
                  case round =>
                    obtain ⟨j, hj, rfl, rfl, hall⟩ := hrel
                    have HAll : Hid _ := hide hall
                    clear hall
                    by_cases hlt : j < sn
                    · obtain ⟨b1, o1, rfl, hc1⟩ := HS2.out.at hlt
                      have hjI : (j : Int) < sn := by omega
                      have HT' : Hid _ := hide (@all_take_succ ls (fun s => decide (s.size ≤ 65536)) j (by rw [HL.out]; exact hlt) HAll.out)
                      have HF' : Hid _ := hide (@all_false ls (fun s => decide (s.size ≤ 65536)) j (by rw [HL.out]; exact hlt))
                      generalize ls.getD j ByteArray.empty = x at hc1 HT' HF'
                      by_cases hx : x.size ≤ 65536
                      · have hxI : (x.size : Int) ≤ 65536 := by omega
                        have HN : Hid _ := hide (HT'.out (decide_eq_true hx))
                        clear hx
                        go_wp2
                        exact ⟨⟨j + 1, by omega, by go_num, by trivial, HN.out⟩, by simp [intOf]; omega⟩
                      · have hxI : (65536 : Int) < (x.size : Int) := by omega
                        have HN : Hid (R = 64) := hide (by rw [HF.out, HX.out, HF'.out (decide_eq_false hx)]; rfl)
                        clear hx
                        go_wp2
                        go_ret
                        exact ⟨by rw [HN.out]; rfl, HB2.out⟩
                    · have HN : Hid (R = 0) := hide (by
                        have h0 := HAll.out
                        rw [List.take_of_length_le (by rw [HL.out]; omega)] at h0
                        rw [HF.out, HX.out, h0]; rfl)
                      go_wp2
                      go_ret
                      exact ⟨by rw [HN.out]; rfl, HB2.out⟩
                · have h16I : (16 : Int) < sn := by omega
                  have HN : Hid (R = 64) := hide (by rw [HF.out, stkB_deep HL.out (by omega)]; rfl)
                  go_wp2
                  go_ret
                  exact ⟨by rw [HN.out]; rfl, HB2.out⟩
              · rw [hov] at HF
                go_wp2
                go_ret
                exact ⟨by rw [HF.out]; rfl, HB2.out⟩)
  · have HN : Hid (R = 60) := hide (by rw [hR]; unfold chk; rw [if_neg hk])
    clear hR
    by_cases k1 : k < 1
    · clear hk
      go_enter Tryd.func20, Tryd.ntmps20
      go_wp2
      go_ret
      exact ⟨by rw [HN.out]; rfl, by rw [← HW.out]; exact HB.out⟩
    · have k1' : decide (k < 1) = false := by simp; omega
      have k2 : decide (22 < k) = true := by simp; omega
      clear hk
      go_enter Tryd.func20, Tryd.ntmps20
      go_wp2
      go_ret
      exact ⟨by rw [HN.out]; rfl, by rw [← HW.out]; exact HB.out⟩
end Go.Proofs.YtpnacioliccglaaDoor.E6
/-
  Lists of events.
-/
namespace Go.Proofs.YtpnacioliccglaaDoor.E6
open Go.RowKit Go.Maps Go.Shelf
structure Ev where
  g : Int
  k : Int
  o : Int
  a : Int
  sa : Option Addr
  sc : Nat
  ls : List ByteArray
/-- What an event that came in keeps to. -/
structure Ev.ok (e : Ev) : Prop where
  ho : 0 ≤ e.o ∧ e.o ≤ 18446744073709551615
  ha : 0 ≤ e.a ∧ e.a ≤ 18446744073709551615
  len : e.ls.length ≤ 8796093021952
  sz : ∀ s ∈ e.ls, s.size ≤ maxLen
  cap : e.ls.length ≤ e.sc
  nil : e.sa = none → e.ls.length = 0 ∧ e.sc = 0
/-- The same but where its stack lies. -/
def Ev.twin (e f : Ev) : Prop := f.g = e.g ∧ f.k = e.k ∧ f.o = e.o ∧ f.a = e.a ∧ f.ls = e.ls
/-- The event's stack lies in memory. -/
def Ev.at (w : World) (e : Ev) : Prop := SRow w e.sa e.ls.length e.ls
structure ERow (w : World) (a : Option Addr) (n : Nat) (es : List Ev) : Prop where
  len : es.length = n
  cells : n = 0 ∨ ∃ b off, a = some ⟨b, off, none⟩ ∧ ∀ i e, es[i]? = some e → w.cell? ⟨b, off + i * 5, none⟩ = some (.int .i64 e.g) ∧ w.cell? ⟨b, off + i * 5 + 1, none⟩ = some (.int .i64 e.k) ∧ w.cell? ⟨b, off + i * 5 + 2, none⟩ = some (.int .u64 e.o) ∧ w.cell? ⟨b, off + i * 5 + 3, none⟩ = some (.int .u64 e.a) ∧ w.cell? ⟨b, off + i * 5 + 4, none⟩ = some (.slice e.sa e.ls.length e.sc) ∧ e.at w
theorem ERow.at {w : World} {a : Option Addr} {n : Nat} {es : List Ev} (h : ERow w a n es) {i : Nat} (hi : i < n) : ∃ b off e, a = some ⟨b, off, none⟩ ∧ es[i]? = some e ∧ w.cell? ⟨b, off + i * 5, none⟩ = some (.int .i64 e.g) ∧ w.cell? ⟨b, off + i * 5 + 1, none⟩ = some (.int .i64 e.k) ∧ w.cell? ⟨b, off + i * 5 + 2, none⟩ = some (.int .u64 e.o) ∧ w.cell? ⟨b, off + i * 5 + 3, none⟩ = some (.int .u64 e.a) ∧ w.cell? ⟨b, off + i * 5 + 4, none⟩ = some (.slice e.sa e.ls.length e.sc) ∧ e.at w := by
  rcases h.cells with h0 | ⟨b, off, e, hc⟩
  · omega
  · have hl : i < es.length := by rw [h.len]; exact hi
    exact ⟨b, off, es[i], e, List.getElem?_eq_getElem hl, hc i _ (List.getElem?_eq_getElem hl)⟩
theorem cell_bel {w w' : World} {p : Addr} {v : Value} (hc : w.cell? p = some v) (hb : Below w.heap.size w w') : w'.cell? p = some v :=
  (hb.cell (World.block_lt_of_cell? w _ hc)).trans hc
theorem ERow.bel {w w' : World} {a : Option Addr} {n : Nat} {es : List Ev} (h : ERow w a n es) (hb : Below w.heap.size w w') : ERow w' a n es :=
  ⟨h.len, h.cells.imp id fun ⟨b, off, e, hc⟩ => ⟨b, off, e, fun i f hf => by
    obtain ⟨c0, c1, c2, c3, c4, hs⟩ := hc i f hf
    exact ⟨cell_bel c0 hb, cell_bel c1 hb, cell_bel c2 hb, cell_bel c3 hb, cell_bel c4 hb, SRow.bel hs hb⟩⟩⟩
/-- The cells of events. -/
def ecell (e : Ev) : List Value := [.int .i64 e.g, .int .i64 e.k, .int .u64 e.o, .int .u64 e.a, .slice e.sa e.ls.length e.sc]
def ecells : List Ev → List Value
  | [] => []
  | e :: l => ecell e ++ ecells l
theorem ecells_snoc (l : List Ev) (e : Ev) : ecells (l ++ [e]) = ecells l ++ ecell e := by
  induction l with
  | nil => simp [ecells]
  | cons x l ih => simp [ecells, ih]
theorem Tryd.infoEvent : (Tryd.prog.info? 25).map (fun i => (i.zero, i.size, i.bytes)) = some (some (.agg #[.int .i64 0, .int .i64 0, .int .u64 0, .int .u64 0, .slice none 0 0]), 5, 56) := by kernel_rfl
theorem srow_cells {w : World} {ad : Addr} {m : Nat} {L : List ByteArray} (h : SRow w (some ad) m L) : ∀ j u, (L.map Value.string)[j]? = some u → w.cell? (ad.add j) = some u := by
  intro j u hj
  have hlt : j < L.length := by have := (List.getElem?_eq_some_iff.1 hj).1; simpa using this
  obtain ⟨b, off, e, hc⟩ := h.at (i := j) (by rw [← h.len]; exact hlt)
  cases e
  have ha : (⟨b, off, none⟩ : Addr).add j = ⟨b, off + j, none⟩ := by unfold Addr.add; split <;> simp_all
  rw [ha, hc]
  rw [List.getElem?_map, getD_get hlt] at hj
  simpa using hj
/-- 'append(nil, l...)' in a region that draws. -/
theorem step_strs {ops : Array Oper} {o : Oper} {a : Act} {w : World} {K : Act → World → Prop} {Q : Exit → Act → World → Prop} {E : Prop}
    (hg : o.guard = none) (s x : Operand) (hop : o.op = Op.call { callee := Callee.builtin Builtin.append, args := #[s, x], argTypes := #[23, 23] })
    (hs : a.eval s = .slice none 0 0) (ra : Option Addr) (m c : Nat) (zs : List ByteArray) (hx : a.eval x = .slice ra m c) (hr : SRow w ra m zs) (h0 : ra = none → m = 0 ∧ c = 0) (hm : m * 16 ≤ 140737488355328)
    (h : ∀ (a' : Option Addr) (c' : Nat) w', w'.ownsRow w.heap.size 9 1 (.slice a' m c') m (zs.map Value.string) → w.grownBy w' none → K (a.put o.dst (.slice a' m c')) w') :
    if Region.wanted o (yielded ops a.tmps) = true then Oper.wp Tryd.prog o a w K Q else E := by
  have hw : Region.wanted o (yielded ops a.tmps) = true := by simp [Region.wanted, hg]
  rw [if_pos hw]
  obtain ⟨i0, hi, hz0, hz1, hz2⟩ := info_parts Tryd.info9
  have hown := World.ownsRow_nil w w.heap.size 9 1
  cases ra with
  | none =>
    obtain ⟨rfl, rfl⟩ := h0 rfl
    have e1 := List.length_eq_zero_iff.1 hr.len
    subst e1
    have hr := run_append_owned_none (P := Tryd.prog) (w := w) w.heap.size 23 o.type 9 i0 1 Tryd.underlying23 hi (.slice none 0 0) 0 [] hown
    unfold Oper.wp execOp
    simp only [hop, resolve, invoke, builtin, Sem.run_bind, Sem.run_pure, Result.andThen_ok, List.map_toArray, List.map_cons, List.map_nil, hs, hx, hr]
    exact h none 0 w (World.ownsRow_nil _ _ _ _) (World.grownBy.refl w _)
  | some ad =>
    obtain ⟨v', w', hrun, h2, h3, _, h5⟩ := run_append_own_at (P := Tryd.prog) w w.heap.size 23 o.type 9 i0 _ 1 16 Tryd.underlying23 hi hz0 hz1 hz2 rfl (by decide) (.slice none 0 0) 0 [] hown ad m c (zs.map Value.string) (by have := hr.len; simpa using this) (srow_cells hr) (by intro u hu; obtain ⟨y, _, rfl⟩ := List.mem_map.1 hu; rfl) (by unfold maxLen; omega) (by omega) (Nat.le_refl _)
    rw [Nat.zero_add] at h2
    obtain ⟨a', c', rfl⟩ := own_form h2
    unfold Oper.wp execOp
    simp only [hop, resolve, invoke, builtin, Sem.run_bind, Sem.run_pure, Result.andThen_ok, List.map_toArray, List.map_cons, List.map_nil, hs, hx, hrun]
    exact h a' c' w' (by simpa using h2) h3
end Go.Proofs.YtpnacioliccglaaDoor.E6
