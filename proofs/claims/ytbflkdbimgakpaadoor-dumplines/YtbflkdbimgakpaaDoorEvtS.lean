/-
  The document's Check.
-/
import Derived.Test.YtbflkdbimgakpaaDoorEvtR
namespace Go.Proofs.YtbflkdbimgakpaaDoor.E6
open Go.RowKit Go.Maps Go.Shelf
theorem stkB_deep {ls : List ByteArray} {n : Nat} (hl : ls.length = n) (h : 16 < n) : stkB ls = false := by
  unfold stkB; rw [decide_eq_false (by omega)]; rfl
theorem stkB_all {ls : List ByteArray} {n : Nat} (hl : ls.length = n) (h : n ≤ 16) : stkB ls = ls.all fun s => decide (s.size ≤ 65536) := by
  unfold stkB; rw [decide_eq_true (by omega)]; rfl
theorem classes (k : Int) : ((k == 7) = true ∧ (k == 8) = false ∧ spanB k = false) ∨ ((k == 7) = false ∧ (k == 8) = true ∧ spanB k = false) ∨ ((k == 7) = false ∧ (k == 8) = false ∧ spanB k = false) ∨ ((k == 7) = false ∧ (k == 8) = false ∧ spanB k = true) := by
  by_cases h7 : k = 7
  · subst h7; exact .inl ⟨rfl, rfl, rfl⟩
  · by_cases h8 : k = 8
    · subst h8; exact .inr (.inl ⟨rfl, rfl, rfl⟩)
    · have e7 : (k == 7) = false := by rw [beq_eq_false_iff_ne]; exact h7
      have e8 : (k == 8) = false := by rw [beq_eq_false_iff_ne]; exact h8
      cases hs : spanB k
      · exact .inr (.inr (.inl ⟨e7, e8, rfl⟩))
      · exact .inr (.inr (.inr ⟨e7, e8, rfl⟩))
set_option maxRecDepth 4000 in
set_option maxHeartbeats 8000000 in
theorem rcheck_any (g k o a : Int) (sa : Option Addr) (sn sc : Nat) (ls : List ByteArray) (w : World) (hr : SRow w sa sn ls) (hn : (sn : Int) ≤ 9223372036854775806) (ho : 0 ≤ o ∧ o ≤ 18446744073709551615) (ha : 0 ≤ a ∧ a ≤ 18446744073709551615) :
    Calls Tryd.prog 20 #[.agg #[.int .i64 g, .int .i64 k, .int .u64 o, .int .u64 a, .slice sa sn sc]] w fun e w' => e = .returned (.int .i64 (chk g k o a ls)) ∧ Below w.heap.size w w' := by
  obtain ⟨R, hR⟩ : ∃ R, R = chk g k o a ls := ⟨_, rfl⟩
  rw [← hR]
  obtain ⟨W1, hW1⟩ : ∃ W1, W1 = w.alloc (.cells #[.int .i64 g, .int .i64 k, .int .u64 o, .int .u64 a, .slice sa sn sc] 25) := ⟨_, rfl⟩
  have hb1 : Below w.heap.size w W1 := by rw [hW1]; exact below_new w _
  have hs1 := hr.bel hb1
  have he1 : EvB W1 w.heap.size g k o a sa sn sc := by rw [hW1]; exact EvB.new
  have HL : Hid (ls.length = sn) := hr.len
  have HB : Hid _ := hide hb1
  have HS : Hid _ := hide hs1
  have HE : Hid _ := hide he1
  have HW : Hid _ := hide hW1
  clear hb1 hs1 he1 hr hW1
  by_cases hk : 1 ≤ k ∧ k ≤ 22
  · have k1 : decide (k < 1) = false := by simp; omega
    have k2 : decide (22 < k) = false := by simp; omega
    by_cases hg : g < 0 ∨ 65536 ≤ g
    · have HN : Hid (R = 61) := hide (by rw [hR]; unfold chk; rw [if_pos hk, if_pos hg])
      clear hR hk
      rcases hg with hg | hg
      · go_enter Tryd.func20, Tryd.ntmps20
        go_wp2
        go_ret
        exact ⟨by rw [HN.out]; rfl, by rw [← HW.out]; exact HB.out⟩
      · have g1 : decide (g < 0) = false := by simp; omega
        go_enter Tryd.func20, Tryd.ntmps20
        go_wp2
        go_ret
        exact ⟨by rw [HN.out]; rfl, by rw [← HW.out]; exact HB.out⟩
    · have g1 : decide (g < 0) = false := by simp; omega
      have g2 : decide (65536 ≤ g) = false := by simp; omega
      have hF := chk_flags (o := o) (a := a) (ls := ls) hk hg
      rw [← hR] at hF
      have HA : Hid _ := hide (rargs_any k (w.alloc (.cells #[.int .i64 g, .int .i64 k, .int .u64 o, .int .u64 a, .slice sa sn sc] 25)) hk)
      have HSp : Hid _ := hide (rspans_any k W1)
      have HOv : Hid _ := hide (rover_any g k o a sa sn sc W1 ho ha)
      have p0 := HE.out.c0
      have p1 := HE.out.c1
      have p2 := HE.out.c2
      have p3 := HE.out.c3
      have p4 := HE.out.c4
      have hfit : argB k.toNat a = (decide (rlo (ksort k.toNat) ≤ a) && decide (a ≤ rhi (ksort k.toNat))) := by unfold argB lo hi; rw [Bool.eq_iff_iff]; simp
      rw [hfit] at hF
      generalize rlo (ksort k.toNat) = l at HA hF
      generalize rhi (ksort k.toNat) = m at HA hF
      clear hR hk hg hfit ho ha
      obtain ⟨d1, e1⟩ : ∃ d, decide (l ≤ a) = d := ⟨_, rfl⟩
      obtain ⟨d2, e2⟩ : ∃ d, decide (a ≤ m) = d := ⟨_, rfl⟩
      obtain ⟨z, ez⟩ : ∃ z, (o != 0) = z := ⟨_, rfl⟩
      rw [e1, e2, ez] at hF
      rcases classes k with ⟨e7, e8, es⟩ | ⟨e7, e8, es⟩ | ⟨e7, e8, es⟩ | ⟨e7, e8, es⟩
      · rw [e7, e8, es] at hF
        rw [es] at HSp
        have HF : Hid _ := hide hF
        clear hF
        cases z
        · cases d1
          · go_enter Tryd.func20, Tryd.ntmps20
            go_wp2_with fail
            refine HA.out.mono ?_
            rintro e w' ⟨rfl, hw⟩
            rw [← HW.out] at hw
            subst hw
            go_wp2_with fail
            refine HSp.out.mono ?_
            rintro e w' ⟨rfl, rfl⟩
            go_wp2
            go_ret
            exact ⟨by rw [HF.out]; rfl, HB.out⟩
          · cases d2
            · go_enter Tryd.func20, Tryd.ntmps20
              go_wp2_with fail
              refine HA.out.mono ?_
              rintro e w' ⟨rfl, hw⟩
              rw [← HW.out] at hw
              subst hw
              go_wp2_with fail
              refine HSp.out.mono ?_
              rintro e w' ⟨rfl, rfl⟩
              go_wp2
              go_ret
              exact ⟨by rw [HF.out]; rfl, HB.out⟩
            · go_enter Tryd.func20, Tryd.ntmps20
              go_wp2_with fail
              refine HA.out.mono ?_
              rintro e w' ⟨rfl, hw⟩
              rw [← HW.out] at hw
              subst hw
              go_wp2_with fail
              refine HSp.out.mono ?_
              rintro e w' ⟨rfl, rfl⟩
              by_cases h16 : sn ≤ 16
              · have h16I : (sn : Int) ≤ 16 := by omega
                have HX : Hid _ := hide (stkB_all HL.out h16)
                clear p0 p1 p2 p3
                go_wp2
                go_loopw [6] (fun i wr => ∃ j : Nat, j ≤ sn ∧ i = .int .i64 j ∧ wr = w' ∧ ((ls.take j).all fun s => decide (s.size ≤ 65536)) = true) (fun i _ => sn - (intOf i).toNat)
                case atStart => exact ⟨0, Nat.zero_le _, rfl, rfl, by simp⟩
                case round =>
                  obtain ⟨j, hj, rfl, rfl, hall⟩ := hrel
                  have HAll : Hid _ := hide hall
                  clear hall
                  by_cases hlt : j < sn
                  · obtain ⟨b1, o1, rfl, hc1⟩ := HS.out.at hlt
                    have hjI : (j : Int) < sn := by omega
                    have HT' : Hid _ := hide (@all_take_succ ls (fun s => decide (s.size ≤ 65536)) j (by rw [HL.out]; exact hlt) HAll.out)
                    have HF' : Hid _ := hide (@all_false ls (fun s => decide (s.size ≤ 65536)) j (by rw [HL.out]; exact hlt))
                    generalize ls.getD j ByteArray.empty = x at hc1 HT' HF'
                    by_cases hx : x.size ≤ 65536
                    · have hxI : (x.size : Int) ≤ 65536 := by omega
                      have HN : Hid _ := hide (HT'.out (decide_eq_true hx))
                      clear hx
                      go_wp2
                      exact ⟨⟨j + 1, by omega, by go_num, by trivial, HN.out⟩, by simp [intOf]; omega⟩
                    · have hxI : (65536 : Int) < (x.size : Int) := by omega
                      have HN : Hid (R = 64) := hide (by rw [HF.out, HX.out, HF'.out (decide_eq_false hx)]; rfl)
                      clear hx
                      go_wp2
                      go_ret
                      exact ⟨by rw [HN.out]; rfl, HB.out⟩
                  · have HN : Hid (R = 0) := hide (by
                      have h0 := HAll.out
                      rw [List.take_of_length_le (by rw [HL.out]; omega)] at h0
                      rw [HF.out, HX.out, h0]; rfl)
                    go_wp2
                    go_ret
                    exact ⟨by rw [HN.out]; rfl, HB.out⟩
              · have h16I : (16 : Int) < sn := by omega
                have HN : Hid (R = 64) := hide (by rw [HF.out, stkB_deep HL.out (by omega)]; rfl)
                go_wp2
                go_ret
                exact ⟨by rw [HN.out]; rfl, HB.out⟩
        · cases d1
          · go_enter Tryd.func20, Tryd.ntmps20
            go_wp2_with fail
            refine HA.out.mono ?_
            rintro e w' ⟨rfl, hw⟩
            rw [← HW.out] at hw
            subst hw
            go_wp2
            go_ret
            exact ⟨by rw [HF.out]; rfl, HB.out⟩
          · cases d2
            · go_enter Tryd.func20, Tryd.ntmps20
              go_wp2_with fail
              refine HA.out.mono ?_
              rintro e w' ⟨rfl, hw⟩
              rw [← HW.out] at hw
              subst hw
              go_wp2
              go_ret
              exact ⟨by rw [HF.out]; rfl, HB.out⟩
            · go_enter Tryd.func20, Tryd.ntmps20
              go_wp2_with fail
              refine HA.out.mono ?_
              rintro e w' ⟨rfl, hw⟩
              rw [← HW.out] at hw
              subst hw
              go_wp2
              go_ret
              exact ⟨by rw [HF.out]; rfl, HB.out⟩
      · rw [e7, e8, es] at hF
        rw [es] at HSp
        have HF : Hid _ := hide hF
        clear hF
        cases z
        · cases d1
          · go_enter Tryd.func20, Tryd.ntmps20
            go_wp2_with fail
            refine HA.out.mono ?_
            rintro e w' ⟨rfl, hw⟩
            rw [← HW.out] at hw
            subst hw
            go_wp2_with fail
            refine HSp.out.mono ?_
            rintro e w' ⟨rfl, rfl⟩
            go_wp2
            go_ret
            exact ⟨by rw [HF.out]; rfl, HB.out⟩
          · cases d2
            · go_enter Tryd.func20, Tryd.ntmps20
              go_wp2_with fail
              refine HA.out.mono ?_
              rintro e w' ⟨rfl, hw⟩
              rw [← HW.out] at hw
              subst hw
              go_wp2_with fail
              refine HSp.out.mono ?_
              rintro e w' ⟨rfl, rfl⟩
              go_wp2
              go_ret
              exact ⟨by rw [HF.out]; rfl, HB.out⟩
            · go_enter Tryd.func20, Tryd.ntmps20
              go_wp2_with fail
              refine HA.out.mono ?_
              rintro e w' ⟨rfl, hw⟩
              rw [← HW.out] at hw
              subst hw
              go_wp2_with fail
              refine HSp.out.mono ?_
              rintro e w' ⟨rfl, rfl⟩
              by_cases h16 : sn ≤ 16
              · have h16I : (sn : Int) ≤ 16 := by omega
                have HX : Hid _ := hide (stkB_all HL.out h16)
                clear p0 p1 p2 p3
                go_wp2
                go_loopw [6] (fun i wr => ∃ j : Nat, j ≤ sn ∧ i = .int .i64 j ∧ wr = w' ∧ ((ls.take j).all fun s => decide (s.size ≤ 65536)) = true) (fun i _ => sn - (intOf i).toNat)
                case atStart => exact ⟨0, Nat.zero_le _, rfl, rfl, by simp⟩
                case round =>
                  obtain ⟨j, hj, rfl, rfl, hall⟩ := hrel
                  have HAll : Hid _ := hide hall
                  clear hall
                  by_cases hlt : j < sn
                  · obtain ⟨b1, o1, rfl, hc1⟩ := HS.out.at hlt
                    have hjI : (j : Int) < sn := by omega
                    have HT' : Hid _ := hide (@all_take_succ ls (fun s => decide (s.size ≤ 65536)) j (by rw [HL.out]; exact hlt) HAll.out)
                    have HF' : Hid _ := hide (@all_false ls (fun s => decide (s.size ≤ 65536)) j (by rw [HL.out]; exact hlt))
                    generalize ls.getD j ByteArray.empty = x at hc1 HT' HF'
                    by_cases hx : x.size ≤ 65536
                    · have hxI : (x.size : Int) ≤ 65536 := by omega
                      have HN : Hid _ := hide (HT'.out (decide_eq_true hx))
                      clear hx
                      go_wp2
                      exact ⟨⟨j + 1, by omega, by go_num, by trivial, HN.out⟩, by simp [intOf]; omega⟩
                    · have hxI : (65536 : Int) < (x.size : Int) := by omega
                      have HN : Hid (R = 64) := hide (by rw [HF.out, HX.out, HF'.out (decide_eq_false hx)]; rfl)
                      clear hx
                      go_wp2
                      go_ret
                      exact ⟨by rw [HN.out]; rfl, HB.out⟩
                  · have HN : Hid (R = 0) := hide (by
                      have h0 := HAll.out
                      rw [List.take_of_length_le (by rw [HL.out]; omega)] at h0
                      rw [HF.out, HX.out, h0]; rfl)
                    go_wp2
                    go_ret
                    exact ⟨by rw [HN.out]; rfl, HB.out⟩
              · have h16I : (16 : Int) < sn := by omega
                have HN : Hid (R = 64) := hide (by rw [HF.out, stkB_deep HL.out (by omega)]; rfl)
                go_wp2
                go_ret
                exact ⟨by rw [HN.out]; rfl, HB.out⟩
        · cases d1
          · go_enter Tryd.func20, Tryd.ntmps20
            go_wp2_with fail
            refine HA.out.mono ?_
            rintro e w' ⟨rfl, hw⟩
            rw [← HW.out] at hw
            subst hw
            go_wp2
            go_ret
            exact ⟨by rw [HF.out]; rfl, HB.out⟩
          · cases d2
            · go_enter Tryd.func20, Tryd.ntmps20
              go_wp2_with fail
              refine HA.out.mono ?_
              rintro e w' ⟨rfl, hw⟩
              rw [← HW.out] at hw
              subst hw
              go_wp2
              go_ret
              exact ⟨by rw [HF.out]; rfl, HB.out⟩
            · go_enter Tryd.func20, Tryd.ntmps20
              go_wp2_with fail
              refine HA.out.mono ?_
              rintro e w' ⟨rfl, hw⟩
              rw [← HW.out] at hw
              subst hw
              go_wp2
              go_ret
              exact ⟨by rw [HF.out]; rfl, HB.out⟩
      · rw [e7, e8, es] at hF
        rw [es] at HSp
        have HF : Hid _ := hide hF
        clear hF
        cases z <;> (
          cases d1
          · go_enter Tryd.func20, Tryd.ntmps20
            go_wp2_with fail
            refine HA.out.mono ?_
            rintro e w' ⟨rfl, hw⟩
            rw [← HW.out] at hw
            subst hw
            go_wp2_with fail
            refine HSp.out.mono ?_
            rintro e w' ⟨rfl, rfl⟩
            go_wp2
            go_ret
            exact ⟨by rw [HF.out]; rfl, HB.out⟩
          · cases d2
            · go_enter Tryd.func20, Tryd.ntmps20
              go_wp2_with fail
              refine HA.out.mono ?_
              rintro e w' ⟨rfl, hw⟩
              rw [← HW.out] at hw
              subst hw
              go_wp2_with fail
              refine HSp.out.mono ?_
              rintro e w' ⟨rfl, rfl⟩
              go_wp2
              go_ret
              exact ⟨by rw [HF.out]; rfl, HB.out⟩
            · go_enter Tryd.func20, Tryd.ntmps20
              go_wp2_with fail
              refine HA.out.mono ?_
              rintro e w' ⟨rfl, hw⟩
              rw [← HW.out] at hw
              subst hw
              go_wp2_with fail
              refine HSp.out.mono ?_
              rintro e w' ⟨rfl, rfl⟩
              by_cases h16 : sn ≤ 16
              · have h16I : (sn : Int) ≤ 16 := by omega
                have HX : Hid _ := hide (stkB_all HL.out h16)
                clear p0 p1 p2 p3
                go_wp2
                go_loopw [6] (fun i wr => ∃ j : Nat, j ≤ sn ∧ i = .int .i64 j ∧ wr = w' ∧ ((ls.take j).all fun s => decide (s.size ≤ 65536)) = true) (fun i _ => sn - (intOf i).toNat)
                case atStart => exact ⟨0, Nat.zero_le _, rfl, rfl, by simp⟩
                case round =>
                  obtain ⟨j, hj, rfl, rfl, hall⟩ := hrel
                  have HAll : Hid _ := hide hall
                  clear hall
                  by_cases hlt : j < sn
                  · obtain ⟨b1, o1, rfl, hc1⟩ := HS.out.at hlt
                    have hjI : (j : Int) < sn := by omega
                    have HT' : Hid _ := hide (@all_take_succ ls (fun s => decide (s.size ≤ 65536)) j (by rw [HL.out]; exact hlt) HAll.out)
                    have HF' : Hid _ := hide (@all_false ls (fun s => decide (s.size ≤ 65536)) j (by rw [HL.out]; exact hlt))
                    generalize ls.getD j ByteArray.empty = x at hc1 HT' HF'
                    by_cases hx : x.size ≤ 65536
                    · have hxI : (x.size : Int) ≤ 65536 := by omega
                      have HN : Hid _ := hide (HT'.out (decide_eq_true hx))
                      clear hx
                      go_wp2
                      exact ⟨⟨j + 1, by omega, by go_num, by trivial, HN.out⟩, by simp [intOf]; omega⟩
                    · have hxI : (65536 : Int) < (x.size : Int) := by omega
                      have HN : Hid (R = 64) := hide (by rw [HF.out, HX.out, HF'.out (decide_eq_false hx)]; rfl)
                      clear hx
                      go_wp2
                      go_ret
                      exact ⟨by rw [HN.out]; rfl, HB.out⟩
                  · have HN : Hid (R = 0) := hide (by
                      have h0 := HAll.out
                      rw [List.take_of_length_le (by rw [HL.out]; omega)] at h0
                      rw [HF.out, HX.out, h0]; rfl)
                    go_wp2
                    go_ret
                    exact ⟨by rw [HN.out]; rfl, HB.out⟩
              · have h16I : (16 : Int) < sn := by omega
                have HN : Hid (R = 64) := hide (by rw [HF.out, stkB_deep HL.out (by omega)]; rfl)
                go_wp2
                go_ret
                exact ⟨by rw [HN.out]; rfl, HB.out⟩)
      · rw [e7, e8, es] at hF
        rw [es] at HSp
        have HF : Hid _ := hide hF
        clear hF
        cases z <;> (
          cases d1
          · go_enter Tryd.func20, Tryd.ntmps20
            go_wp2_with fail
            refine HA.out.mono ?_
            rintro e w' ⟨rfl, hw⟩
            rw [← HW.out] at hw
            subst hw
            go_wp2_with fail
            refine HSp.out.mono ?_
            rintro e w' ⟨rfl, rfl⟩
            go_wp2
            go_ret
            exact ⟨by rw [HF.out]; rfl, HB.out⟩
          · cases d2
            · go_enter Tryd.func20, Tryd.ntmps20
              go_wp2_with fail
              refine HA.out.mono ?_
              rintro e w' ⟨rfl, hw⟩
              rw [← HW.out] at hw
              subst hw
              go_wp2_with fail
              refine HSp.out.mono ?_
              rintro e w' ⟨rfl, rfl⟩
              go_wp2
              go_ret
              exact ⟨by rw [HF.out]; rfl, HB.out⟩
            · go_enter Tryd.func20, Tryd.ntmps20
              go_wp2_with fail
              refine HA.out.mono ?_
              rintro e w' ⟨rfl, hw⟩
              rw [← HW.out] at hw
              subst hw
              go_wp2_with fail
              refine HSp.out.mono ?_
              rintro e w' ⟨rfl, rfl⟩
              go_wp2_with fail
              refine HOv.out.mono ?_
              rintro e w2 ⟨rfl, hb2⟩
              have HB2 : Hid _ := hide (HB.out.trans (hb2.mono HB.out.size))
              have HS2 : Hid _ := hide (HS.out.bel hb2)
              have HE2 : Hid _ := hide (HE.out.below hb2)
              clear p0 p1 p2 p3 p4
              have p0 := HE2.out.c0
              have p1 := HE2.out.c1
              have p2 := HE2.out.c2
              have p3 := HE2.out.c3
              have p4 := HE2.out.c4
              clear hb2
              cases hov : overB o a
              · rw [hov] at HF
                by_cases h16 : sn ≤ 16
                · have h16I : (sn : Int) ≤ 16 := by omega
                  have HX : Hid _ := hide (stkB_all HL.out h16)
                  clear p0 p1 p2 p3
                  go_wp2
                  go_loopw [6] (fun i wr => ∃ j : Nat, j ≤ sn ∧ i = .int .i64 j ∧ wr = w2 ∧ ((ls.take j).all fun s => decide (s.size ≤ 65536)) = true) (fun i _ => sn - (intOf i).toNat)
                  case atStart => exact ⟨0, Nat.zero_le _, rfl, rfl, by simp⟩
                  case round =>
                    obtain ⟨j, hj, rfl, rfl, hall⟩ := hrel
                    have HAll : Hid _ := hide hall
                    clear hall
                    by_cases hlt : j < sn
                    · obtain ⟨b1, o1, rfl, hc1⟩ := HS2.out.at hlt
                      have hjI : (j : Int) < sn := by omega
                      have HT' : Hid _ := hide (@all_take_succ ls (fun s => decide (s.size ≤ 65536)) j (by rw [HL.out]; exact hlt) HAll.out)
                      have HF' : Hid _ := hide (@all_false ls (fun s => decide (s.size ≤ 65536)) j (by rw [HL.out]; exact hlt))
                      generalize ls.getD j ByteArray.empty = x at hc1 HT' HF'
                      by_cases hx : x.size ≤ 65536
                      · have hxI : (x.size : Int) ≤ 65536 := by omega
                        have HN : Hid _ := hide (HT'.out (decide_eq_true hx))
                        clear hx
                        go_wp2
                        exact ⟨⟨j + 1, by omega, by go_num, by trivial, HN.out⟩, by simp [intOf]; omega⟩
                      · have hxI : (65536 : Int) < (x.size : Int) := by omega
                        have HN : Hid (R = 64) := hide (by rw [HF.out, HX.out, HF'.out (decide_eq_false hx)]; rfl)
                        clear hx
                        go_wp2
                        go_ret
                        exact ⟨by rw [HN.out]; rfl, HB2.out⟩
                    · have HN : Hid (R = 0) := hide (by
                        have h0 := HAll.out
                        rw [List.take_of_length_le (by rw [HL.out]; omega)] at h0
                        rw [HF.out, HX.out, h0]; rfl)
                      go_wp2
                      go_ret
                      exact ⟨by rw [HN.out]; rfl, HB2.out⟩
                · have h16I : (16 : Int) < sn := by omega
                  have HN : Hid (R = 64) := hide (by rw [HF.out, stkB_deep HL.out (by omega)]; rfl)
                  go_wp2
                  go_ret
                  exact ⟨by rw [HN.out]; rfl, HB2.out⟩
              · rw [hov] at HF
                go_wp2
                go_ret
                exact ⟨by rw [HF.out]; rfl, HB2.out⟩)
  · have HN : Hid (R = 60) := hide (by rw [hR]; unfold chk; rw [if_neg hk])
    clear hR
    by_cases k1 : k < 1
    · clear hk
      go_enter Tryd.func20, Tryd.ntmps20
      go_wp2
      go_ret
      exact ⟨by rw [HN.out]; rfl, by rw [← HW.out]; exact HB.out⟩
    · have k1' : decide (k < 1) = false := by simp; omega
      have k2 : decide (22 < k) = true := by simp; omega
      clear hk
      go_enter Tryd.func20, Tryd.ntmps20
      go_wp2
      go_ret
      exact ⟨by rw [HN.out]; rfl, by rw [← HW.out]; exact HB.out⟩
end Go.Proofs.YtbflkdbimgakpaaDoor.E6
