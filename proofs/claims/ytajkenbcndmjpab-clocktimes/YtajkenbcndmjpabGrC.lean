/-
  The law's grown: the walk.
-/
import Derived.Test.YtajkenbcndmjpabGrB
namespace Go.Proofs.Ytajkenbcndmjpab
open Go.RowKit
set_option maxRecDepth 100000 in
set_option maxHeartbeats 8000000 in
theorem grown_any (P : List (Sl × List Tk)) (b B n cA : Nat) (w : World) (hn : P.length = n) (hn1 : n ≤ 900) (hF : Fm w b (fA P 0)) (ht : Tb P B w) (hb : b ≤ w.heap.size) (hl : ∀ (i : Nat) (s : Sl) (L : List Tk), P[i]? = some (s, L) → (L.length : Int) ≤ 70000) :
    Calls Try.prog 34 #[.slice (some ⟨B, 0, none⟩) n cA] w fun e w' => e = .returned (.bool true) ∧ Below b w w' := by
  obtain ⟨i0, hi, hz0, hz1, hz2⟩ := info_parts Try.infoT
  obtain ⟨i1, hi1, hy0, hy1, hy2⟩ := info_parts Try.infoS
  have HG0 := hide (G1.start hF ht)
  have HN := hide hn
  have HL := hide hl
  have HBb := hide hb
  have hnI : (n : Int) ≤ 900 := by omega
  have HN1 := hide hn1
  clear hF ht hl hb hn hn1
  go_enter Try.func34, Try.ntmps34
  go_wp2
  go_loopw [3, 5] (fun vw i wr => ∃ k : Nat, k ≤ n ∧ i = .int .i64 k ∧ Hid (G1 P b B w wr vw k)) (fun _ i _ => n - (intOf i).toNat)
  case atStart => exact ⟨0, Nat.zero_le _, rfl, HG0⟩
  case round =>
    obtain ⟨k, hk, rfl, HG⟩ := hrel
    by_cases hlt : k < n
    · have hltI : (k : Int) < n := by omega
      obtain ⟨⟨s, L⟩, hP⟩ := get_ex (L := P) (i := k) (by rw [HN.out]; exact hlt)
      obtain ⟨U, hU, hO, hFm⟩ := HG.out.ex
      have ho := hFm.own _ _ k (.inl ⟨Nat.zero_le _, s, hP, rfl⟩)
      have c0 := HG.out.tb.cell hP
      obtain ⟨sa, sn, sc⟩ := s
      have hLl := HL.out k _ _ hP
      have hsn : sn = L.length := by obtain ⟨_, _, e, _, _⟩ := own_form ho; injection e
      have hs0 : sa = none → sn = 0 ∧ sc = 0 := by
        obtain ⟨_, _, e, h0, _⟩ := own_form ho
        injection e with e1 e2 e3
        intro e9
        have h9 := h0 (by rw [← e1]; exact e9)
        have e2' : sn = _ := e2
        have e3' : sc = _ := e3
        rw [e2', e3']
        exact h9
      have HR := hide (ho.row hsn.symm)
      have HS0 := hide hs0
      have HP := hide hP
      have HOw := hide hO
      have HUl := hide hU
      have HLl := hide hLl
      have HSn := hide hsn
      have HWs := hide HG.out.bel.size
      clear hP ho hO hU hFm hs0 hLl hsn
      go_wp2_with (first
        | (at_builtin; refine append_lay layT _ 22 43 i0 _ 16 Try.underlying22 hi hz0 hz1 hz2 rfl rfl (.tmp 20) (.tmp 24) rfl wr.heap.size (.slice none 0 0) [] rfl (Own.nil _ _ _ _) sa sn sc L rfl HR.out HS0.out ?b1 ?b2 (Nat.le_refl _) ?_))
      case b1 => rw [HSn.out]; unfold maxLen; have := HLl.out; simp; omega
      case b2 => rw [HSn.out]; have := HLl.out; simp; omega
      intro v1 W1 o1 g1 l1
      have o1' : OwnT W1 wr.heap.size v1 L := by simpa using o1
      obtain ⟨a1, c1, rfl, -, -⟩ := own_form o1'
      have HO1 := hide o1'
      have HB1 := hide ((Below.refl wr.heap.size wr).grown g1 (Nat.le_refl _) (fun q hq => by cases hq))
      generalize hln : L.length = ln at HO1 ⊢
      clear o1 g1 l1 o1' c0
      go_wp2_with (first
        | (at_builtin; refine append_lay layS _ 55 22 i1 _ 24 Try.underlying55 hi1 hy0 hy1 hy2 rfl rfl (.tmp 26) (.tmp 28) rfl w.heap.size _ U rfl ((HOw.out.below HB1.out).below (below_alloc1 _ _)) (some ⟨W1.heap.size, 0, none⟩) 1 1 [⟨a1, ln, c1⟩] rfl (TRow.one (y := layS) (x := ⟨a1, ln, c1⟩) (e := 22) (heap_new _ _)) (by intro e; cases e) ?b1 ?b2 ?b3 ?_))
      case b1 => rw [HUl.out]; unfold maxLen; omega
      case b2 => rw [HUl.out]; omega
      case b3 => have := HWs.out; have := HB1.out.size; simp; omega
      intro v2 W2 o2 g2 l2
      have HG2 := hide (HG.out.step HP.out HBb.out HB1.out (sc := ⟨a1, ln, c1⟩) (c := .slice a1 ln c1) (by rw [← hln] at HO1 ⊢; exact HO1.out) rfl HOw.out HUl.out o2 (((But.refl _ W1).alloc _).grown g2 (fun _ _ e => e)))
      clear o2 g2 l2
      go_wp2
      exact ⟨⟨k + 1, by omega, by go_num, HG2⟩, by simp [intOf]; omega⟩
    · have hkn : k = n := by omega
      subst hkn
      have HX0 := hide (GX.start (by rw [HN.out]; exact HG.out) HBb.out)
      clear HG HG0
      go_wp2
      go_loopw [4, 7] (fun vm i w2 => ∃ j : Nat, j ≤ k ∧ i = .int .i64 j ∧ Hid (GX P b B w wr w2 _ vm j (fun _ _ _ => False))) (fun _ i _ => k - (intOf i).toNat)
      case atStart => exact ⟨0, Nat.zero_le _, rfl, HX0⟩
      case round =>
        rename World => w2
        obtain ⟨j, hj, rfl, HG⟩ := hrel
        by_cases hjlt : j < k
        · have hjI : (j : Int) < k := by omega
          obtain ⟨⟨s, L⟩, hP⟩ := get_ex (L := P) (i := j) (by rw [HN.out]; exact hjlt)
          have ho := HG.out.old hP
          have c0 := HG.out.tb.cell hP
          have hLl := HL.out j _ _ hP
          obtain ⟨sa, sn, sc⟩ := s
          have hsn : sn = L.length := by obtain ⟨_, _, e, _, _⟩ := own_form ho; injection e
          have HO := hide ho
          have HP := hide hP
          have HLl := hide hLl
          have HSn := hide hsn
          have HSz : Hid (wr.heap.size ≤ w2.heap.size ∧ w.heap.size ≤ wr.heap.size) := hide ⟨HG.out.sz, HG.out.hw1⟩
          clear hP ho hLl hsn
          go_wp2_with (first
            | (at_builtin; refine append_layK layT _ 22 43 i0 _ 16 Try.underlying22 hi hz0 hz1 hz2 rfl rfl (.tmp 39) (.tmp 43) rfl b _ L rfl (HO.out.below (below_alloc1 _ _)) ⟨w2.heap.size, 0, none⟩ 1 1 [⟨-1 - (j : Int), -1⟩] rfl (TRow.one (y := layT) (x := ⟨-1 - (j : Int), -1⟩) (e := 43) (heap_new _ _)) (by omega) ?b1 ?b2 ?b3 ?_))
          case b1 => unfold maxLen; have := HLl.out; omega
          case b2 => have := HLl.out; omega
          case b3 => have := HBb.out; have := HSz.out; simp; omega
          intro g1 cp1 W1 o1 k1 gr1 l1 cc1
          have HX1 := hide ((HG.out.below (below_alloc1 w2 (.cells #[.int .i64 (-1 - (j : Int)), .int .i64 (-1)] 43))).grow (v1 := .slice (some ⟨g1, 0, none⟩) (L.length + 1) cp1) (L1 := L ++ mks j 1) HP.out (by have := HN1.out; omega) (fun _ _ _ e => e.elim) (.inl ⟨rfl, rfl⟩) (Nat.le_refl _) o1 k1 (But.of_grown gr1 (fun _ e => e)) (fun q hq => by
            have e9 : some g1 = some q := hq
            injection e9 with e9
            rcases l1 with l1 | l1
            · exact .inl (by rw [l1, e9])
            · exact .inr (by rw [← e9]; simpa using l1)))
          clear o1 k1 gr1 l1 cc1 c0 HG HO
          generalize hln : L.length = ln at *
          go_wp2
          go_loopw [8, 9] (fun vc i w3 => ∃ (t g cp : Nat), 1 ≤ t ∧ t ≤ 70 ∧ i = .int .i64 t ∧ vc = .slice (some ⟨g, 0, none⟩) (ln + t) cp ∧ Hid (GX P b B w wr w3 u3 u4 j (fun v L' l => v = .slice (some ⟨g, 0, none⟩) (ln + t) cp ∧ L' = L ++ mks j t ∧ l = j))) (fun _ i _ => 70 - (intOf i).toNat)
          case atStart => exact ⟨1, g1, cp1, by omega, by omega, rfl, rfl, HX1⟩
          case round =>
            rename World => w3
            obtain ⟨t, g, cp, ht1, ht, rfl, rfl, HG⟩ := hrel
            have HSz3 : Hid (wr.heap.size ≤ w3.heap.size ∧ w.heap.size ≤ wr.heap.size) := hide ⟨HG.out.sz, HG.out.hw1⟩
            by_cases htl : t < 70
            · have htI : (t : Int) < 70 := by omega
              have HO := hide (HG.out.cur ⟨rfl, rfl, rfl⟩)
              have hl2 : (L ++ mks j t).length = ln + t := by rw [List.length_append, mk_len, hln]
              have HNx := hide (mk_next j t)
              have HL2 := hide hl2
              generalize hF : L ++ mks j t = F at HO HL2
              have HFe := hide hF
              clear hl2 hF
              go_wp2_with (first
                | (at_builtin; refine append_layK layT _ 22 43 i0 _ 16 Try.underlying22 hi hz0 hz1 hz2 rfl rfl (.tmp 49) (.tmp 53) rfl b _ F rfl (HO.out.below (below_alloc1 _ _)) ⟨w3.heap.size, 0, none⟩ 1 1 [⟨-1 - (j : Int), -1⟩] rfl (TRow.one (y := layT) (x := ⟨-1 - (j : Int), -1⟩) (e := 43) (heap_new _ _)) (by omega) ?b1 ?b2 ?b3 ?_))
              case b1 => rw [HL2.out]; unfold maxLen; have := HLl.out; omega
              case b2 => rw [HL2.out]; have := HLl.out; omega
              case b3 => have := HBb.out; have := HSz3.out; simp; omega
              intro g2 cp2 W2 o2 k2 gr2 l2 cc2
              rw [HL2.out] at o2 ⊢
              have HX2 := hide ((HG.out.below (below_alloc1 w3 (.cells #[.int .i64 (-1 - (j : Int)), .int .i64 (-1)] 43))).grow (v0 := .slice (some ⟨g, 0, none⟩) (ln + t) cp) (L0 := L ++ mks j t) (v1 := .slice (some ⟨g2, 0, none⟩) (ln + (t + 1)) cp2) (L1 := L ++ mks j (t + 1)) HP.out (by have := HN1.out; omega) (fun v L' l e => by obtain ⟨_, rfl, rfl⟩ := e; exact ⟨rfl, Nat.le_refl _⟩) (.inr ⟨rfl, rfl, rfl⟩) (by rw [List.length_append]; omega) (by rw [← HNx.out, ← List.append_assoc, HFe.out]; exact o2) (by rw [HFe.out]; exact k2) (But.of_grown gr2 (fun _ e => e)) (fun q hq => by
                have e9 : some g2 = some q := hq
                injection e9 with e9
                rcases l2 with l2 | l2
                · exact .inl (by rw [l2, e9])
                · exact .inr (by rw [← e9]; simpa using l2)))
              clear o2 k2 gr2 l2 cc2 HG HO
              go_wp2
              exact ⟨⟨t + 1, g2, cp2, by omega, by omega, by go_num, rfl, HX2⟩, by simp [intOf]; omega⟩
            · have ht70 : t = 70 := by omega
              subst ht70
              obtain ⟨U, M, hU, hM, hOu, hOm, _⟩ := HG.out.ex
              have HOm := hide hOm
              have HMl := hide hM
              clear hU hM hOu hOm
              go_wp2_with (first
                | (at_builtin; refine append_lay layS _ 55 22 i1 _ 24 Try.underlying55 hi1 hy0 hy1 hy2 rfl rfl (.tmp 55) (.tmp 57) rfl wr.heap.size _ M rfl (HOm.out.below (below_alloc1 _ _)) (some ⟨w3.heap.size, 0, none⟩) 1 1 [⟨some ⟨g, 0, none⟩, ln + 70, cp⟩] rfl (TRow.one (y := layS) (x := ⟨some ⟨g, 0, none⟩, ln + 70, cp⟩) (e := 22) (heap_new _ _)) (by intro e; cases e) ?b1 ?b2 ?b3 ?_))
              case b1 => rw [HMl.out]; unfold maxLen; omega
              case b2 => rw [HMl.out]; omega
              case b3 => have := HSz3.out; simp; omega
              intro v5 W5 o5 g5 l5
              have HX5 := hide ((HG.out.below (below_alloc1 w3 (.cells #[.slice (some ⟨g, 0, none⟩) (ln + 70) cp] 22))).push (sm := ⟨some ⟨g, 0, none⟩, ln + 70, cp⟩) HP.out (HOm.out.below (below_alloc1 _ _)) HMl.out o5 (But.of_grown g5 (fun _ e => e)))
              clear o5 g5 l5 HG HOm
              go_wp2
              exact ⟨⟨j + 1, by omega, by go_num, HX5⟩, by simp [intOf]; omega⟩
        · have hjk : j = k := by omega
          subst hjk
          clear HX0
          go_wp2
          go_loopw [10] (fun i w3 => ∃ i' : Nat, i' ≤ j ∧ i = .int .i64 i' ∧ Hid (GX P b B w wr w3 u3 u4 j (fun _ _ _ => False))) (fun i _ => j - (intOf i).toNat)
          case atStart => exact ⟨0, Nat.zero_le _, rfl, HG⟩
          case round =>
            rename World => w3
            obtain ⟨i, hij, rfl, HG⟩ := hrel
            by_cases hil : i < j
            · have hilI : (i : Int) < j := by omega
              obtain ⟨⟨s, L⟩, hP⟩ := get_ex (L := P) (i := i) (by rw [HN.out]; exact hil)
              have HP := hide hP
              have HLl := hide (HL.out i _ _ hP)
              clear hP
              go_wp2
              go_loopw [11] (fun t w4 => ∃ t' : Nat, t' ≤ 70 ∧ t = .int .i64 t' ∧ Hid (GX P b B w wr w4 u3 u4 j (fun _ _ _ => False))) (fun t _ => 70 - (intOf t).toNat)
              case atStart => exact ⟨0, by omega, rfl, HG⟩
              case round =>
                rename World => w4
                obtain ⟨t, ht, rfl, HG⟩ := hrel
                by_cases htl : t < 70
                · have htI : (t : Int) < 70 := by omega
                  have HGP : GX P b B w wr w4 u3 u4 P.length (fun _ _ _ => False) := by rw [HN.out]; exact HG.out
                  obtain ⟨gm, cm, g, c, hvm, c0, hsn, c1, c2⟩ := HGP.read HP.out
                  have c3 := c2 t htl
                  have hq : ∃ q : Nat, L.length + t = q := ⟨_, rfl⟩
                  obtain ⟨q, hq⟩ := hq
                  rw [hq] at c3
                  obtain ⟨sa, sn, sc⟩ := s
                  have hsn2 : sn = L.length := hsn
                  have hqs : (sn : Int) + (t : Int) = (q : Int) := by omega
                  have hl70 : ∃ ln : Nat, L.length + 70 = ln := ⟨_, rfl⟩
                  obtain ⟨ln, hl70⟩ := hl70
                  rw [hl70] at c1
                  have hqlt : (q : Int) < ln := by omega
                  have hlnb : (ln : Int) ≤ 70070 := by have := HLl.out; omega
                  rw [HN.out] at hvm
                  clear c2 HGP hsn hsn2 hq hl70
                  subst hvm
                  go_wp2_with fail
                  go_quiet (fail)
                  go_wp2
                  exact ⟨⟨t + 1, by omega, by go_num, hide (HG.out.below (below_drewN (Below.refl _ _) _))⟩, by simp [intOf]; omega⟩
                · have ht70 : t = 70 := by omega
                  subst ht70
                  go_wp2
                  exact ⟨⟨i + 1, by omega, by go_num, HG⟩, by simp [intOf]; omega⟩
            · have hik : i = j := by omega
              subst hik
              have HG6 := hide (G6.start HG.out)
              clear HG
              go_wp2
              go_loopw [12] (fun x w4 => ∃ x' : Nat, x' ≤ i ∧ x = .int .i64 x' ∧ Hid (G6 P b B w w4 u3 x')) (fun x _ => i - (intOf x).toNat)
              case atStart => exact ⟨0, Nat.zero_le _, rfl, HG6⟩
              case round =>
                rename World => w4
                obtain ⟨x, hx, rfl, HG⟩ := hrel
                by_cases hxl : x < i
                · have hxI : (x : Int) < i := by omega
                  obtain ⟨⟨s, L⟩, hP⟩ := get_ex (L := P) (i := x) (by rw [HN.out]; exact hxl)
                  have HP := hide hP
                  have hLl := HL.out x _ _ hP
                  obtain ⟨gw, cw, su, hvw, c0, c1, o1, o2⟩ := HG.out.read hP
                  rw [HN.out] at hvw
                  have hsn : s.n = L.length := by obtain ⟨_, _, e, _, _⟩ := own_form o1; injection e
                  have HSm : Hid (∀ X, Below w4.heap.size w4 X → Calls Try.prog 12 #[s.val, su.val] X fun e w' => e = .returned (.bool true) ∧ Below X.heap.size X w') := hide (fun X hX => by
                    refine (csame_any (cl_own (o1.below hX) (by omega)) (cl_own (o2.below hX) (by omega))).mono ?_
                    rintro e w' ⟨rfl, hb⟩
                    exact ⟨by simp, hb⟩)
                  obtain ⟨sa, sn, sc⟩ := s
                  obtain ⟨ua, un, uc⟩ := su
                  have hb0 : B < w4.heap.size := get_lt' HG.out.tb
                  have hb1 : gw < w4.heap.size := World.block_lt_of_cell? _ _ c1
                  have HK : Hid (∀ X, Below w4.heap.size w4 X → X.cell? ⟨B, x, none⟩ = some (.slice sa sn sc) ∧ X.cell? ⟨gw, x, none⟩ = some (.slice ua un uc)) := hide (fun X hX => ⟨(hX.cell (p := ⟨B, x, none⟩) hb0).trans c0, (hX.cell (p := ⟨gw, x, none⟩) hb1).trans c1⟩)
                  have HSn : Hid (sn = L.length) := hide hsn
                  have hsnI : (sn : Int) ≤ 70000 := by have e9 : sn = L.length := hsn; omega
                  have K0 := HK.out w4.drew (Below.refl _ _).drew
                  clear hP hLl o1 o2 c0 c1 hb0 hb1 hsn
                  subst hvw
                  go_wp2_with fail
                  go_region_held3 (fun X => X.cell? ⟨B, x, none⟩ = some (.slice sa sn sc) ∧ X.cell? ⟨gw, x, none⟩ = some (.slice ua un uc)) (first | with_reducible exact K0 | with_reducible exact K1) (first
                    | (go_at_call 12; go_must (
                       refine (HSm.out w4.drew (Below.refl _ _).drew).mono ?_
                       rintro e W5 ⟨rfl, b5⟩
                       have b45 : Below w4.heap.size w4 W5 := (Below.refl w4.heap.size w4).drew.trans b5
                       have K1 := HK.out W5 b45
                       have HB5 := hide b45
                       clear b5 b45)))
                  clear K0 K1
                  have HG7 := hide (G7.start (HG.out.below HB5.out) HP.out (by have := HN1.out; omega))
                  clear HG
                  go_wp2
                  go_loopw [13] (fun y w5 => ∃ y' : Nat, y' ≤ sn ∧ y = .int .i64 y' ∧ Hid (G7 P b B w w5 (.slice (some ⟨gw, 0, none⟩) i cw) x ⟨sa, sn, sc⟩)) (fun y _ => sn - (intOf y).toNat)
                  case atStart => exact ⟨0, Nat.zero_le _, rfl, HG7⟩
                  case round =>
                    rename World => w6
                    obtain ⟨y, hy, rfl, HG⟩ := hrel
                    have c0 : w6.cell? ⟨B, x, none⟩ = some (.slice sa sn sc) := HG.out.tb.cell HP.out
                    by_cases hyl : y < sn
                    · have hyI : (y : Int) < sn := by omega
                      obtain ⟨g, u, v, ha, d0, d1, f0, f1⟩ := HG.out.form hyl
                      have ha2 : sa = some ⟨g, 0, none⟩ := ha
                      have HG2 := hide (HG.out.set ha hyl ⟨-7, -7⟩)
                      clear ha
                      subst ha2
                      go_wp2
                      exact ⟨⟨y + 1, by omega, by go_num, HG2⟩, by simp [intOf]; omega⟩
                    · have hys : y = sn := by omega
                      subst hys
                      go_wp2
                      exact ⟨⟨x + 1, by omega, by go_num, hide HG.out.done⟩, by simp [intOf]; omega⟩
                · have hxs : x = i := by omega
                  have HE := hide HG.out.bel
                  subst hxs
                  go_wp2
                  go_ret
                  exact ⟨rfl, HE.out⟩
end Go.Proofs.Ytajkenbcndmjpab
