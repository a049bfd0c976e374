/-
  later.
-/
import Derived.Test.YtdlpffbeladgaabKpB
namespace Go.Proofs.Ytdlpffbeladgaab
open Go.RowKit
theorem bel_on {w a b : World} (h : Below w.heap.size w a) (k : Below a.heap.size a b) : Below w.heap.size w b := h.trans (k.mono h.size)
set_option maxRecDepth 8000 in
set_option maxHeartbeats 12800000 in
theorem later_any (w : World) (lo hi n c : Nat) (a : Option Addr) (rws : List Rw) (Gs : List (Int × List Rc)) (hz : Rowz w lo (.slice a n c) rws Gs) (hn : rws.length = n) (h0 : a = none → n = 0 ∧ c = 0) (hnI : n ≤ 1048576) (hm : ∀ G ∈ Gs, G.2.length ≤ 1048576)
    (hhi : ∀ (k : Nat) (rw : Rw) (g : Nat), rws[k]? = some rw → rw.s.v.ownBlock = some g → g < hi) :
    Calls Try.prog 12 #[.slice a n c] w fun r w' => r = .returned (.bool true) ∧ But (fun z => lo ≤ z ∧ z < hi) w w' := by
  have hnJ : (n : Int) ≤ 1048576 := by omega
  have HZ : Hid _ := hide hz
  have HN : Hid _ := hide hn
  have H0 : Hid _ := hide h0
  have HM : Hid _ := hide hm
  have HHI : Hid _ := hide hhi
  have HNI : Hid _ := hide hnI
  clear hz hn h0 hm hhi hnI
  go_enter Try.func12, Try.ntmps12
  go_wp2_with fail
  go_loopw [3] (fun i wo => ∃ (q : Nat) (Gs' : List (Int × List Rc)), i = .int .i64 q ∧ q ≤ n ∧ Hid (Rowz wo lo (.slice a n c) rws Gs' ∧ Shp Gs Gs') ∧ Hid (But (fun z => lo ≤ z ∧ z < hi) w wo)) (fun i _ => n - numV i)
  case atStart => exact ⟨0, Gs, rfl, Nat.zero_le _, hide ⟨HZ.out, rfl⟩, hide (But.refl _ _)⟩
  case round =>
    obtain ⟨q, Gs', rfl, hq, HZo, HBo⟩ := hrel
    rename World => wo
    by_cases hlt : q < n
    · have hltJ : (q : Int) < (n : Int) := by omega
      obtain ⟨rw, hrw⟩ : ∃ rw, rws[q]? = some rw := ⟨_, List.getElem?_eq_getElem (by rw [HN.out]; exact hlt)⟩
      obtain ⟨G0, hG0⟩ : ∃ G, Gs[q]? = some G := ⟨_, List.getElem?_eq_getElem (by rw [← HZ.out.len, HN.out]; exact hlt)⟩
      have hsn : rw.s.n = G0.2.length := by
        obtain ⟨_, _, e, _, _⟩ := own_form (HZ.out.each q rw G0 hrw hG0).2
        injection e
      obtain ⟨rg, sa, sn, sc⟩ := rw
      have hsn' : sn = G0.2.length := hsn
      have hsl : sn ≤ 1048576 := by rw [hsn']; exact HM.out G0 (List.mem_of_getElem? hG0)
      have hslI : (sn : Int) ≤ 1048576 := by omega
      obtain ⟨b, rfl, hb1, hb2, x0, x1, hcc⟩ := HZo.out.1.look HN.out hrw
      have HRW : Hid _ := hide hrw
      have HG0 : Hid _ := hide hG0
      have HSN : Hid _ := hide hsn'
      clear hrw hG0 hsn hsn' hb1 hb2 hcc hsl
      dsimp only at x0 x1
      go_wp2_with fail
      clear x0 x1
      go_loopw [4] (fun j wi => ∃ (k : Nat) (Gs' : List (Int × List Rc)), j = .int .i64 k ∧ k ≤ sn ∧ Hid (Rowz wi lo (.slice (some ⟨b, 0, none⟩) n c) rws Gs' ∧ Shp Gs Gs') ∧ Hid (But (fun z => lo ≤ z ∧ z < hi) w wi)) (fun j _ => sn - numV j)
      case atStart => exact ⟨0, Gs', rfl, Nat.zero_le _, HZo, HBo⟩
      case round =>
        obtain ⟨k, Gk, rfl, hk, HZi, HBi⟩ := hrel
        rename World => wi
        obtain ⟨b', hb', -, -, x0, x1, -⟩ := HZi.out.1.look HN.out HRW.out
        have eb : b = b' := by injection hb' with e; injection e
        subst eb
        dsimp only at x0 x1
        clear hb'
        by_cases hlt2 : k < sn
        · have hltM : (k : Int) < (sn : Int) := by omega
          obtain ⟨Gq, hGq⟩ : ∃ G, Gk[q]? = some G := ⟨_, List.getElem?_eq_getElem (by rw [HZi.out.2.len, ← HZ.out.len, HN.out]; exact hlt)⟩
          have hGl : Gq.2.length = sn := by rw [HZi.out.2.at HG0.out hGq, HSN.out]
          obtain ⟨r, hr⟩ : ∃ r, Gq.2[k]? = some r := ⟨_, List.getElem?_eq_getElem (by rw [hGl]; exact hlt2)⟩
          obtain ⟨g, cr, ha, -, hc9, hlg, -, hcr, y0, y1, y2, y3, y4⟩ := (HZi.out.1.each q _ Gq HRW.out hGq).2.look5 hr
          have ha' : sa = some ⟨g, 0, none⟩ := ha
          subst ha'
          have hcI : (sn : Int) ≤ (sc : Int) := by have : sn ≤ sc := hc9; omega
          have z2 := frz hcr (k * 5 + 2)
          have HGI : Hid (lo ≤ g ∧ g < hi) := hide ⟨hlg, HHI.out q _ g HRW.out rfl⟩
          have HNEW : Hid (∀ o : Int, Rowz (wi.setCell ⟨g, k * 5 + 2, none⟩ (.int .u64 o)) lo (.slice (some ⟨b, 0, none⟩) n c) rws (Gk.set q (Gq.1, Gq.2.set k ⟨r.stamp, r.kind, o, r.arg, r.stack⟩)) ∧ Shp Gs (Gk.set q (Gq.1, Gq.2.set k ⟨r.stamp, r.kind, o, r.arg, r.stack⟩))) := hide (fun o => ⟨HZi.out.1.set2 HRW.out hGq rfl hr o, HZi.out.2.set hGq _ (by simp)⟩)
          clear ha hc9 hlg hcr hGq hGl hr
          go_wp2_with fail
          go_region
          go_wp2_with fail
          exact ⟨⟨k + 1, _, by go_num, by omega, hide ⟨(HNEW.out _).1.below (Below.refl _ _).drew, (HNEW.out _).2⟩, hide (HBi.out.setCell ⟨g, k * 5 + 2, none⟩ (fun _ => HGI.out) _).drew⟩, by simp [numV]; omega⟩
        · have hltM : ¬ (k : Int) < (sn : Int) := by omega
          obtain rfl : k = sn := by omega
          go_wp2_with fail
          exact ⟨⟨q + 1, Gk, by go_num, by omega, HZi, HBi⟩, by simp [numV]; omega⟩
    · have hltJ : ¬ (q : Int) < (n : Int) := by omega
      obtain rfl : q = n := by omega
      have HGm : Hid (∀ G ∈ Gs', G.2.length ≤ 1048576) := hide (HZo.out.2.all HM.out)
      have RD := HZo.out.1.reads HN.out
      have MA := merge_any wo a q c rws Gs' RD H0.out (by omega) (fun G hG => by have := HGm.out G hG; omega)
      have HRD : Hid _ := hide RD
      clear RD
      go_wp2_with fail
      refine MA.mono ?_
      rintro r w1 ⟨v1, u1, err, O, rfl, mr, o1, p1, b1⟩
      clear MA
      have HEV : Hid ((evs (Gs'.map Prod.fst) O).length ≤ 1048576) := hide (by unfold evs; rw [List.length_map]; exact mr.len)
      obtain ⟨E, hE⟩ : ∃ E, E = evs (Gs'.map Prod.fst) O := ⟨_, rfl⟩
      rw [← hE] at o1 p1
      obtain ⟨NE, hNE⟩ : ∃ NE, NE = E.length := ⟨_, rfl⟩
      obtain ⟨a1, c1, hv1, -, -⟩ := own_form o1
      obtain ⟨d1, e1, hu1, -, -⟩ := own_form p1
      rw [List.length_map, ← hNE] at hv1 hu1
      subst hv1; subst hu1
      have hNEI : (NE : Int) ≤ 1048576 := by have h9 := HEV.out; rw [← hE, ← hNE] at h9; omega
      have HE : Hid _ := hide hE
      have HNE : Hid _ := hide hNE
      have HMR : Hid _ := hide mr
      have HO1 : Hid _ := hide o1
      have HP1 : Hid _ := hide p1
      have HB1 : Hid _ := hide b1
      have TN := twins_any w1 a q c rws Gs' (HRD.out.below b1) (by omega) (fun G hG => by have := HGm.out G hG; omega)
      clear hE hNE mr o1 p1 b1
      go_wp2_with fail
      refine TN.mono ?_
      rintro r w2 ⟨v2, rws2, rfl, z2, b2⟩
      clear TN
      obtain ⟨a2, c2, hv2, hn2⟩ := z2.form
      have hgl : Gs'.length = q := by rw [HZo.out.2.len, ← HZ.out.len, HN.out]
      rw [hgl] at hv2 hn2
      subst hv2
      have MA := merge_any w2 a2 q c2 rws2 Gs' (z2.reads (by rw [z2.len, hgl])) hn2 (by omega) (fun G hG => by have := HGm.out G hG; omega)
      have HB2 : Hid _ := hide b2
      have HGL : Hid _ := hide hgl
      clear z2 b2 hgl hn2
      go_wp2_with fail
      refine MA.mono ?_
      rintro r w3 ⟨v3, u3, err3, O3, rfl, mr3, o3, p3, b3⟩
      clear MA
      obtain ⟨x1, x2⟩ := mr3.uniq HMR.out
      subst x1; subst x2
      rw [← HE.out] at o3 p3
      obtain ⟨a3, c3, hv3, -, -⟩ := own_form o3
      obtain ⟨d3, e3, hu3, -, -⟩ := own_form p3
      rw [List.length_map, ← HNE.out] at hv3 hu3
      subst hv3; subst hu3
      have HO3 : Hid _ := hide o3
      have HP3 : Hid _ := hide p3
      have HB3 : Hid _ := hide b3
      have HO1 : Hid _ := hide ((HO1.out.below HB2.out).below b3)
      have HP1 : Hid _ := hide ((HP1.out.below HB2.out).below b3)
      have SP := split_any w3 a1 d1 NE c1 NE e1 (E.map Prod.fst) (E.map Prod.snd) (HO1.out.row (by rw [List.length_map, HNE.out])) (HP1.out.row (by rw [List.length_map, HNE.out])) (by omega) (by omega)
      clear mr3 o3 p3 b3
      go_wp2_with fail
      refine SP.mono ?_
      rintro r w4 ⟨v4, rws4, er4, G4, rfl, sp4, z4, b4⟩
      clear SP
      have HSP4 : Hid _ := hide sp4
      have HB4 : Hid _ := hide b4
      have SP := split_any w4 a3 d3 NE c3 NE e3 (E.map Prod.fst) (E.map Prod.snd) ((HO3.out.below b4).row (by rw [List.length_map, HNE.out])) ((HP3.out.below b4).row (by rw [List.length_map, HNE.out])) (by omega) (by omega)
      obtain ⟨a4, c4, hv4, -⟩ := z4.form
      obtain ⟨N4, hN4⟩ : ∃ N4, N4 = G4.length := ⟨_, rfl⟩
      rw [← hN4] at hv4
      subst hv4
      have HN4 : Hid _ := hide hN4
      have HZ4 : Hid _ := hide z4
      clear sp4 b4 z4 hN4
      go_wp2_with fail
      refine SP.mono ?_
      rintro r w5 ⟨v5, rws5, er5, G5, rfl, sp5, z5, b5⟩
      clear SP
      obtain ⟨x1, x2⟩ := sp5.uniq HSP4.out
      subst x1; subst x2
      obtain ⟨a5, c5, hv5, -⟩ := z5.form
      rw [← HN4.out] at hv5
      subst hv5
      have HZ5 : Hid _ := hide z5
      have HB5 : Hid _ := hide b5
      have SB := sameB a1 a3 NE c1 c3 (E.map Prod.fst) (E.map Prod.fst) w5 (((HO1.out.below HB4.out).below b5).row (by rw [List.length_map, HNE.out])) (((HO3.out.below HB4.out).below b5).row (by rw [List.length_map, HNE.out])) (by omega) (fun i x y hx hy => by
        have e9 : x = y := by rw [hx] at hy; exact Option.some.inj hy
        subst e9
        have hxm := List.mem_of_getElem? hx
        rw [HE.out, ← evV_evs] at hxm
        obtain ⟨o, _, rfl⟩ := List.mem_map.1 hxm
        exact ⟨rfl, rfl, rfl, rfl, rfl⟩)
      have hee : (err3 == err3) = true := by simp
      have hff : (er5 == er5) = true := by simp
      clear sp5 z5 b5
      go_wp2_with fail
      refine SB.mono ?_
      rintro r w6 ⟨rfl, b6⟩
      clear SB
      have HB6 : Hid _ := hide b6
      have SN := sameN d1 d3 NE e1 e3 (E.map Prod.snd) w6 ((((HP1.out.below HB4.out).below HB5.out).below b6).row (by rw [List.length_map, HNE.out])) ((((HP3.out.below HB4.out).below HB5.out).below b6).row (by rw [List.length_map, HNE.out])) (by omega)
      clear b6
      go_wp2_with fail
      refine SN.mono ?_
      rintro r w7 ⟨rfl, b7⟩
      clear SN
      have HB7 : Hid _ := hide b7
      have SR := sameRw a4 a5 N4 c4 c5 rws4 rws5 G5 w7 ((((HZ4.out.below HB5.out).below HB6.out).below b7).reads (by rw [HZ4.out.len, HN4.out])) (((HZ5.out.below HB6.out).below b7).reads (by rw [HZ5.out.len, HN4.out])) (by have := HSP4.out.len.1; have := HN4.out; omega) (fun G hG => by have := HSP4.out.len.2 G hG; omega)
      clear b7
      go_wp2_with fail
      refine SR.mono ?_
      rintro r w8 ⟨rfl, b8⟩
      clear SR
      go_wp2
      go_ret
      exact ⟨rfl, (((((((HBo.out.on HB1.out).on HB2.out).on HB3.out).on HB4.out).on HB5.out).on HB6.out).on HB7.out).on b8⟩
end Go.Proofs.Ytdlpffbeladgaab
