/-
  StreamOwn: bytesApart.
-/
import Derived.Test.YtdppbaipmmcjbaaDoorZoa
import Derived.BigRegion
import Derived.BigQuiet
import Derived.Deep.QuietTactic
namespace Go.Proofs.YtdppbaipmmcjbaaDoor
open Go.RowKit
set_option maxRecDepth 20000 in
set_option maxHeartbeats 6400000 in
theorem bapart_any (a : Option Addr) (c base : Nat) (bs : List (List Int)) (vals : List Value) (w : World) (hP : Pts w base (.slice a bs.length c) bs vals) (hz : ∀ b ∈ bs, (b.length : Int) ≤ 1048576) (hm : (bs.length : Int) * 24 ≤ 200000000000000) :
    Calls Tryd.prog 26 #[.slice a bs.length c] w fun e w' => e = .returned (.bool true) ∧ But (fun k => ∃ x ∈ vals, x.ownBlock = some k) w w' := by
  have HP : Hid _ := hide hP
  have HZ : Hid _ := hide hz
  obtain ⟨N, hN⟩ : ∃ N, N = bs.length := ⟨_, rfl⟩
  rw [← hN] at HP hm ⊢
  have HNB : Hid (N = bs.length) := hide hN
  have HM : Hid _ := hide hm
  have hNI : (N : Int) ≤ 9000000000000 := by omega
  clear hP hz hN hm
  go_enter Tryd.func26, Tryd.ntmps26
  go_wp2_with fail
  go_loopw [3, 4, 5] (fun s3 s4 _ wr => ∃ (k : Nat) (ws : List (List Int)) (aw : Option Addr) (cw : Nat) (wv : List Value), s4 = .int .i64 k ∧ k ≤ N ∧ s3 = .slice aw ws.length cw ∧ Lists wr w.heap.size (.slice aw ws.length cw) ws wv ∧ ws = bs.take k ∧ Below w.heap.size w wr)
    (fun _ s4 _ _ => N - (intOf s4).toNat)
  case atStart => exact ⟨0, [], none, 0, [], rfl, Nat.zero_le _, rfl, Lists.nil _ _, by simp, Below.refl _ _⟩
  case round =>
    obtain ⟨k, ws, aw, cw, wv, rfl, hk, rfl, hL, hws, hbel⟩ := hrel
    have HL : Hid _ := hide hL
    have HWS : Hid _ := hide hws
    have HB : Hid _ := hide hbel
    by_cases hlt : k < N
    · have hgk : bs[k]? = some (bs.getD k []) := by have := HNB.out; rw [List.getD_eq_getElem?_getD]; simp [show k < bs.length by omega]
      have hzl : ((bs.getD k []).length : Int) ≤ 1048576 := HZ.out _ (List.mem_of_getElem? hgk)
      have HGK : Hid _ := hide hgk
      have hwsl : Hid (ws.length = k) := hide (by rw [hws, List.length_take]; have := HNB.out; omega)
      generalize bs.getD k [] = z at HGK hzl hgk
      obtain ⟨G, ai, cap, rfl, hvk, hck, ho, hrow, h0⟩ := (HP.out.below hbel).at hgk
      have HRw : Hid _ := hide hrow
      have H0 : Hid _ := hide h0
      have hsr := hbel.size
      clear hL hws hbel hgk hvk ho hrow h0
      go_wp2_with (first
        | (at_builtin; refine append_lstB _ rfl _ _ rfl w.heap.size (.slice aw ws.length cw) ws.length wv rfl (HL5.out.own.alloc _) ⟨w5.heap.size, 0, none⟩ 1 1 [.slice a5 z.length c5] rfl rfl (cell_news1 _ _ _) (by intro u hu; simp at hu; subst hu; rfl) (by omega) (by have h1 := hwsl.out; have h2 := HM.out; omega) (by simp; omega) ?_
           intro a6 c6 w6 o6 g6)
        | (at_builtin; refine append_row _ rfl _ _ rfl wr.heap.size (.slice none 0 0) 0 [] rfl (World.ownsRow_nil _ _ _ _) ai z.length z.length z rfl HRw.out (fun e => ⟨H0.out e, H0.out e⟩) (by omega) (Nat.le_refl _) ?_
           intro v5 w5 o5 g5
           simp only [Nat.zero_add, List.nil_append] at o5
           obtain ⟨a5, c5, rfl⟩ := own_formL o5
           have hb5 : Below wr.heap.size wr w5 := ⟨g5.os, g5.tape, g5.output, g5.size, fun k hk => g5.block k hk (by simp [Value.ownBlock])⟩
           have HL5 : Hid _ := hide (HL.out.below hb5)
           have HO5 : Hid _ := hide o5
           have HB5 : Hid _ := hide hb5
           have hs5 := hb5.size
           clear o5 g5 hb5)
        | go_in)
      have hX := HL5.out.snocG (b := z) (own_mono HO5.out hsr) (fun x hx g hg e => by have h1 := (HL.out.blocks x hx g hg).2; have h2 := (HO5.out.lt g e).1; omega) (HP.out.u8 z (List.mem_of_getElem? HGK.out)) o6 g6
      have hbl : Below w.heap.size w w6 := (HB.out.trans (HB5.out.mono hsr)).trans ((((But.refl (fun g => (Value.slice aw ws.length cw).ownBlock = some g) w5).alloc _).grown g6 (fun k _ e => e)).below (by omega) (fun g hg => (HL5.out.own.lt g hg).1))
      refine ⟨⟨k + 1, ws ++ [z], a6, c6, _, by go_num, by omega, by simp, by simpa using hX, ?_, hbl⟩, by simp [intOf]; omega⟩
      rw [HWS.out, List.take_add_one, HGK.out]
      rfl
    · have hke : k = N := by omega
      subst hke
      obtain ⟨W1, hW1⟩ : ∃ W1, W1 = wr := ⟨_, rfl⟩
      have HLW : Hid (Lists W1 w.heap.size (.slice aw ws.length cw) ws wv) := hide (by rw [hW1]; exact hL)
      have HEW : Hid (ws = bs) := hide (by rw [hws, HNB.out, List.take_length])
      have HBW : Hid (Below w.heap.size w W1) := hide (by rw [hW1]; exact hbel)
      have HWe : Hid (W1 = wr) := hide hW1
      have hS1 : w.heap.size ≤ W1.heap.size := HBW.out.size
      clear hL hws hbel HL HWS HB hW1
      go_wp2_with fail
      go_loopw [6, 7, 8, 9] (fun s6 s7 _ _ wr => ∃ (j : Nat) (gs : List (List Int)) (ag : Option Addr) (cg : Nat) (gv : List Value), s7 = .int .i64 j ∧ j ≤ k ∧ s6 = .slice ag gs.length cg ∧ Lists wr W1.heap.size (.slice ag gs.length cg) gs gv ∧ gs = gsL bs j ∧ Below W1.heap.size W1 wr)
        (fun _ s7 _ _ _ => k - (intOf s7).toNat)
      case atStart => exact ⟨0, [], none, 0, [], rfl, Nat.zero_le _, rfl, Lists.nil _ _, rfl, by rw [HWe.out]; exact Below.refl _ _⟩
      case round =>
        obtain ⟨j, gs, ag, cg, gv, rfl, hj, rfl, hL, hgs, hbel⟩ := hrel
        rename World => Wk
        have HL : Hid _ := hide hL
        have HGS : Hid _ := hide hgs
        have HB : Hid _ := hide hbel
        by_cases hlt : j < k
        · have hgk : bs[j]? = some (bs.getD j []) := by have := HNB.out; rw [List.getD_eq_getElem?_getD]; simp [show j < bs.length by omega]
          have hzl : ((bs.getD j []).length : Int) ≤ 1048576 := HZ.out _ (List.mem_of_getElem? hgk)
          have HGK : Hid _ := hide hgk
          have hgsl : Hid (gs.length = j) := hide (by rw [hgs, gsL_len])
          obtain ⟨z, hz⟩ : ∃ z, z = bs.getD j [] := ⟨_, rfl⟩
          have HZe : Hid (z = bs.getD j []) := hide hz
          rw [← hz] at hzl hgk
          obtain ⟨G, ai, cap, rfl, hvk, hck, ho, hrow, h0⟩ := (HP.out.below (HBW.out.trans (hbel.mono hS1))).at hgk
          have HRw : Hid _ := hide hrow
          have H0 : Hid _ := hide h0
          have hsr := hbel.size
          clear hL hgs hbel hgk hvk ho hrow h0 hz HGK
          go_wp2_with (first
            | (at_builtin; refine append_cut2 _ rfl _ _ rfl ai z.length z rfl (HRw.out.below (below_alloc1 _ _)) H0.out Wk.heap.size _ _ rfl (heap_new _ _) (by omega) ?_
               intro g8 c8 w8 o8 b8
               have HO8 : Hid _ := hide (own_mono o8 (show Wk.heap.size ≤ (Wk.alloc _).heap.size by simp))
               have HB8 : Hid (Below Wk.heap.size Wk w8) := hide ((below_alloc1 Wk _).trans (b8.mono (by simp)))
               clear o8 b8)
            | go_in)
          have HO9 : Hid (w8.ownsRow Wk.heap.size 5 1 (.slice (some ⟨g8, 0, none⟩) (z.length + 2 * 1) c8) (z.length + 2 * 1) ((z ++ mkL j 1).map (Value.int .u8))) := HO8.out
          clear HO8 hck
          go_loopw [8, 9] (fun s8 s9 wr => ∃ q g cap : Nat, 1 ≤ q ∧ q ≤ 35 ∧ s9 = .int .i64 (2 * (q : Int)) ∧ s8 = .slice (some ⟨g, 0, none⟩) (z.length + 2 * q) cap ∧ wr.ownsRow Wk.heap.size 5 1 (.slice (some ⟨g, 0, none⟩) (z.length + 2 * q) cap) (z.length + 2 * q) ((z ++ mkL j q).map (Value.int .u8)) ∧ Below Wk.heap.size Wk wr)
            (fun _ s9 _ => 70 - (intOf s9).toNat)
          case atStart => exact ⟨1, g8, c8, Nat.le_refl _, by decide, rfl, rfl, HO9.out, HB8.out⟩
          case round =>
            clear HO9 HB8
            obtain ⟨q, g2, cap2, hq1, hq2, rfl, rfl, hon, hbw⟩ := hrel
            have HON : Hid _ := hide hon
            have HBQ : Hid _ := hide hbw
            have hsq := hbw.size
            clear hon hbw
            by_cases hlq : q < 35
            · have hlqI : 2 * (q : Int) < 70 := by omega
              go_wp2_with (first
                | (at_builtin; refine append_own2 _ rfl _ _ rfl Wk.heap.size (.slice (some ⟨g2, 0, none⟩) (z.length + 2 * q) cap2) (z.length + 2 * q) (z ++ mkL j q) rfl (HON.out.alloc _) wr.heap.size _ _ rfl (heap_new _ _) (by omega) (by simp; omega) ?_
                   intro g3 c3 w3 o3 gr3
                   have HO3 : Hid _ := hide o3
                   have HB3 : Hid (Below Wk.heap.size Wk w3) := hide ((HBQ.out.trans ((below_alloc1 wr _).mono hsq)).grown gr3 (by simp; omega) (fun k hk => (HON.out.lt k hk).1))
                   clear o3 gr3)
                | go_in)
              refine ⟨⟨q + 1, g3, c3, by omega, by omega, by go_num, by rw [show z.length + 2 * (q + 1) = z.length + 2 * q + 2 by omega], ?_, HB3.out⟩, by simp [intOf]; omega⟩
              rw [show z.length + 2 * (q + 1) = z.length + 2 * q + 2 by omega, mkL_succ, ← List.append_assoc]
              exact HO3.out
            · have hq35 : q = 35 := by omega
              subst hq35
              have HL9 : Hid _ := hide (HL.out.below HBQ.out)
              go_wp2_with (first
                | (at_builtin; refine append_lstB _ rfl _ _ rfl W1.heap.size (.slice ag gs.length cg) gs.length gv rfl (HL9.out.own.alloc _) ⟨wr.heap.size, 0, none⟩ 1 1 [.slice (some ⟨g2, 0, none⟩) (z.length + 70) cap2] rfl rfl (cell_news1 _ _ _) (by intro u hu; simp at hu; subst hu; rfl) (by omega) (by have h1 := hgsl.out; have h2 := HM.out; omega) (by simp; omega) ?_
                   intro a6 c6 w6 o6 g6)
                | go_in)
              have hzz : (z ++ mkL j 35).length = z.length + 70 := by rw [List.length_append, mkL_len]
              have hX := HL9.out.snocG (b := z ++ mkL j 35) (a1 := some ⟨g2, 0, none⟩) (c1 := cap2) (by rw [hzz]; exact own_mono HON.out hsr) (fun x hx g hg e => by have h1 := (HL.out.blocks x hx g hg).2; have h2 := (HON.out.lt g (by rw [hzz] at e; exact e)).1; omega) (fun y hy => by
                rcases List.mem_append.1 hy with h | h
                · exact (HP.out.u8 z (by rw [HZe.out, List.getD_eq_getElem?_getD, List.getElem?_eq_getElem (by have := HNB.out; omega)]; exact List.getElem_mem _)) y h
                · exact mkL_u8 j 35 y h) (by rw [hzz]; exact o6) (by rw [hzz]; exact g6)
              have hbl : Below W1.heap.size W1 w6 := (HB.out.trans (HBQ.out.mono hsr)).trans ((((But.refl (fun g => (Value.slice ag gs.length cg).ownBlock = some g) wr).alloc _).grown g6 (fun k _ e => e)).below (by omega) (fun g hg => (HL9.out.own.lt g hg).1))
              refine ⟨⟨j + 1, gs ++ [z ++ mkL j 35], a6, c6, _, by go_num, by omega, by simp, by simpa using hX, ?_, hbl⟩, by simp [intOf]; omega⟩
              rw [HGS.out, gsL_succ, HZe.out]
        · have hje : j = k := by omega
          subst hje
          obtain ⟨W2, hW2⟩ : ∃ W2, W2 = Wk := ⟨_, rfl⟩
          have HG2 : Hid (Lists W2 W1.heap.size (.slice ag gs.length cg) gs gv) := hide (by rw [hW2]; exact hL)
          have HW2 : Hid (Lists W2 w.heap.size (.slice aw ws.length cw) ws wv) := hide (by rw [hW2]; exact HLW.out.below hbel)
          have HB2 : Hid (Below w.heap.size w W2) := hide (by rw [hW2]; exact HBW.out.trans (hbel.mono hS1))
          have HP2 : Hid (Pts W2 base (.slice a j c) bs vals) := hide (HP.out.below HB2.out)
          have HWe2 : Hid (W2 = Wk) := hide hW2
          clear hL hgs hbel HL HB hW2 HLW HWe
          go_wp2_with fail
          go_loopw [10, 11, 12] (fun s10 _ _ wr => ∃ i q : Nat, s10 = .int .i64 i ∧ i ≤ j ∧ wr = W2.drewN q) (fun s10 _ _ _ => j - (intOf s10).toNat)
          case atStart => exact ⟨0, 0, rfl, Nat.zero_le _, by rw [HWe2.out]; rfl⟩
          case round =>
            obtain ⟨i, p, rfl, hi, hw⟩ := hrel
            have HW : Hid _ := hide hw
            by_cases hlt : i < j
            · have hgi : bs[i]? = some (bs.getD i []) := by have := HNB.out; rw [List.getD_eq_getElem?_getD]; simp [show i < bs.length by omega]
              have hzl : ((bs.getD i []).length : Int) ≤ 1048576 := HZ.out _ (List.mem_of_getElem? hgi)
              obtain ⟨M, gm, cm, hM, hmc, hmr⟩ := grown_at HG2.out HGS.out hlt
              obtain ⟨z, hz⟩ : ∃ z, z = bs.getD i [] := ⟨_, rfl⟩
              rw [← hz] at hgi hzl hmc hmr
              obtain ⟨G, ai, cap, hG, hvk, hck, ho, hrow, h0⟩ := HP2.out.at hgi
              obtain ⟨Gw, wa, wc, hGw, _, hwc, how⟩ := HW2.out.cellAt (i := i) (b := z) (by rw [HEW.out]; exact hgi)
              have HMR : Hid _ := hide hmr
              have HQ : Hid (∀ X, Below W2.heap.size W2 X → Calls Tryd.prog 34 #[.slice ai z.length z.length, .slice wa z.length wc] X fun e w' => e = .returned (.bool true) ∧ ∃ m, w' = X.drewN m) := hide (fun X hX => by
                have h9 := bsm_any ai wa z.length z.length z.length wc z z X (hrow.below hX) ((own_row_u8 how (u8_of_mem (HP.out.u8 z (List.mem_of_getElem? hgi)))).below hX) (by omega)
                simpa only [decide_true] using h9)
              subst hM hG hGw
              have HC1 : Hid (∀ q, (W2.drewN q).cell? ⟨G, i, none⟩ = some (.slice ai z.length z.length)) := hide (fun q => cell_drewN hck q)
              have HC2 : Hid (∀ q, (W2.drewN q).cell? ⟨M, i, none⟩ = some (.slice (some ⟨gm, 0, none⟩) (z.length + 70) cm)) := hide (fun q => cell_drewN hmc q)
              have HC3 : Hid (∀ q, (W2.drewN q).cell? ⟨Gw, i, none⟩ = some (.slice wa z.length wc)) := hide (fun q => cell_drewN hwc q)
              clear hmr hgi hvk hck ho hrow h0 hmc hwc how hz
              have hltI : (i : Int) < (j : Int) := by omega
              have hwlI : (i : Int) < (ws.length : Int) := by rw [HEW.out]; have := HNB.out; omega
              have hglI : (i : Int) < (gs.length : Int) := by rw [HGS.out, gsL_len]; omega
              have c1 := HC1.out p
              rw [← hw] at c1
              clear hw
              go_wp2_with fail
              clear c1
              go_loopw [12] (fun s12 wr => ∃ q p : Nat, s12 = .int .i64 (2 * (q : Int)) ∧ q ≤ 35 ∧ wr = W2.drewN p) (fun s12 _ => 70 - (intOf s12).toNat)
              case atStart => exact ⟨0, p, rfl, by decide, HW.out⟩
              case round =>
                clear HW
                obtain ⟨q, p, rfl, hq, hw⟩ := hrel
                have HW : Hid _ := hide hw
                by_cases hlq : q < 35
                · have hlqI : 2 * (q : Int) < 70 := by omega
                  have e2 := HC2.out p
                  have e3 := cell_drewN (HMR.out q hlq).1 p
                  have e4 := cell_drewN (HMR.out q hlq).2 p
                  rw [← hw] at e2 e3 e4
                  simp only [mB0, mB1] at e3 e4
                  clear hw
                  go_wp2
                  exact ⟨⟨q + 1, p, by go_num, by omega, HW.out⟩, by simp [intOf]; omega⟩
                · have hlqI : ¬ 2 * (q : Int) < 70 := by omega
                  have c1 := HC1.out p
                  have c3 := HC3.out p
                  rw [← hw] at c1 c3
                  have HBw : Hid (Below W2.heap.size W2 wr) := hide (by rw [hw]; exact below_drewN (Below.refl _ _) p)
                  clear hw
                  go_wp2_with fail
                  go_quiet ((go_at_call 34; exact Calls.quiet_of (HQ.out _ (below_drewN HBw.out _))))
                  go_wp2
                  exact ⟨⟨i + 1, p + nq, by go_num, by omega, by rw [HW.out]; exact World.drewN_drewN _ _ _⟩, by simp [intOf]; omega⟩
            · have hbw : Below W2.heap.size W2 wr := by rw [hw]; exact below_drewN (Below.refl _ _) p
              have HA0 : Hid (Ap w wr base (.slice a j c) bs vals j aw cw ws wv) := hide ⟨HP2.out.below hbw, HNB.out.symm, HW2.out.below hbw, But.of_below (HB2.out.trans (hbw.mono HB2.out.size))⟩
              have HLT : Hid (∀ x ∈ vals, ∀ g, x.ownBlock = some g → g < w.heap.size) := hide (fun x hx g hg => (HP.out.blocks x hx g hg).2)
              have hltI : ¬ (i : Int) < (j : Int) := by omega
              clear hbw hw HW HP2 HW2 HB2 HG2 HWe2 HGS HBW
              go_wp2_with fail
              go_loopw [13, 14] (fun s13 _ wr => ∃ (i : Nat) (cs : List (List Int)), s13 = .int .i64 i ∧ i ≤ j ∧ Ap w wr base (.slice a j c) cs vals j aw cw ws wv ∧ ∀ r, i ≤ r → cs[r]? = bs[r]?) (fun s13 _ _ => j - (intOf s13).toNat)
              case atStart => exact ⟨0, bs, rfl, Nat.zero_le _, HA0.out, fun _ _ => rfl⟩
              case round =>
                obtain ⟨i, cs, rfl, hi, hA, hcs⟩ := hrel
                clear HA0
                have HA : Hid _ := hide hA
                have HCS : Hid _ := hide hcs
                clear hA hcs
                by_cases hlt : i < j
                · have hltI : (i : Int) < (j : Int) := by omega
                  have HGI : Hid (bs[i]? = some (bs.getD i [])) := hide (by have := HNB.out; rw [List.getD_eq_getElem?_getD]; simp [show i < bs.length by omega])
                  have hzl : ((bs.getD i []).length : Int) ≤ 1048576 := HZ.out _ (List.mem_of_getElem? HGI.out)
                  generalize bs.getD i [] = z at HGI hzl
                  go_wp2_with fail
                  go_loopw [14] (fun s14 wr => ∃ (q : Nat) (cs y : _), s14 = .int .i64 q ∧ q ≤ z.length ∧ Ap w wr base (.slice a j c) cs vals j aw cw ws wv ∧ (∀ r, i < r → cs[r]? = bs[r]?) ∧ cs[i]? = some y ∧ y.length = z.length) (fun s14 _ => z.length - (intOf s14).toNat)
                  case atStart => exact ⟨0, cs, z, rfl, Nat.zero_le _, HA.out, fun r hr => HCS.out r (by omega), (HCS.out i (Nat.le_refl _)).trans HGI.out, rfl⟩
                  case round =>
                    clear HA HCS
                    obtain ⟨q, cs, y, rfl, hq, hA, hcs, hcy, hyl⟩ := hrel
                    have HA : Hid _ := hide hA
                    have HCS : Hid _ := hide hcs
                    have HCY : Hid _ := hide hcy
                    have HYL : Hid _ := hide hyl
                    obtain ⟨G, ai, cap, hG, hvk, hck, ho, hrow, h0⟩ := hA.pts.at hcy
                    have HU : Hid _ := hide (hA.pts.u8 y (List.mem_of_getElem? hcy))
                    have HVK : Hid _ := hide hvk
                    rw [hyl] at hck
                    subst hG
                    clear hA hcs hcy hvk hrow h0
                    by_cases hlq : q < z.length
                    · obtain ⟨g, rfl⟩ := own_someL ho (by omega)
                      have hcz : wr.cell? ⟨g, q, none⟩ = some (.int .u8 (y.getD q 0)) := by rw [ho.cellAt q (by omega)]; simp [hyl, hlq]
                      have hfz := ho.frozenAt q
                      have hu : 0 ≤ y.getD q 0 ∧ y.getD q 0 ≤ 255 := by
                        rw [List.getD_eq_getElem?_getD, List.getElem?_eq_getElem (by omega)]
                        exact HU.out _ (List.getElem_mem _)
                      generalize y.getD q 0 = zz at hcz hu
                      have hw := sub255o hu.1 hu.2
                      have HU2 : Hid _ := hide (HA.out.store HLT.out (i := q) HCY.out HVK.out (y := 255 - zz) (by omega))
                      have hlqI : (q : Int) < (z.length : Int) := by omega
                      clear hu ho hyl
                      go_wp2
                      go_region
                      go_wp2
                      refine ⟨⟨q + 1, _, y.set q (255 - zz), by go_num, by omega, HU2.out.below (below_drewN (Below.refl _ _) 1), fun r hr => ?_, ?_, by rw [List.length_set]; exact HYL.out⟩, by simp [intOf]; omega⟩
                      · rw [List.getElem?_set_ne (by omega)]; exact HCS.out r hr
                      · rw [List.getElem?_set_self ((List.getElem?_eq_some_iff.1 HCY.out).1)]
                    · have hlqI : ¬ (q : Int) < (z.length : Int) := by omega
                      clear ho hyl
                      obtain ⟨Gw, hGw⟩ : ∃ Gw, aw = some ⟨Gw, 0, none⟩ := by
                        obtain ⟨Gw, _, _, e, _⟩ := HA.out.was.cellAt (i := i) (b := z) (by rw [HEW.out]; exact HGI.out)
                        exact ⟨Gw, e⟩
                      subst hGw
                      have HNX : Hid (∀ nq : Nat, ∃ cs : List (List Int), Ap w (wr.drewN nq) base (.slice (some ⟨G, 0, none⟩) j c) cs vals j (some ⟨Gw, 0, none⟩) cw ws wv ∧ ∀ r, i + 1 ≤ r → cs[r]? = bs[r]?) := hide (fun nq => ⟨cs, HA.out.below (below_drewN (Below.refl _ _) nq), fun r hr => HCS.out r (by omega)⟩)
                      have HWL : Hid (ws.length = j) := hide (by rw [HEW.out, HNB.out])
                      have hn1 : ((i : Int) + 1).toNat = i + 1 := by omega
                      by_cases hl1 : i + 1 < j
                      · have hl1I : (i : Int) + 1 < (j : Int) := by omega
                        have hl1W : (i : Int) + 1 < (ws.length : Int) := by rw [HWL.out]; omega
                        have hb1 : bs[i + 1]? = some (bs.getD (i + 1) []) := by have := HNB.out; rw [List.getD_eq_getElem?_getD]; simp [show i + 1 < bs.length by omega]
                        obtain ⟨a1, b1, d1, x1, y1, Q1⟩ := HA.out.q ((HCS.out (i + 1) (by omega)).trans hb1) (by rw [HEW.out]; exact hb1) (HZ.out _ (List.mem_of_getElem? hb1))
                        generalize (bs.getD (i + 1) []).length = n1 at x1 y1 Q1
                        clear hb1
                        by_cases hl2 : i + 2 < j
                        · have hl2I : (i : Int) + 2 < (j : Int) := by omega
                          have hn2 : ((j : Int) - 1).toNat = j - 1 := by omega
                          have hwr : IntKind.i64.wrap ((j : Int) - 1) = (j : Int) - 1 := by rw [IntKind.wrap_i64]; omega
                          have hi1 : (j : Int) - 1 < (j : Int) := by omega
                          have hi1w : (j : Int) - 1 < (ws.length : Int) := by rw [HWL.out]; omega
                          have hi2 : (0 : Int) < (j : Int) := by omega
                          have hi4 : 0 < j := by omega
                          have hi7 : (1 : Int) ≤ (j : Int) := by omega
                          have hi8 : 1 ≤ j := by omega
                          have hi9 : ¬ (j : Int) - 1 < 0 := by omega
                          have hi10 : ¬ (j : Int) < 1 := by omega
                          have hb2 : bs[j - 1]? = some (bs.getD (j - 1) []) := by have := HNB.out; rw [List.getD_eq_getElem?_getD]; simp [show j - 1 < bs.length by omega]
                          obtain ⟨a2, b2, d2, x2, y2, Q2⟩ := HA.out.q ((HCS.out (j - 1) (by omega)).trans hb2) (by rw [HEW.out]; exact hb2) (HZ.out _ (List.mem_of_getElem? hb2))
                          generalize (bs.getD (j - 1) []).length = n2 at x2 y2 Q2
                          clear hb2
                          go_wp2_with fail
                          go_quiet ((go_at_call 34; exact Calls.quiet_of (Q1.out _ (below_drewN (Below.refl _ _) _))))
                          rename Nat => nq1
                          have X2 : (wr.drewN nq1).cell? ⟨G, j - 1, none⟩ = some (.slice a2 n2 n2) := cell_drewN x2 nq1
                          have Y2 : (wr.drewN nq1).cell? ⟨Gw, j - 1, none⟩ = some (.slice b2 n2 d2) := cell_drewN y2 nq1
                          have Q3 : Hid (∀ X, Below (wr.drewN nq1).heap.size (wr.drewN nq1) X → Calls Tryd.prog 34 #[.slice a2 n2 n2, .slice b2 n2 d2] X fun e w' => e = .returned (.bool true) ∧ ∃ m, w' = X.drewN m) := hide (fun X hX => Q2.out X ((below_drewN (Below.refl wr.heap.size wr) nq1).trans (hX.mono (below_drewN (Below.refl wr.heap.size wr) nq1).size)))
                          have HN3 : Hid (∀ nq : Nat, ∃ cs : List (List Int), Ap w ((wr.drewN nq1).drewN nq) base (.slice (some ⟨G, 0, none⟩) j c) cs vals j (some ⟨Gw, 0, none⟩) cw ws wv ∧ ∀ r, i + 1 ≤ r → cs[r]? = bs[r]?) := hide (fun nq => by obtain ⟨cs', h1, h2⟩ := HNX.out nq1; exact ⟨cs', h1.below (below_drewN (Below.refl _ _) nq), h2⟩)
                          clear x1 y1 Q1 x2 y2 Q2 HNX hl1I hl1W
                          generalize wr.drewN nq1 = W9 at X2 Y2 Q3 HN3 ⊢
                          go_wp2_with fail
                          go_quiet ((go_at_call 34; exact Calls.quiet_of (Q3.out _ (below_drewN (Below.refl _ _) _))))
                          go_wp2
                          obtain ⟨cs', h1, h2⟩ := HN3.out nq
                          exact ⟨⟨i + 1, cs', by go_num, by omega, h1, h2⟩, by simp [intOf]; omega⟩
                        · have hl2I : decide ((i : Int) + 2 < (j : Int)) = false := decide_eq_false (by omega)
                          have hl2J : ¬ (i : Int) + 2 < (j : Int) := by omega
                          go_wp2_with fail
                          go_quiet ((go_at_call 34; exact Calls.quiet_of (Q1.out _ (below_drewN (Below.refl _ _) _))))
                          rename Nat => nq1
                          have HN3 : Hid (∀ nq : Nat, ∃ cs : List (List Int), Ap w ((wr.drewN nq1).drewN nq) base (.slice (some ⟨G, 0, none⟩) j c) cs vals j (some ⟨Gw, 0, none⟩) cw ws wv ∧ ∀ r, i + 1 ≤ r → cs[r]? = bs[r]?) := hide (fun nq => by obtain ⟨cs', h1, h2⟩ := HNX.out nq1; exact ⟨cs', h1.below (below_drewN (Below.refl _ _) nq), h2⟩)
                          clear x1 y1 Q1 HNX hl1I hl1W
                          generalize wr.drewN nq1 = W9 at HN3 ⊢
                          go_wp2_with fail
                          go_quiet (fail)
                          go_wp2
                          obtain ⟨cs', h1, h2⟩ := HN3.out nq
                          exact ⟨⟨i + 1, cs', by go_num, by omega, h1, h2⟩, by simp [intOf]; omega⟩
                      · have hl1I : decide ((i : Int) + 1 < (j : Int)) = false := decide_eq_false (by omega)
                        have hl1J : ¬ (i : Int) + 1 < (j : Int) := by omega
                        have hl2I : decide ((i : Int) + 2 < (j : Int)) = false := decide_eq_false (by omega)
                        have hl2J : ¬ (i : Int) + 2 < (j : Int) := by omega
                        go_wp2_with fail
                        go_quiet (fail)
                        rename Nat => nq1
                        have HN3 : Hid (∀ nq : Nat, ∃ cs : List (List Int), Ap w ((wr.drewN nq1).drewN nq) base (.slice (some ⟨G, 0, none⟩) j c) cs vals j (some ⟨Gw, 0, none⟩) cw ws wv ∧ ∀ r, i + 1 ≤ r → cs[r]? = bs[r]?) := hide (fun nq => by obtain ⟨cs', h1, h2⟩ := HNX.out nq1; exact ⟨cs', h1.below (below_drewN (Below.refl _ _) nq), h2⟩)
                        clear HNX
                        generalize wr.drewN nq1 = W9 at HN3 ⊢
                        go_wp2_with fail
                        go_quiet (fail)
                        go_wp2
                        obtain ⟨cs', h1, h2⟩ := HN3.out nq
                        exact ⟨⟨i + 1, cs', by go_num, by omega, h1, h2⟩, by simp [intOf]; omega⟩
                · have hltI : ¬ (i : Int) < (j : Int) := by omega
                  go_wp2
                  go_ret
                  exact ⟨rfl, HA.out.but⟩
end Go.Proofs.YtdppbaipmmcjbaaDoor
