/-
  HeapRows: the walk.
-/
import Derived.Test.YtdmlehbamdcjcaaRwA
import Derived.Test.YtdmlehbamdcjcaaAliv
import Derived.Test.YtdmlehbamdcjcaaOpenM
namespace Go.Proofs.Ytdmlehbamdcjcaa
open Go.RowKit
theorem Sits.below {α : Type} {y : Lay α} {w w' : World} {s : Sl} {C : List α} (h : Sits y w s C) (hb : Below w.heap.size w w') : Sits y w' s C := ⟨h.row.below hb, h.nil, h.cap⟩
set_option maxRecDepth 8000 in
set_option maxHeartbeats 12800000 in
theorem heapRows (w : World) (a : Option Addr) (N c : Nat) (ss : List Sl) (Ks : List (List Int)) (hr : TRow laySl w a N ss) (hKl : Ks.length = N) (hS : ∀ (j : Nat) (s : Sl) (C : List Int), ss[j]? = some s → Ks[j]? = some C → Sits layN w s C) (hN : (N : Int) ≤ 1048576) (hT : (total Ks : Int) ≤ 1048576) :
    Calls Try.prog 6 #[.slice a N c] w fun r w' => r = .returned (.bool true) ∧ Below w.heap.size w w' := by
  obtain ⟨i0, hi, hz0, hz1, hz2⟩ := info_parts Try.infoTI
  obtain ⟨i1, hi1, hy0, hy1, hy2⟩ := info_parts Try.infoSI
  have HSS : Hid (ss.length = N) := hide hr.len
  have HKL : Hid _ := hide hKl
  have HSI : Hid _ := hide hS
  have HR : Hid _ := hide hr
  have HTT : Hid _ := hide hT
  clear hKl hS hr hT
  go_enter Try.func6, Try.ntmps6
  go_wp2_with fail
  refine (alive_any _).mono ?_
  rintro e0 w1 ⟨rfl, hb1⟩
  have HB1 : Hid _ := hide hb1
  clear hb1
  go_wp2_with fail
  go_loopw [4, 5, 6, 7] (fun sa so sl si wr => ∃ (i : Nat) (us ts : List Sl), si = .int .i64 i ∧ i ≤ N ∧ Rws wr w.heap.size sa so sl us ts (itR (Ks.take i) 0) ((itR (Ks.take i) 0).map sItems) ((itR (Ks.take i) 0).map sItems).flatten ∧ Below w.heap.size w wr) (fun _ _ _ si _ => N - (intOf si).toNat)
  case atStart => exact ⟨0, [], [], rfl, Nat.zero_le _, by simpa [itR] using Rws.nil _ _, HB1.out⟩
  case round =>
    obtain ⟨i, us, ts, rfl, hiN, hrw, hb⟩ := hrel
    rename World => wi
    have HW : Hid _ := hide hrw
    have HB : Hid _ := hide hb
    clear hrw hb HB1 w1
    by_cases hlt : i < N
    · have hltI : (i : Int) < (N : Int) := by omega
      obtain ⟨s, hs⟩ : ∃ s, ss[i]? = some s := ⟨_, List.getElem?_eq_getElem (by rw [HSS.out]; exact hlt)⟩
      obtain ⟨K, hK⟩ : ∃ K, Ks[i]? = some K := ⟨_, List.getElem?_eq_getElem (by rw [HKL.out]; exact hlt)⟩
      obtain ⟨lb, lo, rfl, _, hcL⟩ := (HR.out.below HB.out).at (by omega)
      have x0 := hcL i s hs 0 _ rfl
      simp only [laySl, Nat.mul_one, Nat.add_zero] at x0
      have hsit := (HSI.out i s K hs hK).below HB.out
      obtain ⟨sa, sn, sc⟩ := s
      have hKn : K.length = sn := hsit.row.len
      have hsn : (sn : Int) ≤ 1048576 := by have h1 := len_total hK; have h2 := HTT.out; omega
      have HX : Hid (∀ W, Below wi.heap.size wi W → W.cell? ⟨lb, lo + i, none⟩ = some (.slice sa sn sc)) := hide (fun W hW => (hW.cell (p := ⟨lb, lo + i, none⟩) (World.block_lt_of_cell? _ _ x0)).trans x0)
      have HST : Hid _ := hide hsit
      have HKN : Hid _ := hide hKn
      have HKK : Hid _ := hide hK
      clear hs hK hcL hsit hKn x0
      go_wp2_with fail
      go_loopw [8, 9] (fun sl sk wr => ∃ k : Nat, sk = .int .i64 k ∧ k ≤ sn ∧ Own layI 27 wr wi.heap.size sl ((K.take k).map fun v => (⟨v, i⟩ : It)) ∧ Below wi.heap.size wi wr) (fun _ sk _ => sn - (intOf sk).toNat)
      case atStart => exact ⟨0, rfl, Nat.zero_le _, by simpa using Own.nil _ _ _ _, Below.refl _ _⟩
      case round =>
        obtain ⟨k, rfl, hk, ho, hb⟩ := hrel
        rename World => wk
        have HO : Hid _ := hide ho
        have HBK : Hid _ := hide hb
        have x0 := HX.out _ hb
        clear ho hb
        by_cases hlk : k < sn
        · have hlkI : (k : Int) < (sn : Int) := by omega
          obtain ⟨x, hx⟩ : ∃ x, K[k]? = some x := ⟨_, List.getElem?_eq_getElem (by rw [HKN.out]; exact hlk)⟩
          obtain ⟨tb, tf, hta, _, hcT⟩ := (HST.out.below HBK.out).row.at (by show 0 < sn; omega)
          have hta' : sa = some ⟨tb, tf, none⟩ := hta
          subst hta'
          have z0 := hcT k x hx 0 _ rfl
          simp only [layN, Nat.mul_one, Nat.add_zero] at z0
          have hlK : ((K.take k).map fun v => (⟨v, i⟩ : It)).length = k := by rw [List.length_map, List.length_take, HKN.out]; omega
          have HLK : Hid _ := hide hlK
          have HXX : Hid _ := hide hx
          clear hta hcT hx hlK
          go_wp2_with (at_builtin; refine append_lay layI _ 23 27 i0 _ 16 Try.underlying23 hi hz0 hz1 hz2 rfl rfl (.tmp 33) (.tmp 43) rfl wi.heap.size _ _ rfl (HO.out.below (below_alloc1 _ _)) _ _ _ [(⟨x, i⟩ : It)] rfl (TRow.one (heap_new _ _)) (fun e => by cases e) (by rw [HLK.out]; unfold maxLen; omega) (by rw [HLK.out]; omega) (by simp; have := HBK.out.size; omega) ?_; intro v2 w2 hown2 hgr2 hl2)
          refine ⟨⟨k + 1, by go_num, by omega, ?_, (HBK.out.alloc HBK.out.size _).grown hgr2 (by simp; have := HBK.out.size; omega) (fun q hq => (HO.out.lt q hq).1)⟩, by simp [intOf]; omega⟩
          rw [take_snoc HXX.out, List.map_append]
          exact hown2
        · have hlkI : ¬ (k : Int) < (sn : Int) := by omega
          have h9 := HO.out
          rw [List.take_of_length_le (by rw [HKN.out]; omega)] at h9
          obtain ⟨C, hC⟩ : ∃ C, C = K.map fun v => (⟨v, i⟩ : It) := ⟨_, rfl⟩
          rw [← hC] at h9
          have hCl : C.length = sn := by rw [hC, List.length_map]; exact HKN.out
          obtain ⟨la, lc, hvl, hl0, _⟩ := own_form h9
          rw [hCl] at hvl hl0
          subst hvl
          have HCM : Hid _ := hide hC
          have HCL : Hid _ := hide hCl
          have HL0 : Hid _ := hide hl0
          have HL : Hid (Own layI 27 wk wi.heap.size (sv ⟨la, sn, lc⟩) C) := hide h9
          have RW : Hid _ := hide (HW.out.below HBK.out)
          have BW : Hid _ := hide (HB.out.trans (HBK.out.mono HB.out.size))
          have NE : Hid (∀ g, (sv ⟨la, sn, lc⟩).ownBlock = some g → u6.ownBlock ≠ some g) := hide (fun g e1 e2 => by
            have h1 := (HL.out.lt g e1).1
            have h2 := (HW.out.ol.lt g e2).2
            omega)
          have HUL : Hid (us.length = i) := hide (by rw [HW.out.la, itR_len, List.length_take, HKL.out]; omega)
          have HTL : Hid (ts.length = i) := hide (by rw [HW.out.ls, List.length_map, itR_len, List.length_take, HKL.out]; omega)
          have HLL : Hid ((((itR (Ks.take i) 0).map sItems).flatten.length : Int) ≤ 1048576) := hide (by
            have h1 := HTT.out
            have h2 := total_take Ks i
            rw [← total_flat, total_map _ sItems_len, total_itR]
            omega)
          clear h9 hC hCl hl0 HO HX HBK
          go_wp2_with (at_builtin; refine append_lay laySl _ 22 23 i1 _ 24 Try.underlying22 hi1 hy0 hy1 hy2 rfl rfl (.tmp 45) (.tmp 47) rfl w.heap.size _ _ rfl (RW.out.oa.below (below_alloc1 _ _)) _ _ _ [(⟨la, sn, lc⟩ : Sl)] rfl (TRow.one (heap_new _ _)) (fun e => by cases e) (by rw [HUL.out]; unfold maxLen; omega) (by rw [HUL.out]; omega) (by simp; have := BW.out.size; omega) ?_; intro v3 w3 hown3 hgr3 hl3)
          have R3 : Hid _ := hide ((RW.out.below (below_alloc1 _ _)).pushA ((HL.out.below (below_alloc1 _ _)).mono HB.out.size) NE.out hown3 hgr3 hl3)
          have B3 : Hid (Below w.heap.size w w3) := hide ((BW.out.alloc BW.out.size _).grown hgr3 (by simp; have := BW.out.size; omega) (fun q hq => (RW.out.oa.lt q hq).1))
          have L3 := (R3.out.lastA).row HCL.out
          have ST := sort_items w3 la sn lc C L3 (by omega)
          clear hown3 hgr3 hl3 L3 HW HL RW NE x0
          go_wp2_with fail
          refine ST.mono ?_
          rintro e4 w4 ⟨g4, rfl, hg4, o4, b4⟩
          have R4 : Hid _ := hide (R3.out.below b4)
          have B4 : Hid _ := hide (B3.out.trans (b4.mono B3.out.size))
          have O4 : Hid (Own layI 27 w4 w3.heap.size (sv ⟨some ⟨g4, 0, none⟩, sn, sn⟩) (sItems C)) := hide o4
          have NE4 : Hid (∀ g, (sv ⟨some ⟨g4, 0, none⟩, sn, sn⟩).ownBlock = some g → u6.ownBlock ≠ some g) := hide (fun g e1 e2 => by
            have h1 := (O4.out.lt g e1).1
            have h2 := (R3.out.ol.lt g e2).2
            omega)
          clear ST o4 b4
          go_upto_region 17 with (at_builtin; refine append_lay laySl _ 22 23 i1 _ 24 Try.underlying22 hi1 hy0 hy1 hy2 rfl rfl (.tmp 51) (.tmp 53) rfl w.heap.size _ _ rfl (R4.out.os.below (below_alloc1 _ _)) _ _ _ [(⟨some ⟨g4, 0, none⟩, sn, sn⟩ : Sl)] rfl (TRow.one (heap_new _ _)) (fun e => by cases e) (by rw [HTL.out]; unfold maxLen; omega) (by rw [HTL.out]; omega) (by simp; have := B4.out.size; omega) ?_; intro v5 w5 hown5 hgr5 hl5)
          have R5 : Hid _ := hide ((R4.out.below (below_alloc1 _ _)).pushB ((O4.out.below (below_alloc1 _ _)).mono B3.out.size) NE4.out hown5 hgr5 hl5)
          have B5 : Hid (Below w.heap.size w w5) := hide ((B4.out.alloc B4.out.size _).grown hgr5 (by simp; have := B4.out.size; omega) (fun q hq => (R4.out.os.lt q hq).1))
          clear hown5 hgr5 hl5 O4 NE4 R3 B3 R4 B4
          go_upto_region 18 with (at_builtin; refine append_lay layI _ 23 27 i0 _ 16 Try.underlying23 hi hz0 hz1 hz2 rfl rfl (.tmp 55) (.tmp 56) rfl w.heap.size _ _ rfl R5.out.ol _ _ _ (sItems C) rfl (R5.out.lastB.row ((sItems_len C).trans HCL.out)) (fun e => by cases e) (by have := HLL.out; unfold maxLen; omega) (by have := HLL.out; omega) (by have := B5.out.size; omega) ?_; intro v6 w6 hown6 hgr6 hl6)
          have R6 : Hid _ := hide (R5.out.pushL hown6 hgr6 hl6)
          have B6 : Hid (Below w.heap.size w w6) := hide (B5.out.grown hgr6 B5.out.size (fun q hq => (R5.out.ol.lt q hq).1))
          have L6 := R6.out.lastA.below (below_alloc1 w6 (.cells #[.slice la sn lc] 23 (0, 0)))
          have MG := mergeI (w6.alloc (.cells #[.slice la sn lc] 23 (0, 0))) (some ⟨w6.heap.size, 0, none⟩) 1 1 [(⟨la, sn, lc⟩ : Sl)] [C] (TRow.one (heap_new _ _)) (fun e => by cases e) rfl (fun j s D h1 h2 => by
            have hj := get_lt h1
            have hj0 : j = 0 := by simpa using hj
            subst hj0
            simp at h1 h2
            subst h1
            subst h2
            exact own_sits L6) (by omega) (by have := HCL.out; simp [total]; omega)
          clear hown6 hgr6 hl6 R5 B5 L6
          go_wp2_with fail
          refine MG.mono ?_
          rintro e7 w7 ⟨v7, O7, rfl, o7, m7, b7⟩
          have hOC := mrg_one m7
          subst hOC
          have b7' : Below w6.heap.size w6 w7 := (below_alloc1 w6 _).trans (b7.mono (by simp))
          have R7 : Hid _ := hide (R6.out.below b7')
          have B7 : Hid _ := hide (B6.out.trans (b7'.mono B6.out.size))
          obtain ⟨a7, c7, hv7, _, _⟩ := own_form o7
          rw [HCL.out] at hv7
          subst hv7
          have SM := sameI a7 la sn c7 lc O7 w7 (o7.row HCL.out) (R7.out.lastA.row HCL.out) (by omega)
          clear MG o7 m7 b7 b7' R6 B6
          go_wp2_with fail
          refine SM.mono ?_
          rintro e8 w8 ⟨rfl, b8⟩
          have R8 : Hid _ := hide (R7.out.below b8)
          have B8 : Hid _ := hide (B7.out.trans (b8.mono B7.out.size))
          clear SM b8 R7 B7
          go_wp2_with fail
          refine ⟨⟨i + 1, us ++ [(⟨la, sn, lc⟩ : Sl)], ts ++ [(⟨some ⟨g4, 0, none⟩, sn, sn⟩ : Sl)], by go_num, by omega, ?_, B8.out⟩, by simp [intOf]; omega⟩
          have e9 : itR (Ks.take (i + 1)) 0 = itR (Ks.take i) 0 ++ [O7] := by rw [itR_snoc HKK.out, ← HCM.out]
          rw [e9, List.map_append, List.flatten_append]
          simpa using R8.out
    · have hltI : ¬ (i : Int) < (N : Int) := by omega
      have hrw := HW.out
      rw [List.take_of_length_le (by rw [HKL.out]; omega)] at hrw
      obtain ⟨Cs, hCs⟩ : ∃ Cs, Cs = itR Ks 0 := ⟨_, rfl⟩
      rw [← hCs] at hrw
      have hCl : Cs.length = N := by rw [hCs, itR_len]; exact HKL.out
      have hTC : (total Cs : Int) ≤ 1048576 := by rw [hCs, total_itR]; exact HTT.out
      obtain ⟨L, hL⟩ : ∃ L, L = (Cs.map sItems).flatten := ⟨_, rfl⟩
      rw [← hL] at hrw
      obtain ⟨T, hTT⟩ : ∃ T, T = total Cs := ⟨_, rfl⟩
      have hLT : L.length = T := by rw [hL, ← total_flat, total_map _ sItems_len, hTT]
      rw [← hTT] at hTC
      have HGET : Hid (∀ (j : Nat) (C : List It), Cs[j]? = some C → ∃ K, Ks[j]? = some K ∧ C = K.map fun v => (⟨v, j⟩ : It)) := hide (fun j C h1 => by
        rw [hCs, itR_get] at h1
        obtain ⟨K, k1, k2⟩ := Option.map_eq_some_iff.1 h1
        exact ⟨K, k1, by rw [← k2, Int.zero_add]⟩)
      obtain ⟨aa, ca, hva, hna, _⟩ := own_form hrw.oa
      obtain ⟨ao, co, hvs, hns, _⟩ := own_form hrw.os
      obtain ⟨al, cl, hvl, _, _⟩ := own_form hrw.ol
      have hUL : us.length = N := by rw [hrw.la]; exact hCl
      have hTL : ts.length = N := by rw [hrw.ls, List.length_map]; exact hCl
      rw [hUL] at hva hna
      rw [hTL] at hvs hns
      rw [hLT] at hvl
      subst hva hvs hvl
      have MG1 := mergeI wi ao N co ts (Cs.map sItems) (hrw.os.row hTL) hns (by rw [List.length_map]; exact hCl) (fun j s C h1 h2 => own_sits (hrw.rs j s C h1 h2).1) (by omega) (by rw [total_map _ sItems_len, ← hTT]; omega)
      have R1 : Hid _ := hide hrw
      have HNA : Hid _ := hide hna
      have HUL : Hid _ := hide hUL
      have HCL : Hid _ := hide hCl
      have HLT : Hid _ := hide hLT
      have HTE : Hid _ := hide hTT
      have HLE : Hid _ := hide hL
      clear hrw hna hns hUL hTL hCl hLT hTT hL hCs HW
      go_wp2_with fail
      refine MG1.mono ?_
      rintro e2 w2 ⟨v2, O2, rfl, o2, m2, b2⟩
      have hO2 : O2 = sItems L := by
        rw [HLE.out]
        exact mrg_sorted m2 (fun C hC => by
          obtain ⟨D, _, rfl⟩ := List.mem_map.1 hC
          exact sItems_srt D)
      subst hO2
      have hl2 : (sItems L).length = T := (sItems_len L).trans HLT.out
      obtain ⟨a2, c2, hv2, _, _⟩ := own_form o2
      rw [hl2] at hv2
      subst hv2
      have R2 : Hid _ := hide (R1.out.below b2)
      have B2 : Hid _ := hide (HB.out.trans (b2.mono HB.out.size))
      have O2 : Hid _ := hide o2
      have HL2 : Hid _ := hide hl2
      have ST := sort_items w2 al T cl L (R2.out.ol.row HLT.out) (by omega)
      clear MG1 o2 m2 b2 hl2 R1 HB
      go_wp2_with fail
      refine ST.mono ?_
      rintro e3 w3 ⟨g3, rfl, hg3, o3, b3⟩
      have R3 : Hid _ := hide (R2.out.below b3)
      have B3 : Hid _ := hide (B2.out.trans (b3.mono B2.out.size))
      have SM := sameI a2 (some ⟨g3, 0, none⟩) T c2 T (sItems L) w3 ((O2.out.below b3).row HL2.out) (o3.row HL2.out) (by omega)
      clear ST o3 b3 R2 B2 O2 HL2
      go_wp2_with fail
      refine SM.mono ?_
      rintro e4 w4 ⟨rfl, b4⟩
      have R4 : Hid _ := hide (R3.out.below b4)
      have B4 : Hid _ := hide (B3.out.trans (b4.mono B3.out.size))
      have MG := mergeI w4 aa N ca us Cs (R4.out.oa.row HUL.out) HNA.out HCL.out (fun j s C h1 h2 => own_sits (R4.out.ra j s C h1 h2).1) (by omega) (by rw [← HTE.out]; omega)
      clear SM b4 R3 B3 hg3
      go_wp2_with fail
      refine MG.mono ?_
      rintro e5 w5 ⟨v5, O5, rfl, o5, m5, b5⟩
      have hl5 : O5.length = T := by rw [m5.length]; exact HTE.out.symm
      obtain ⟨a5, c5, hv5, _, _⟩ := own_form o5
      rw [hl5] at hv5
      subst hv5
      have B5 : Hid _ := hide (B4.out.trans (b5.mono B4.out.size))
      have R5 : Hid _ := hide (o5.row hl5)
      have M5 : Hid _ := hide m5
      have HL5 : Hid _ := hide hl5
      obtain ⟨i2, hi2, hx0, hx1, hx2⟩ := info_parts Try.info3m
      clear MG o5 m5 b5 hl5 R4 B4
      go_wp2_with (at_make; refine wpList_make_full _ rfl _ _ 31 rfl w5.heap.size 3 i2 (.int .i64 0) 1 Try.underlying31 hi2 hx0 hx1 _ _ _ _ N rfl rfl rfl rfl ?b2 ?b3 (Nat.le_refl _) ?_)
      case b2 => rw [hx2]; omega
      case b3 => unfold maxLen; omega
      intro w6 hown6 hgr6
      have O6 : Own layN 3 w6 w5.heap.size (.slice (some ⟨w5.heap.size, 0, none⟩) N N) (List.replicate N (0 : Int)) := by
        have h9 := made_fl layN 0 N
        rw [show N * layN.z = N from Nat.mul_one N] at h9
        unfold Own
        rw [List.length_replicate, ← h9]
        exact hown6
      have HO6 : Hid _ := hide O6
      have HB6 : Hid (Below w5.heap.size w5 w6) := hide ((Below.refl _ _).grown hgr6 (Nat.le_refl _) (fun k h => by cases h))
      clear O6 hown6 hgr6
      go_wp2_with fail
      go_loopw [13] (fun si wr => ∃ (q : Nat) (A : List Int) (cur : List (List It)), si = .int .i64 q ∧ q ≤ T ∧ Own layN 3 wr w5.heap.size (.slice (some ⟨w5.heap.size, 0, none⟩) N N) A ∧ CurI Cs A cur ∧ Mrg (fst bfI) cur (O5.drop q) ∧ Below w5.heap.size w5 wr) (fun si _ => T - (intOf si).toNat)
      case atStart => exact ⟨0, _, Cs, rfl, Nat.zero_le _, HO6.out, by have := cur_zero Cs; rw [HCL.out] at this; exact this, by simpa using M5.out, HB6.out⟩
      case round =>
        obtain ⟨q, A, cur, rfl, hqT, hat, hcu, hmr, hb⟩ := hrel
        rename World => wq
        have HA : Hid _ := hide hat
        have HC : Hid _ := hide hcu
        have HM : Hid _ := hide hmr
        have HB : Hid _ := hide hb
        clear hat hcu hmr hb
        by_cases hqt : q < T
        · have hqI : (q : Int) < (T : Int) := by omega
          obtain ⟨x, hx⟩ : ∃ x, O5[q]? = some x := ⟨_, List.getElem?_eq_getElem (by rw [HL5.out]; exact hqt)⟩
          have hdr : O5.drop q = x :: O5.drop (q + 1) := by
            rw [List.drop_eq_getElem_cons (by rw [HL5.out]; exact hqt)]
            congr 1
            rw [List.getElem?_eq_getElem (by rw [HL5.out]; exact hqt)] at hx
            exact Option.some.inj hx
          have hmr := HM.out
          rw [hdr] at hmr
          obtain ⟨k, t, hck, hmt⟩ := mrg_step hmr
          have hkN : k < N := by have h1 := get_lt hck; have h2 := HC.out.lc; have h3 := HCL.out; omega
          have hkI : (k : Int) < (N : Int) := by omega
          obtain ⟨C, hC⟩ : ∃ C, Cs[k]? = some C := ⟨_, List.getElem?_eq_getElem (by rw [HCL.out]; exact hkN)⟩
          obtain ⟨p, hp, _, _⟩ := HC.out.pos k C hC
          obtain ⟨hxC, hcu2⟩ := HC.out.step hC hp hck
          obtain ⟨K, hK, hCK⟩ := HGET.out k C hC
          obtain ⟨s, hs⟩ : ∃ s, ss[k]? = some s := ⟨_, List.getElem?_eq_getElem (by rw [HSS.out]; exact hkN)⟩
          have hxK : (K[p]?).map (fun v => (⟨v, k⟩ : It)) = some x := by rw [hCK, List.getElem?_map] at hxC; exact hxC
          obtain ⟨y, hy, hyx⟩ := Option.map_eq_some_iff.1 hxK
          subst hyx
          have BW := B5.out.trans (HB.out.mono B5.out.size)
          have hsit := (HSI.out k s K hs hK).below BW
          obtain ⟨lb, lo, hla, _, hcL⟩ := (HR.out.below BW).at (by omega)
          subst hla
          have x0 := hcL k s hs 0 _ rfl
          obtain ⟨sa, sn, sc⟩ := s
          have hKn : K.length = sn := hsit.row.len
          have hpn : p < sn := by have h1 := get_lt hy; omega
          have hpI : (p : Int) < (sn : Int) := by omega
          have hsnI : (sn : Int) ≤ 1048576 := by have h1 := len_total hK; have h2 := HTT.out; omega
          obtain ⟨tb, tf, hta, _, hcT⟩ := hsit.row.at (by show 0 < sn; omega)
          have hta' : sa = some ⟨tb, tf, none⟩ := hta
          subst hta'
          have z0 := hcT p y hy 0 _ rfl
          obtain ⟨mb, mo, hma, _, hcM⟩ := (R5.out.below HB.out).at (by omega)
          subst hma
          have m0 := hcM q _ hx 0 _ rfl
          have m1 := hcM q _ hx 1 _ rfl
          have y0 := HA.out.cell hp 0 rfl
          simp only [laySl, layN, layI, Nat.mul_one, Nat.add_zero] at x0 y0 z0 m0 m1
          have d1 : decide ((k : Int) < 0) = false := decide_eq_false (by omega)
          have d2 : decide ((N : Int) ≤ (k : Int)) = false := decide_eq_false (by omega)
          have d3 : decide (N ≤ k) = false := decide_eq_false (by omega)
          have d4 : decide ((sn : Int) ≤ (p : Int)) = false := decide_eq_false (by omega)
          have d5 : decide (sn ≤ p) = false := decide_eq_false (by omega)
          have HP : Hid _ := hide hp
          have HC2 : Hid _ := hide hcu2
          have HM2 : Hid _ := hide hmt
          clear hx hdr hmr hck hmt hC hp hxC hcu2 hK hCK hs hxK hy hsit hcL hKn hta hcT hcM BW
          go_upto_region 28 with fail
          go_quiet (fail)
          obtain ⟨w7, hw7⟩ : ∃ w7, w7 = wq.drewN nq := ⟨_, rfl⟩
          have b7 : Below wq.heap.size wq w7 := by rw [hw7]; exact below_drewN (Below.refl _ _) _
          rw [← hw7]
          clear hw7 x0 y0 z0 m0 m1 d1 d2 d3 d4 d5
          have HA7 : Hid _ := hide (HA.out.below b7)
          have HB7 : Hid _ := hide (HB.out.trans (b7.mono HB.out.size))
          have y3 := HA7.out.cell HP.out 0 rfl
          have f3 := HA7.out.frozen k
          simp only [layN, Nat.mul_one, Nat.add_zero] at y3
          have HAL : Hid (A.length = N) := hide (by rw [HC.out.la]; exact HCL.out)
          clear b7
          go_wp2_with fail
          obtain ⟨w8, hw8⟩ : ∃ w8, w8 = setC w7 w5.heap.size k [.int .i64 ((p : Int) + 1)] := ⟨_, rfl⟩
          have hw8' : w7.setCell ⟨w5.heap.size, k, none⟩ (.int .i64 ((p : Int) + 1)) = w8 := by rw [hw8]; rfl
          rw [hw8']
          have b8 : But (fun b => b = w5.heap.size) w7 w8 := by rw [hw8]; exact (But.refl (fun b => b = w5.heap.size) w7).setC _ (fun _ => rfl)
          have O8 : Own layN 3 w8 w5.heap.size (.slice (some ⟨w5.heap.size, 0, none⟩) N N) (A.set k ((p + 1 : Nat) : Int)) := by
            have h9 := HA7.out.set HAL.out (i := k) (by rw [HAL.out]; exact hkN) ((p + 1 : Nat) : Int)
            rw [hw8]
            simpa [layN] using h9
          exact ⟨⟨q + 1, _, _, by go_num, by omega, O8, HC2.out, HM2.out, HB7.out.trans (b8.below HB7.out.size (fun b hb => Nat.le_of_eq hb.symm))⟩, by simp [intOf]; omega⟩
        · have hqI : ¬ (q : Int) < (T : Int) := by omega
          go_wp2_with fail
          go_ret
          exact ⟨rfl, B5.out.trans (HB.out.mono B5.out.size)⟩
end Go.Proofs.Ytdmlehbamdcjcaa
