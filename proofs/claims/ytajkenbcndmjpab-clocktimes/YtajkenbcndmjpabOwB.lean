/-
  The law's own: the walk.
-/
import Derived.Test.YtajkenbcndmjpabOwA
namespace Go.Proofs.Ytajkenbcndmjpab
open Go.RowKit
set_option maxRecDepth 100000 in
set_option maxHeartbeats 16000000 in
theorem own_any {w : World} {va vb : Value} {A B : List Tk} (k : Int) (ha : CV w va A) (hb : CV w vb B) (hf : fits A) (hk0 : 0 ≤ k) (hk1 : k < 65536) : Calls Try.prog 18 #[va, vb, .int .i64 k] w fun e w' => e = .returned (.bool true) ∧ Below w.heap.size w w' := by
  obtain ⟨i0, hi, hz0, hz1, hz2⟩ := info_parts Try.infoT
  obtain ⟨a, n, c, rfl, h1⟩ := ha.cl.ex
  have HA := hide ha.cl
  have HG := hide ha.gd
  have HBv := hide hb
  have HF := hide hf
  have HT := hide h1.row
  have H0 := hide h1.frm
  have HLn : Hid (A.length = n) := hide h1.row.len
  have hnI : (n : Int) ≤ 65536 := by have := gd_len0 ha.gd; have := h1.row.len; omega
  have HnI := hide hnI
  have HN := hide num_any
  have HK := hide (And.intro hk0 hk1)
  obtain ⟨T, hT⟩ : ∃ T, tm k A = T := ⟨_, rfl⟩
  have HTm := hide hT
  have HT0 : Hid (0 ≤ T) := hide (by rw [← hT]; exact tm_pos ha.gd)
  clear ha hb hf h1 hk0 hk1 hT
  go_enter Try.func18, Try.ntmps18
  go_wp2_with (at_builtin; refine append_lay layT _ 22 43 i0 _ 16 Try.underlying22 hi hz0 hz1 hz2 rfl rfl (.tmp 28) (.tmp 29) rfl w.heap.size (.slice none 0 0) [] rfl (Own.nil _ _ _ _) a n c A rfl HT.out H0.out ?b1 ?b2 (Nat.le_refl _) ?_)
  case b1 => unfold maxLen; have := HnI.out; simp; omega
  case b2 => have := HnI.out; simp; omega
  intro v1 w1 o1 g1 l1
  have HO1 : Hid (OwnT w1 w.heap.size v1 A) := hide (by simpa using o1)
  have HB1 := hide ((Below.refl w.heap.size w).grown g1 (Nat.le_refl _) (fun q hq => by cases hq))
  clear o1 g1 l1
  go_wp2_with (first
    | (at_builtin; refine append_lay layT _ 22 43 i0 _ 16 Try.underlying22 hi hz0 hz1 hz2 rfl rfl (.tmp 31) (.tmp 33) rfl w.heap.size _ A rfl (HO1.out.below (below_alloc1 _ _)) (some ⟨w1.heap.size, 0, none⟩) 1 1 [⟨-9, -9⟩] rfl (TRow.one (y := layT) (x := ⟨-9, -9⟩) (e := 43) (heap_new _ _)) (by intro e; cases e) ?b1 ?b2 ?b3 ?_))
  case b1 => rw [HLn.out]; unfold maxLen; omega
  case b2 => rw [HLn.out]; omega
  case b3 => have := HB1.out.size; simp; omega
  intro v2 w9 o2 g2 l2
  have hb2 : Below w.heap.size w w9 := (HB1.out.alloc HB1.out.size (.cells #[.int .i64 (-9), .int .i64 (-9)] 43)).grown g2 (by have := HB1.out.size; simp; omega) (fun q hq => (HO1.out.lt q hq).1)
  have hl2 : (A ++ [(⟨-9, -9⟩ : Tk)]).length = n + 1 := by rw [List.length_append, HLn.out]; rfl
  obtain ⟨g, cc, hv, hg1, hg2, hcc⟩ := Own.frm o2 (by omega)
  rw [hl2] at hv hcc
  subst hv
  obtain ⟨b, hbb⟩ : ∃ b, w9.heap.size = b := ⟨_, rfl⟩
  have HI : Hid (IT w9 w.heap.size b g cc n A) := hide ⟨o2, HLn.out, by omega, by omega⟩
  have hccI : (n : Int) + 1 ≤ cc := by omega
  have hnc : (n : Int) ≤ cc := by omega
  have HB := hide hb2
  have HQ := hide (FQ.nil w9 b)
  have HSz : Hid (b ≤ w9.heap.size) := hide (by omega)
  have HSb : Hid (w.heap.size ≤ b) := hide (by rw [← hbb]; exact hb2.size)
  clear o2 g2 l2 hb2 hl2 hg1 hg2 hcc hbb HO1 HB1 HT H0
  go_wp2_with fail
  refine (tgetG_any k ⟨HI.out.cl, HG.out⟩).mono ?_
  rintro e w9 ⟨rfl, hb⟩
  replace HQ := hide (HQ.out.below hb)
  replace HSz := hide (Nat.le_trans HSz.out hb.size)
  replace HI := hide (HI.out.below hb)
  replace HB := hide (Below.on HB.out hb)
  rw [HTm.out]
  clear hb
  go_wp2_with fail
  refine (tset_any k T ⟨HI.out.cl, HG.out⟩ HK.out.1 HK.out.2 HT0.out).mono ?_
  rintro e w9 ⟨x0, rfl, o0, hb⟩
  obtain ⟨a0, n0, c0, rfl⟩ := own_sl o0
  replace HQ := hide (HQ.out.add hb 0 o0 HSz.out (stt_spec HG.out HK.out.1 HK.out.2 HT0.out).1)
  replace HSz := hide (Nat.le_trans HSz.out hb.size)
  replace HI := hide (HI.out.below hb)
  replace HB := hide (Below.on HB.out hb)
  clear o0
  clear hb
  go_wp2_with fail
  refine (tset_any k T ⟨HI.out.cl, HG.out⟩ HK.out.1 HK.out.2 HT0.out).mono ?_
  rintro e w9 ⟨x1, rfl, o1, hb⟩
  obtain ⟨a1, n1, c1, rfl⟩ := own_sl o1
  replace HQ := hide (HQ.out.add hb 1 o1 HSz.out (stt_spec HG.out HK.out.1 HK.out.2 HT0.out).1)
  replace HSz := hide (Nat.le_trans HSz.out hb.size)
  replace HI := hide (HI.out.below hb)
  replace HB := hide (Below.on HB.out hb)
  clear o1
  clear hb
  go_wp2_with fail
  refine (enc_ok ⟨HI.out.cl, HG.out⟩ HF.out).mono ?_
  rintro e w9 ⟨xt, rfl, ot, hb⟩
  replace HQ := hide (HQ.out.below hb)
  replace HSz := hide (Nat.le_trans HSz.out hb.size)
  replace HI := hide (HI.out.below hb)
  replace HB := hide (Below.on HB.out hb)
  have HX := hide (bv_own ot (u8s_encC _) (by have := encC_big HG.out HF.out; omega))
  clear ot
  clear hb
  go_wp2_with fail
  refine (HN.out 0 _).mono ?_
  rintro e w9 ⟨rfl, hw⟩
  rw [hw]
  clear hw w9
  go_wp2_with fail
  refine (HN.out 0 _).mono ?_
  rintro e w9 ⟨rfl, hw⟩
  rw [hw]
  clear hw w9
  go_wp2_with fail
  refine (HN.out 0 _).mono ?_
  rintro e w9 ⟨rfl, hw⟩
  rw [hw]
  clear hw w9
  go_wp2_with fail
  refine (bdec_any HX.out).mono ?_
  rintro e w9 ⟨x9, rfl, o9, hb⟩
  obtain ⟨a9, n9, c9, rfl⟩ := own_sl o9
  replace HQ := hide (HQ.out.add hb 9 (by rw [decC_self HG.out HF.out] at o9; exact o9) HSz.out HG.out)
  replace HSz := hide (Nat.le_trans HSz.out hb.size)
  replace HI := hide (HI.out.below hb)
  replace HX := hide (HX.out.below hb)
  replace HB := hide (Below.on HB.out hb)
  rw [decC_self HG.out HF.out]
  clear o9
  clear hb
  go_wp2_with fail
  refine (bdec_any HX.out).mono ?_
  rintro e w9 ⟨x10, rfl, o10, hb⟩
  obtain ⟨a10, n10, c10, rfl⟩ := own_sl o10
  replace HQ := hide (HQ.out.add hb 10 (by rw [decC_self HG.out HF.out] at o10; exact o10) HSz.out HG.out)
  replace HSz := hide (Nat.le_trans HSz.out hb.size)
  replace HI := hide (HI.out.below hb)
  replace HX := hide (HX.out.below hb)
  replace HB := hide (Below.on HB.out hb)
  rw [decC_self HG.out HF.out]
  clear o10
  clear hb
  clear HX
  go_wp2_with fail
  refine (cjoin_any ⟨HI.out.cl, HG.out⟩ (CV.nil _)).mono ?_
  rintro e w9 ⟨x2, J2, rfl, o2, k2, t2, hb⟩
  obtain ⟨a2, n2, c2, rfl⟩ := own_sl o2
  replace HQ := hide (HQ.out.add hb 2 o2 HSz.out k2.gd)
  replace HSz := hide (Nat.le_trans HSz.out hb.size)
  replace HI := hide (HI.out.below hb)
  replace HB := hide (Below.on HB.out hb)
  clear o2 k2 t2
  clear hb
  go_wp2_with fail
  refine (cjoin_any (CV.nil _) ⟨HI.out.cl, HG.out⟩).mono ?_
  rintro e w9 ⟨x3, J3, rfl, o3, k3, t3, hb⟩
  obtain ⟨a3, n3, c3, rfl⟩ := own_sl o3
  replace HQ := hide (HQ.out.add hb 3 o3 HSz.out k3.gd)
  replace HSz := hide (Nat.le_trans HSz.out hb.size)
  replace HI := hide (HI.out.below hb)
  replace HB := hide (Below.on HB.out hb)
  clear o3 k3 t3
  clear hb
  go_wp2_with fail
  refine (cjoin_any ⟨HI.out.cl, HG.out⟩ ⟨HI.out.cl, HG.out⟩).mono ?_
  rintro e w9 ⟨x4, J4, rfl, o4, k4, t4, hb⟩
  obtain ⟨a4, n4, c4, rfl⟩ := own_sl o4
  replace HQ := hide (HQ.out.add hb 4 o4 HSz.out k4.gd)
  replace HSz := hide (Nat.le_trans HSz.out hb.size)
  replace HI := hide (HI.out.below hb)
  replace HB := hide (Below.on HB.out hb)
  clear o4 k4 t4
  clear hb
  go_wp2_with fail
  refine (cmeet_any ⟨HI.out.cl, HG.out⟩ ⟨HI.out.cl, HG.out⟩).mono ?_
  rintro e w9 ⟨x5, J5, rfl, o5, k5, t5, hb⟩
  obtain ⟨a5, n5, c5, rfl⟩ := own_sl o5
  replace HQ := hide (HQ.out.add hb 5 o5 HSz.out k5.gd)
  replace HSz := hide (Nat.le_trans HSz.out hb.size)
  replace HI := hide (HI.out.below hb)
  replace HB := hide (Below.on HB.out hb)
  clear o5 k5 t5
  clear hb
  go_wp2_with fail
  refine (cjoin_any ⟨HI.out.cl, HG.out⟩ (HBv.out.below HB.out)).mono ?_
  rintro e w9 ⟨x6, J6, rfl, o6, k6, t6, hb⟩
  obtain ⟨a6, n6, c6, rfl⟩ := own_sl o6
  replace HQ := hide (HQ.out.add hb 6 o6 HSz.out k6.gd)
  replace HSz := hide (Nat.le_trans HSz.out hb.size)
  replace HI := hide (HI.out.below hb)
  replace HB := hide (Below.on HB.out hb)
  clear o6 k6 t6
  clear hb
  go_wp2_with fail
  refine (cjoin_any ⟨HI.out.cl, HG.out⟩ (HBv.out.below HB.out)).mono ?_
  rintro e w9 ⟨x7, J7, rfl, o7, k7, t7, hb⟩
  obtain ⟨a7, n7, c7, rfl⟩ := own_sl o7
  replace HQ := hide (HQ.out.add hb 7 o7 HSz.out k7.gd)
  replace HSz := hide (Nat.le_trans HSz.out hb.size)
  replace HI := hide (HI.out.below hb)
  replace HB := hide (Below.on HB.out hb)
  clear o7 k7 t7
  clear hb
  go_wp2_with fail
  refine (cmeet_any ⟨HI.out.cl, HG.out⟩ (HBv.out.below HB.out)).mono ?_
  rintro e w9 ⟨x8, J8, rfl, o8, k8, t8, hb⟩
  obtain ⟨a8, n8, c8, rfl⟩ := own_sl o8
  replace HQ := hide (HQ.out.add hb 8 o8 HSz.out k8.gd)
  replace HSz := hide (Nat.le_trans HSz.out hb.size)
  replace HI := hide (HI.out.below hb)
  replace HB := hide (Below.on HB.out hb)
  clear o8 k8 t8
  clear hb
  go_wp2_with fail
  obtain ⟨P, hP1, hP2, hP3, hP4⟩ := HQ.out.pack
  refine (grown_any P b w9.heap.size 11 11 (w9.alloc (.cells #[.slice a0 n0 c0, .slice a1 n1 c1, .slice a2 n2 c2, .slice a3 n3 c3, .slice a4 n4 c4, .slice a5 n5 c5, .slice a6 n6 c6, .slice a7 n7 c7, .slice a8 n8 c8, .slice a9 n9 c9, .slice a10 n10 c10] 22)) hP1 (by omega) hP2 hP3 (by have := HSz.out; simp; omega) hP4).mono ?_
  rintro e w8 ⟨rfl, hb⟩
  have hb8 : Below b w9 w8 := ((Below.refl b w9).alloc HSz.out _).trans hb
  replace HI := hide (HI.out.past hb8)
  replace HB := hide (HB.out.trans (hb8.mono HSb.out))
  clear hb hb8 hP1 hP2 hP3 hP4 HQ HSz
  go_wp2_with fail
  refine (csame_any HI.out.cl (HA.out.below HB.out)).mono ?_
  rintro e w9 ⟨rfl, hb⟩
  replace HI := hide (HI.out.below hb)
  replace HB := hide (Below.on HB.out hb)
  rw [decide_eq_true (rfl : A = A)]
  clear hb
  have cl9 := HI.out.last
  go_wp2
  go_loopw [21] (fun i wr => ∃ i' : Nat, i' ≤ n ∧ i = .int .i64 i' ∧ Hid (IT wr w.heap.size b g cc n (ups A i')) ∧ Hid (Below w.heap.size w wr)) (fun i _ => n - (intOf i).toNat)
  case atStart => exact ⟨0, Nat.zero_le _, rfl, hide (by rw [ups_zero]; exact HI.out), HB⟩
  case round =>
    rename World => wr
    obtain ⟨i, hin, rfl, HIr, HBr⟩ := hrel
    by_cases hlt : i < n
    · have hltI : (i : Int) < n := by omega
      obtain ⟨x, hx⟩ := get_ex (L := A) (i := i) (by rw [HLn.out]; exact hlt)
      have hm := tm_mem HG.out (List.mem_of_getElem? hx)
      obtain ⟨c0, f0⟩ := HIr.out.at (ups_at hx)
      have hI2 := HIr.out.set (ups_at hx)
      rw [ups_next hx] at hI2
      have HI2 := hide hI2
      have HB2 := hide (HBr.out.setCell (p := ⟨g, i * 2, none⟩) HIr.out.ge (.int .i64 (x.g + 1)))
      have hx0 := hm.2.1
      have hx1 := hm.2.2.1
      obtain ⟨xg, xt⟩ := x
      have hx0' : 0 ≤ xg := hx0
      have hx1' : xg < 65536 := hx1
      clear hm hx hI2 hx0 hx1 cl9
      go_wp2
      exact ⟨⟨i + 1, by omega, by go_num, HI2, HB2⟩, by simp [intOf]; omega⟩
    · have hkn : n = i := by omega
      subst hkn
      rw [ups_done A HLn.out] at HIr
      obtain ⟨A2, hA2⟩ : ∃ A2, A.map up = A2 := ⟨_, rfl⟩
      have HF2 : Hid (fits A2) := hide (by rw [← hA2]; exact up_fits HG.out HF.out)
      rw [hA2] at HIr
      clear hA2 HI HB cl9
      obtain ⟨E, hE⟩ : ∃ E, erL A2 = E := ⟨_, rfl⟩
      obtain ⟨S, hS⟩ : ∃ S, strL A2 = S := ⟨_, rfl⟩
      obtain ⟨X, hX⟩ : ∃ X, (if gd 0 A2 then tm k A2 else 0) = X := ⟨_, rfl⟩
      obtain ⟨G2, hG2⟩ : ∃ G2, gd 0 A2 = G2 := ⟨_, rfl⟩
      have HE := hide hE
      have HS := hide hS
      have HX := hide hX
      have HG2 := hide hG2
      have HRi : Hid (TRow layT wr (some ⟨g, 0, none⟩) n A2) := hide (by
        obtain ⟨_, _, _, e, h⟩ := HIr.out.cl.ex
        injection e with e1 e2 e3
        subst e1
        subst e2
        exact h.row)
      clear hE hS hX hG2
      go_wp2_with (at_builtin; refine append_lay layT _ 22 43 i0 _ 16 Try.underlying22 hi hz0 hz1 hz2 rfl rfl (.tmp 146) (.tmp 147) rfl wr.heap.size (.slice none 0 0) [] rfl (Own.nil _ _ _ _) (some ⟨g, 0, none⟩) n cc A2 rfl HRi.out (fun e => by cases e) ?b1 ?b2 (Nat.le_refl _) ?_)
      case b1 => unfold maxLen; have := HnI.out; simp; omega
      case b2 => have := HnI.out; simp; omega
      intro v6 w9 o6 g6 l6
      have hb : Below wr.heap.size wr w9 := (Below.refl wr.heap.size wr).grown g6 (Nat.le_refl _) (fun q hq => by cases hq)
      have HC : Hid (CL w9 v6 A2) := hide (cl_own (base := wr.heap.size) (by simpa using o6) (by rw [HRi.out.len]; have := HnI.out; omega))
      have HI := hide (HIr.out.below hb)
      have HB := hide (Below.on HBr.out hb)
      clear o6 g6 l6 hb HIr HBr HRi
      go_wp2_with fail
      refine (joinX_any HI.out.cl (HBv.out.below HB.out)).mono ?_
      rintro e w9 ⟨y1, J1, rfl, c1, j1, hb⟩
      replace HI := hide (HI.out.below hb)
      replace HC := hide (HC.out.below hb)
      replace HB := hide (Below.on HB.out hb)
      rw [HE.out]
      have HY1 := hide c1
      have HJ1 := hide j1
      clear c1 j1
      clear hb
      go_wp2_with fail
      refine (joinX_any HC.out (HBv.out.below HB.out)).mono ?_
      rintro e w9 ⟨y2, J2, rfl, c2, j2, hb⟩
      replace HI := hide (HI.out.below hb)
      replace HC := hide (HC.out.below hb)
      replace HY1 := hide (HY1.out.below hb)
      replace HB := hide (Below.on HB.out hb)
      rw [HE.out]
      have HY2 := hide c2
      have HJ2 := hide j2
      clear c2 j2
      clear hb
      go_wp2_with fail
      refine (encX_any HI.out.cl HF2.out).mono ?_
      rintro e w9 ⟨z1, rfl, q1, hb⟩
      replace HI := hide (HI.out.below hb)
      replace HC := hide (HC.out.below hb)
      replace HY1 := hide (HY1.out.below hb)
      replace HY2 := hide (HY2.out.below hb)
      replace HB := hide (Below.on HB.out hb)
      rw [HE.out]
      have HZ1 := hide q1
      clear q1
      clear hb
      go_wp2_with fail
      refine (encX_any HC.out HF2.out).mono ?_
      rintro e w9 ⟨z2, rfl, q2, hb⟩
      replace HI := hide (HI.out.below hb)
      replace HC := hide (HC.out.below hb)
      replace HY1 := hide (HY1.out.below hb)
      replace HY2 := hide (HY2.out.below hb)
      replace HZ1 := hide (fun W hW => HZ1.out W (Below.on hb hW))
      replace HB := hide (Below.on HB.out hb)
      rw [HE.out]
      have HZ2 := hide q2
      clear q2
      clear hb
      go_wp2_with fail
      refine (HN.out E _).mono ?_
      rintro e w9 ⟨rfl, hw⟩
      rw [hw]
      clear hw w9
      go_wp2_with fail
      refine (HN.out E _).mono ?_
      rintro e w9 ⟨rfl, hw⟩
      rw [hw]
      clear hw w9
      go_wp2_with fail
      refine (csame_any HY1.out HY2.out).mono ?_
      rintro e w9 ⟨rfl, hb⟩
      replace HI := hide (HI.out.below hb)
      replace HC := hide (HC.out.below hb)
      replace HY1 := hide (HY1.out.below hb)
      replace HY2 := hide (HY2.out.below hb)
      replace HZ1 := hide (fun W hW => HZ1.out W (Below.on hb hW))
      replace HZ2 := hide (fun W hW => HZ2.out W (Below.on hb hW))
      replace HB := hide (Below.on HB.out hb)
      rw [decide_eq_true (HJ1.out.uniq HJ2.out)]
      clear hb
      go_wp2_with fail
      refine (HN.out E _).mono ?_
      rintro e w9 ⟨rfl, hw⟩
      rw [hw]
      clear hw w9
      go_wp2_with fail
      refine (HN.out E _).mono ?_
      rintro e w9 ⟨rfl, hw⟩
      rw [hw]
      clear hw w9
      have q1 := HZ1.out _ (Below.refl _ _)
      have q2 := HZ2.out _ (Below.refl _ _)
      rw [HS.out] at q1 q2
      go_wp2_with fail
      refine (cgood_any HI.out.cl).mono ?_
      rintro e w9 ⟨rfl, hb⟩
      replace HI := hide (HI.out.below hb)
      replace HC := hide (HC.out.below hb)
      replace HB := hide (Below.on HB.out hb)
      rw [HG2.out]
      clear q1 q2 HZ1 HZ2
      clear hb
      go_wp2_with fail
      refine (cgood_any HC.out).mono ?_
      rintro e w9 ⟨rfl, hb⟩
      replace HI := hide (HI.out.below hb)
      replace HC := hide (HC.out.below hb)
      replace HB := hide (Below.on HB.out hb)
      rw [HG2.out]
      clear hb
      go_wp2_with fail
      refine (tget_any k HI.out.cl).mono ?_
      rintro e w9 ⟨rfl, hb⟩
      replace HI := hide (HI.out.below hb)
      replace HC := hide (HC.out.below hb)
      replace HB := hide (Below.on HB.out hb)
      rw [HX.out]
      clear hb
      go_wp2_with fail
      refine (tget_any k HC.out).mono ?_
      rintro e w9 ⟨rfl, hb⟩
      replace HI := hide (HI.out.below hb)
      replace HC := hide (HC.out.below hb)
      replace HB := hide (Below.on HB.out hb)
      rw [HX.out]
      clear hb
      go_wp2
      go_ret
      exact ⟨rfl, HB.out⟩
end Go.Proofs.Ytajkenbcndmjpab
