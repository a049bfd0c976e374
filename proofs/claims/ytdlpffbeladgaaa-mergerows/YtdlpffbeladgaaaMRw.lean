/-
  MergeRows: the walk.
-/
import Derived.Test.YtdlpffbeladgaaaMRm
namespace Go.Proofs.Ytdlpffbeladgaaa
open Go.RowKit
set_option maxRecDepth 8000 in
set_option maxHeartbeats 25600000 in
theorem mergeRows (w : World) (a b : Option Addr) (n c m d : Nat) (es : List Vt) (is : List Int) (hr : TRow layV w a n es) (hS : ∀ e ∈ es, Stk w e) (hi : TRow layN w b m is) (hn : (n : Int) ≤ 9000000000000000000) (hm : (m : Int) ≤ 9000000000000000000) :
    Calls Try.prog 5 #[.slice a n c, .slice b m d] w fun r w' => r = .returned (.bool true) ∧ Below w.heap.size w w' := by
  have MD := made_any w a b n c m d es is hr hi hS hn hm
  clear hr hi hS
  go_enter Try.func5, Try.ntmps5
  go_wp2_with fail
  refine MD.mono ?_
  rintro r w1 ⟨v, u, fs, js, rfl, hmd, hl, hst, b1⟩
  clear MD
  obtain ⟨va, vc, hvv, hv0, -⟩ := own_form hmd.ev
  obtain ⟨ua, uc, huu, -, -⟩ := own_form hmd.ids
  rw [hmd.len] at huu
  obtain ⟨N, hN⟩ : ∃ N, N = fs.length := ⟨_, rfl⟩
  rw [← hN] at hvv huu hv0 hl
  subst hvv; subst huu
  have hNI : (N : Int) ≤ 1048576 := by omega
  have HNL : Hid _ := hide hl
  have HN : Hid _ := hide hN
  have HMD : Hid _ := hide hmd
  have HB1 : Hid _ := hide b1
  have TW := twin_any w1 va N vc fs (hmd.ev.row hN.symm) hv0 hst (by omega)
  clear hN hmd b1 hv0 hst hl
  go_wp2_with fail
  refine TW.mono ?_
  rintro r w2 ⟨v2, gs, rfl, o2, tw, b2⟩
  clear TW
  obtain ⟨a2, c2, hv2, -, -⟩ := own_form o2
  rw [tw.len, ← HN.out] at hv2
  subst hv2
  have HM2 : Hid _ := hide (HMD.out.below b2)
  have HB2 : Hid (Below w.heap.size w w2) := hide (HB1.out.trans (b2.mono HB1.out.size))
  have HTW : Hid _ := hide tw
  have SP := split_ok w2 a2 ua N c2 uc gs js (o2.row (by rw [tw.len, HN.out])) (HM2.out.ids.row (by rw [HMD.out.len, HN.out])) HNL.out (fun e he => by
    obtain ⟨i, hi⟩ := List.getElem?_of_mem he
    have hlt := get_lt hi
    rw [tw.len] at hlt
    have h9 := tw.each i _ e (List.getElem?_eq_getElem hlt) hi
    rw [h9.g]
    exact HMD.out.g _ (List.getElem_mem hlt))
  clear b2 o2 tw
  go_wp2_with fail
  refine SP.mono ?_
  rintro r w3 ⟨v3, rws, K, rfl, hK0, hz0, b3⟩
  clear SP
  obtain ⟨L, hL⟩ : ∃ L, L = fs.zip js := ⟨_, rfl⟩
  have hK : Gors K L := by rw [hL]; exact HTW.out.gors hK0
  have hz : Rowz w3 w2.heap.size v3 rws (rowsOf K L) := by
    have e9 : rowsOf K L = rowsOf K (gs.zip js) := by
      rw [hL]; unfold rowsOf
      exact List.map_congr_left (fun g _ => by rw [HTW.out.recG])
    rw [e9]; exact hz0
  obtain ⟨a3, c3, hv3, -⟩ := hz.form
  obtain ⟨M, hM⟩ : ∃ M, M = (rowsOf K L).length := ⟨_, rfl⟩
  rw [← hM] at hv3
  subst hv3
  have HLL : Hid _ := hide hL
  have HM : Hid _ := hide hM
  have HMK : Hid (K.length = M) := hide (by rw [hM]; unfold rowsOf; rw [List.length_map])
  have hzl : (fs.zip js).length = N := by rw [List.length_zip, HMD.out.len, HN.out]; omega
  have HSA : Hid (sumG L K = N) := hide (by rw [sumG_all K (asc_nodup hK.asc) L (fun e he => (hK.mem _).2 ⟨e, he, rfl⟩), hL, hzl])
  have hMI : (M : Int) ≤ 1048576 := by
    have h9 := hK.len
    rw [HMK.out, hL, hzl] at h9
    have := HNL.out
    omega
  have HK : Hid _ := hide hK
  have HZ : Hid (Rdz w3 a3 M rws (rowsOf K L)) := hide (hz.reads (by rw [hz.len, hM]))
  have HRL : Hid (rws.length = M) := hide (by rw [hz.len, hM])
  have HM3 : Hid _ := hide (HM2.out.below b3)
  have HB3 : Hid (Below w.heap.size w w3) := hide (HB2.out.trans (b3.mono HB2.out.size))
  clear hK0 hz0 hz hL hK hM hzl b3
  go_wp2_with fail
  go_loopw [9, 10] (fun cn i wr => ∃ k ct : Nat, i = .int .i64 k ∧ cn = .int .i64 ct ∧ k ≤ M ∧ (ct : Int) ≤ 1048576 ∧ Hid (ct = sumG L (K.take k)) ∧ Hid (Below w3.heap.size w3 wr)) (fun _ i _ => M - numV i)
  case atStart => exact ⟨0, 0, rfl, rfl, Nat.zero_le _, by omega, hide rfl, hide (Below.refl _ _)⟩
  case round =>
    obtain ⟨k, ct, rfl, rfl, hk, hct, HC, HB⟩ := hrel
    by_cases hlt : k < M
    · have hltI : (k : Int) < (M : Int) := by omega
      obtain ⟨p, hp⟩ : ∃ r, rws[k]? = some r := ⟨_, List.getElem?_eq_getElem (by rw [HRL.out]; exact hlt)⟩
      obtain ⟨G, hG⟩ : ∃ r, (rowsOf K L)[k]? = some r := ⟨_, List.getElem?_eq_getElem (by rw [← HM.out]; exact hlt)⟩
      obtain ⟨g1, g2, g3⟩ := rows_at HK.out hG
      have A1 := HZ.out.below HB.out
      obtain ⟨b1, o1, rfl, hb1, hc1⟩ := A1.row.at (by omega)
      obtain ⟨pg, pr, -, -⟩ := A1.each k p G hp hG
      have x0 := hc1 k p hp 0 _ rfl
      have x1 := hc1 k p hp 1 _ rfl
      have HPV : Hid (0 < k → ∃ s, wr.cell? ⟨b1, o1 + (k - 1) * 2, none⟩ = some (.int .i64 s) ∧ s < p.g) := hide (fun hpos => by
        obtain ⟨p9, hp9⟩ : ∃ r, rws[k - 1]? = some r := ⟨_, List.getElem?_eq_getElem (by rw [HRL.out]; omega)⟩
        obtain ⟨G9, hG9⟩ : ∃ r, (rowsOf K L)[k - 1]? = some r := ⟨_, List.getElem?_eq_getElem (by rw [← HM.out]; omega)⟩
        obtain ⟨h1, _, _⟩ := rows_at HK.out hG9
        obtain ⟨h4, _⟩ := A1.each (k - 1) p9 G9 hp9 hG9
        refine ⟨p9.g, hc1 (k - 1) p9 hp9 0 _ rfl, ?_⟩
        rw [h4, pg]
        exact asc_lt HK.out.asc h1 g1 (by omega))
      obtain ⟨g, R⟩ := G
      obtain ⟨p0, pa, pn, pc⟩ := p
      dsimp only at pg pr g1 g2 g3 HPV
      subst pg
      have hpl := pr.len
      have hpn : 0 < pn := by omega
      have HST : Hid (sumG L (K.take (k + 1)) = sumG L (K.take k) + pn) := hide (by rw [sumG_step g1, ← g2, hpl])
      have HSU : Hid (sumG L (K.take k) + pn ≤ N) := hide (by rw [← HST.out, ← HSA.out]; exact sumG_le L K _)
      have hpI : (pn : Int) ≤ 1048576 := by have := HSU.out; have := HNL.out; omega
      simp only [layW, Nat.add_zero] at x0 x1
      have HX : Hid (∀ X, Below wr.heap.size wr X → X.cell? ⟨b1, o1 + k * 2, none⟩ = some (.int .i64 p0) ∧ X.cell? ⟨b1, o1 + k * 2 + 1, none⟩ = some (.slice pa pn pc)) := hide (fun X hX => ⟨(hX.cell (p := ⟨b1, o1 + k * 2, none⟩) hb1).trans x0, (hX.cell (p := ⟨b1, o1 + k * 2 + 1, none⟩) hb1).trans x1⟩)
      have HPR : Hid _ := hide pr
      have HPL : Hid _ := hide hpl
      have HR : Hid _ := hide g2
      have hEb : ((pn : Int) == 0) = false := by simp; omega
      have hEb2 : (pn == 0) = false := by simp; omega
      have hEb3 : ¬ pn = 0 := by omega
      clear A1 hc1 hp hG pr hpl g1 g2 g3
      by_cases hk0 : k = 0
      · have hi5 : decide ((0 : Int) < (k : Int)) = false := decide_eq_false (by omega)
        have hi2 : ¬ (0 : Int) < (k : Int) := by omega
        have hi4 : ¬ 0 < k := by omega
        clear hk0 HPV
        go_wp2_with fail
        go_quiet (fail)
        go_wp2_with fail
        generalize hwd : wr.drewN _ = wd
        have HWD : Hid (Below wr.heap.size wr wd) := hide (by rw [← hwd]; exact below_drewN (Below.refl _ _) _)
        clear hwd x0 x1
        go_loopw [9, 11] (fun cn j wi => ∃ q ci : Nat, j = .int .i64 q ∧ cn = .int .i64 ci ∧ q ≤ pn ∧ (ci : Int) ≤ 1048576 ∧ Hid (ci = sumG L (K.take k) + q) ∧ Hid (Below wr.heap.size wr wi)) (fun _ j _ => pn - numV j)
        case atStart => exact ⟨0, ct, rfl, rfl, Nat.zero_le _, hct, hide HC.out, HWD⟩
        case round =>
          obtain ⟨q, ci, rfl, rfl, hq, hci, HCI, HI⟩ := hrel
          rename World => wi
          obtain ⟨x0, x1⟩ := HX.out _ HI.out
          by_cases hlt2 : q < pn
          · have hltJ : (q : Int) < (pn : Int) := by omega
            obtain ⟨r, hr⟩ : ∃ r, R[q]? = some r := ⟨_, List.getElem?_eq_getElem (by rw [HPL.out]; exact hlt2)⟩
            obtain ⟨d1, f1, rfl, hd1, hc1⟩ := (HPR.out.below HI.out).at (by omega)
            have u0 := hc1 q r hr 0 _ rfl; have u1 := hc1 q r hr 1 _ rfl; have u2 := hc1 q r hr 2 _ rfl; have u3 := hc1 q r hr 3 _ rfl; have u4 := hc1 q r hr 4 _ rfl
            have HPQ : Hid (0 < q → ∃ s, wi.cell? ⟨d1, f1 + (q - 1) * 5, none⟩ = some (.int .i64 s) ∧ s < r.stamp) := hide (fun hpos => by
              obtain ⟨r9, hr9⟩ : ∃ r, R[q - 1]? = some r := ⟨_, List.getElem?_eq_getElem (by rw [HPL.out]; omega)⟩
              refine ⟨r9.stamp, hc1 (q - 1) r9 hr9 0 _ rfl, ?_⟩
              have h1 := hr
              rw [HR.out] at h1 hr9
              exact recG_lt hr9 h1 (by omega))
            have hr0 := hr
            rw [HR.out, HLL.out] at hr0
            obtain ⟨t, e, x, ht, he, hx, hg, hrr⟩ := rec_at HMD.out.len hr0
            rw [← HN.out] at ht
            have BI : Below w3.heap.size w3 wi := HB.out.trans (HI.out.mono HB.out.size)
            obtain ⟨d2, f2, hva, hd2, hc2⟩ := ((HM3.out.ev.row HN.out.symm).below BI).at (by omega)
            obtain ⟨d3, f3, hua, hd3, hc3⟩ := ((HM3.out.ids.row (by rw [HMD.out.len, HN.out])).below BI).at (by omega)
            subst hrr
            simp only [layR, Nat.add_zero] at u0 u1 u2 u3 u4
            obtain ⟨eg, ek, eo, ea, sa, sn, sc⟩ := e
            dsimp only at u0 u1 u2 u3 u4 HPQ hg
            subst hg
            have z0 := hc2 t _ he 0 _ rfl; have z1 := hc2 t _ he 1 _ rfl; have z2 := hc2 t _ he 2 _ rfl; have z3 := hc2 t _ he 3 _ rfl; have z4 := hc2 t _ he 4 _ rfl
            have i0 := hc3 t _ hx 0 _ rfl
            simp only [layV, layN, Nat.add_zero, Nat.mul_one] at z0 z1 z2 z3 z4 i0
            have HE : Hid (∀ X, Below wi.heap.size wi X → (X.cell? ⟨d2, f2 + t * 5, none⟩ = some (.int .i64 eg) ∧ X.cell? ⟨d2, f2 + t * 5 + 1, none⟩ = some (.int .i64 ek) ∧ X.cell? ⟨d2, f2 + t * 5 + 2, none⟩ = some (.int .u64 eo) ∧ X.cell? ⟨d2, f2 + t * 5 + 3, none⟩ = some (.int .u64 ea) ∧ X.cell? ⟨d2, f2 + t * 5 + 4, none⟩ = some (.slice sa sn sc)) ∧ X.cell? ⟨d3, f3 + t, none⟩ = some (.int .i64 x)) := hide (fun X hX => ⟨⟨(hX.cell (p := ⟨d2, f2 + t * 5, none⟩) hd2).trans z0, (hX.cell (p := ⟨d2, f2 + t * 5 + 1, none⟩) hd2).trans z1, (hX.cell (p := ⟨d2, f2 + t * 5 + 2, none⟩) hd2).trans z2, (hX.cell (p := ⟨d2, f2 + t * 5 + 3, none⟩) hd2).trans z3, (hX.cell (p := ⟨d2, f2 + t * 5 + 4, none⟩) hd2).trans z4⟩, (hX.cell (p := ⟨d3, f3 + t, none⟩) hd3).trans i0⟩)
            have htI : (t : Int) < (N : Int) := by omega
            have ht0 : ¬ (t : Int) < 0 := by omega
            have ht0d : decide ((t : Int) < 0) = false := decide_eq_false ht0
            have ht1 : ¬ (N : Int) ≤ (t : Int) := by omega
            have ht1d : decide ((N : Int) ≤ (t : Int)) = false := decide_eq_false ht1
            have htn : ¬ N ≤ t := by omega
            have htd : decide (N ≤ t) = false := decide_eq_false htn
            obtain ⟨w7, hw7⟩ : ∃ w7, w7 = wi.alloc (.cells #[.int .i64 (t : Int), .int .i64 ek, .int .u64 eo, .int .u64 ea, .int .i64 x] 41) := ⟨_, rfl⟩
            have b7 : Below wi.heap.size wi w7 := by rw [hw7]; exact below_alloc1 _ _
            have s7 : wi.heap.size < w7.heap.size := by rw [hw7]; simp
            have r7 : w7.heap[wi.heap.size]? = some (.cells #[.int .i64 (t : Int), .int .i64 ek, .int .u64 eo, .int .u64 ea, .int .i64 x] 41 (0, 0)) := by rw [hw7]; exact heap_new _ _
            have k0 : w7.cell? ⟨wi.heap.size, 0, none⟩ = some (.int .i64 (t : Int)) := cell_at r7 rfl
            have x17 := (HX.out _ (HI.out.trans (b7.mono HI.out.size))).2
            have HW7 : Hid _ := hide hw7
            have HB7 : Hid _ := hide b7
            have HR7 : Hid _ := hide r7
            have HVA : Hid _ := hide hva
            have HUA : Hid _ := hide hua
            clear hva hua
            clear hc1 hc2 hc3 he hx hr hr0 hw7 r7 b7 z0 z1 z2 z3 z4 i0 BI hlt2
            by_cases hq0 : q = 0
            · have hi5 : decide ((0 : Int) < (q : Int)) = false := decide_eq_false (by omega)
              have hi2 : ¬ (0 : Int) < (q : Int) := by omega
              have hi4 : ¬ 0 < q := by omega
              have hi6 : decide (0 < q) = false := decide_eq_false hi4
              clear hq0 HPQ
              go_wp2_with fail
              rw [← HW7.out]
              clear u0 u1 u2 u3 u4 x0 x1
              have HTN : Hid _ := hide htI
              have HQ : Hid _ := hide hq
              have HPN : Hid _ := hide hpn
              have HCJ : Hid _ := hide hci
              have HKM : Hid _ := hide hk
              have HD2 : Hid _ := hide hd2
              have HD3 : Hid _ := hide hd3
              clear hd1 hd2 hd3 hEb hEb2 hEb3 hct hci hq hk hpn hn hm ht
              go_quiet (fail)
              go_upto_region 17 with fail
              generalize hwd8 : w7.drewN _ = w8
              have b8 : Below w7.heap.size w7 w8 := by rw [← hwd8]; exact below_drewN (Below.refl _ _) _
              have b8i : Below wi.heap.size wi w8 := HB7.out.trans (b8.mono (Nat.le_of_lt s7))
              have r8 := (b8.block wi.heap.size s7).trans HR7.out
              have k8 : w8.cell? ⟨wi.heap.size, 0, none⟩ = some (.int .i64 (t : Int)) := cell_at r8 rfl
              obtain ⟨⟨z0, z1, z2, z3, z4⟩, -⟩ := HE.out _ b8i
              have s8 : wi.heap.size < w8.heap.size := (Array.getElem?_eq_some_iff.1 r8).1
              obtain ⟨w9, hw9⟩ : ∃ w9, w9 = w8.alloc (.cells #[.int .i64 eg, .int .i64 ek, .int .u64 eo, .int .u64 ea, .slice sa sn sc] 46) := ⟨_, rfl⟩
              have b9 : Below w8.heap.size w8 w9 := by rw [hw9]; exact below_alloc1 _ _
              have b9i : Below wi.heap.size wi w9 := b8i.trans (b9.mono (Nat.le_of_lt s8))
              have r9 : w9.heap[w8.heap.size]? = some (.cells #[.int .i64 eg, .int .i64 ek, .int .u64 eo, .int .u64 ea, .slice sa sn sc] 46 (0, 0)) := by rw [hw9]; exact heap_new _ _
              have q9 := (b9.block wi.heap.size s8).trans r8
              have m0 : w9.cell? ⟨w8.heap.size, 0, none⟩ = some (.int .i64 eg) := cell_at r9 rfl
              have m1 : w9.cell? ⟨w8.heap.size, 1, none⟩ = some (.int .i64 ek) := cell_at r9 rfl
              have m2 : w9.cell? ⟨w8.heap.size, 2, none⟩ = some (.int .u64 eo) := cell_at r9 rfl
              have m3 : w9.cell? ⟨w8.heap.size, 3, none⟩ = some (.int .u64 ea) := cell_at r9 rfl
              have n0 : w9.cell? ⟨wi.heap.size, 0, none⟩ = some (.int .i64 (t : Int)) := cell_at q9 rfl
              have n1 : w9.cell? ⟨wi.heap.size, 1, none⟩ = some (.int .i64 ek) := cell_at q9 rfl
              have n2 : w9.cell? ⟨wi.heap.size, 2, none⟩ = some (.int .u64 eo) := cell_at q9 rfl
              have n3 : w9.cell? ⟨wi.heap.size, 3, none⟩ = some (.int .u64 ea) := cell_at q9 rfl
              have n4 : w9.cell? ⟨wi.heap.size, 4, none⟩ = some (.int .i64 x) := cell_at q9 rfl
              have x09 := (HX.out _ (HI.out.trans (b9i.mono HI.out.size))).1
              have i09 := (HE.out _ b9i).2
              have HW9 : Hid _ := hide hw9
              have HB9 : Hid (Below wr.heap.size wr w9) := hide (HI.out.trans (b9i.mono HI.out.size))
              have hne0 : (eg != eg) = false := by simp
              have hne1 : (ek != ek) = false := by simp
              have hne2 : (eo != eo) = false := by simp
              have hne3 : (ea != ea) = false := by simp
              have hne4 : (x != x) = false := by simp
              have hva := HVA.out
              have hua := HUA.out
              clear HVA HUA
              subst hva; subst hua
              clear hwd8 b8 b8i r8 hw9 b9 b9i r9 q9 k0 x17
              go_wp2_with fail
              rw [← HW9.out]
              go_quiet (fail)
              have hq := HQ.out
              have hpn := HPN.out
              have hci := HCJ.out
              have hk := HKM.out
              go_wp2
              have HCU : Hid ((ci + 1 : Int) ≤ 1048576) := hide (by have h1 := HCI.out; have h2 := HSU.out; omega)
              exact ⟨⟨q + 1, ci + 1, by go_num, by go_num, by omega, by have := HCU.out; omega, hide (by rw [HCI.out]; omega), hide (below_drewN HB9.out _)⟩, by simp [numV]; omega⟩
            · obtain ⟨s9, y9, hs9⟩ := HPQ.out (by omega)
              have y0 := (HB7.out.cell (p := ⟨d1, f1 + (q - 1) * 5, none⟩) hd1).trans y9
              have hi0 : (0 : Int) ≤ (q : Int) - 1 := by omega
              have hi1 : (q : Int) - 1 < (pn : Int) := by omega
              have hi2 : (0 : Int) < (q : Int) := by omega
              have hi4 : 0 < q := by omega
              have hi6 : decide (0 < q) = true := decide_eq_true hi4
              have hi5 : decide ((0 : Int) < (q : Int)) = true := decide_eq_true hi2
              have hi7 : (1 : Int) ≤ (q : Int) := by omega
              have hi8 : 1 ≤ q := by omega
              have hi9 : ¬ (q : Int) - 1 < 0 := by omega
              have hi10 : ¬ (q : Int) < 1 := by omega
              have hwr : IntKind.i64.wrap ((q : Int) - 1) = (q : Int) - 1 := by rw [IntKind.wrap_i64]; omega
              have hdl : decide ((t : Int) ≤ s9) = false := decide_eq_false (by omega)
              have hnl : ¬ (t : Int) ≤ s9 := by omega
              clear HPQ hq0 hs9 y9
              go_wp2_with fail
              rw [← HW7.out]
              clear u0 u1 u2 u3 u4 x0 x1
              have HTN : Hid _ := hide htI
              have HQ : Hid _ := hide hq
              have HPN : Hid _ := hide hpn
              have HCJ : Hid _ := hide hci
              have HKM : Hid _ := hide hk
              have HD2 : Hid _ := hide hd2
              have HD3 : Hid _ := hide hd3
              clear hd1 hd2 hd3 hEb hEb2 hEb3 hct hci hq hk hpn hn hm ht
              go_quiet (fail)
              go_upto_region 17 with fail
              generalize hwd8 : w7.drewN _ = w8
              have b8 : Below w7.heap.size w7 w8 := by rw [← hwd8]; exact below_drewN (Below.refl _ _) _
              have b8i : Below wi.heap.size wi w8 := HB7.out.trans (b8.mono (Nat.le_of_lt s7))
              have r8 := (b8.block wi.heap.size s7).trans HR7.out
              have k8 : w8.cell? ⟨wi.heap.size, 0, none⟩ = some (.int .i64 (t : Int)) := cell_at r8 rfl
              obtain ⟨⟨z0, z1, z2, z3, z4⟩, -⟩ := HE.out _ b8i
              have s8 : wi.heap.size < w8.heap.size := (Array.getElem?_eq_some_iff.1 r8).1
              obtain ⟨w9, hw9⟩ : ∃ w9, w9 = w8.alloc (.cells #[.int .i64 eg, .int .i64 ek, .int .u64 eo, .int .u64 ea, .slice sa sn sc] 46) := ⟨_, rfl⟩
              have b9 : Below w8.heap.size w8 w9 := by rw [hw9]; exact below_alloc1 _ _
              have b9i : Below wi.heap.size wi w9 := b8i.trans (b9.mono (Nat.le_of_lt s8))
              have r9 : w9.heap[w8.heap.size]? = some (.cells #[.int .i64 eg, .int .i64 ek, .int .u64 eo, .int .u64 ea, .slice sa sn sc] 46 (0, 0)) := by rw [hw9]; exact heap_new _ _
              have q9 := (b9.block wi.heap.size s8).trans r8
              have m0 : w9.cell? ⟨w8.heap.size, 0, none⟩ = some (.int .i64 eg) := cell_at r9 rfl
              have m1 : w9.cell? ⟨w8.heap.size, 1, none⟩ = some (.int .i64 ek) := cell_at r9 rfl
              have m2 : w9.cell? ⟨w8.heap.size, 2, none⟩ = some (.int .u64 eo) := cell_at r9 rfl
              have m3 : w9.cell? ⟨w8.heap.size, 3, none⟩ = some (.int .u64 ea) := cell_at r9 rfl
              have n0 : w9.cell? ⟨wi.heap.size, 0, none⟩ = some (.int .i64 (t : Int)) := cell_at q9 rfl
              have n1 : w9.cell? ⟨wi.heap.size, 1, none⟩ = some (.int .i64 ek) := cell_at q9 rfl
              have n2 : w9.cell? ⟨wi.heap.size, 2, none⟩ = some (.int .u64 eo) := cell_at q9 rfl
              have n3 : w9.cell? ⟨wi.heap.size, 3, none⟩ = some (.int .u64 ea) := cell_at q9 rfl
              have n4 : w9.cell? ⟨wi.heap.size, 4, none⟩ = some (.int .i64 x) := cell_at q9 rfl
              have x09 := (HX.out _ (HI.out.trans (b9i.mono HI.out.size))).1
              have i09 := (HE.out _ b9i).2
              have HW9 : Hid _ := hide hw9
              have HB9 : Hid (Below wr.heap.size wr w9) := hide (HI.out.trans (b9i.mono HI.out.size))
              have hne0 : (eg != eg) = false := by simp
              have hne1 : (ek != ek) = false := by simp
              have hne2 : (eo != eo) = false := by simp
              have hne3 : (ea != ea) = false := by simp
              have hne4 : (x != x) = false := by simp
              have hva := HVA.out
              have hua := HUA.out
              clear HVA HUA
              subst hva; subst hua
              clear hwd8 b8 b8i r8 hw9 b9 b9i r9 q9 k0 x17
              go_wp2_with fail
              rw [← HW9.out]
              go_quiet (fail)
              have hq := HQ.out
              have hpn := HPN.out
              have hci := HCJ.out
              have hk := HKM.out
              go_wp2
              have HCU : Hid ((ci + 1 : Int) ≤ 1048576) := hide (by have h1 := HCI.out; have h2 := HSU.out; omega)
              exact ⟨⟨q + 1, ci + 1, by go_num, by go_num, by omega, by have := HCU.out; omega, hide (by rw [HCI.out]; omega), hide (below_drewN HB9.out _)⟩, by simp [numV]; omega⟩
          · have hltJ : ¬ (q : Int) < (pn : Int) := by omega
            obtain rfl : q = pn := by omega
            have hck : (ci : Int) ≤ 1048576 := hci
            go_wp2
            exact ⟨⟨k + 1, ci, by go_num, rfl, by omega, hck, hide (by rw [HCI.out, HST.out]), hide (HB.out.trans (HI.out.mono HB.out.size))⟩, by simp [numV]; omega⟩
      · obtain ⟨s, y0, hs⟩ := HPV.out (by omega)
        have hi0 : (0 : Int) ≤ (k : Int) - 1 := by omega
        have hi1 : (k : Int) - 1 < (M : Int) := by omega
        have hi2 : (0 : Int) < (k : Int) := by omega
        have hi4 : 0 < k := by omega
        have hi5 : decide ((0 : Int) < (k : Int)) = true := decide_eq_true hi2
        have hi7 : (1 : Int) ≤ (k : Int) := by omega
        have hi8 : 1 ≤ k := by omega
        have hi9 : ¬ (k : Int) - 1 < 0 := by omega
        have hi10 : ¬ (k : Int) < 1 := by omega
        have hwr : IntKind.i64.wrap ((k : Int) - 1) = (k : Int) - 1 := by rw [IntKind.wrap_i64]; omega
        have hdl : decide (p0 ≤ s) = false := decide_eq_false (by omega)
        have hnl : ¬ p0 ≤ s := by omega
        clear HPV hk0 hs
        go_wp2_with fail
        go_quiet (fail)
        clear y0 hi0 hi1 hi2 hi4 hi5 hi7 hi8 hi9 hi10 hwr hdl hnl
        go_wp2_with fail
        generalize hwd : wr.drewN _ = wd
        have HWD : Hid (Below wr.heap.size wr wd) := hide (by rw [← hwd]; exact below_drewN (Below.refl _ _) _)
        clear hwd x0 x1
        go_loopw [9, 11] (fun cn j wi => ∃ q ci : Nat, j = .int .i64 q ∧ cn = .int .i64 ci ∧ q ≤ pn ∧ (ci : Int) ≤ 1048576 ∧ Hid (ci = sumG L (K.take k) + q) ∧ Hid (Below wr.heap.size wr wi)) (fun _ j _ => pn - numV j)
        case atStart => exact ⟨0, ct, rfl, rfl, Nat.zero_le _, hct, hide HC.out, HWD⟩
        case round =>
          obtain ⟨q, ci, rfl, rfl, hq, hci, HCI, HI⟩ := hrel
          rename World => wi
          obtain ⟨x0, x1⟩ := HX.out _ HI.out
          by_cases hlt2 : q < pn
          · have hltJ : (q : Int) < (pn : Int) := by omega
            obtain ⟨r, hr⟩ : ∃ r, R[q]? = some r := ⟨_, List.getElem?_eq_getElem (by rw [HPL.out]; exact hlt2)⟩
            obtain ⟨d1, f1, rfl, hd1, hc1⟩ := (HPR.out.below HI.out).at (by omega)
            have u0 := hc1 q r hr 0 _ rfl; have u1 := hc1 q r hr 1 _ rfl; have u2 := hc1 q r hr 2 _ rfl; have u3 := hc1 q r hr 3 _ rfl; have u4 := hc1 q r hr 4 _ rfl
            have HPQ : Hid (0 < q → ∃ s, wi.cell? ⟨d1, f1 + (q - 1) * 5, none⟩ = some (.int .i64 s) ∧ s < r.stamp) := hide (fun hpos => by
              obtain ⟨r9, hr9⟩ : ∃ r, R[q - 1]? = some r := ⟨_, List.getElem?_eq_getElem (by rw [HPL.out]; omega)⟩
              refine ⟨r9.stamp, hc1 (q - 1) r9 hr9 0 _ rfl, ?_⟩
              have h1 := hr
              rw [HR.out] at h1 hr9
              exact recG_lt hr9 h1 (by omega))
            have hr0 := hr
            rw [HR.out, HLL.out] at hr0
            obtain ⟨t, e, x, ht, he, hx, hg, hrr⟩ := rec_at HMD.out.len hr0
            rw [← HN.out] at ht
            have BI : Below w3.heap.size w3 wi := HB.out.trans (HI.out.mono HB.out.size)
            obtain ⟨d2, f2, hva, hd2, hc2⟩ := ((HM3.out.ev.row HN.out.symm).below BI).at (by omega)
            obtain ⟨d3, f3, hua, hd3, hc3⟩ := ((HM3.out.ids.row (by rw [HMD.out.len, HN.out])).below BI).at (by omega)
            subst hrr
            simp only [layR, Nat.add_zero] at u0 u1 u2 u3 u4
            obtain ⟨eg, ek, eo, ea, sa, sn, sc⟩ := e
            dsimp only at u0 u1 u2 u3 u4 HPQ hg
            subst hg
            have z0 := hc2 t _ he 0 _ rfl; have z1 := hc2 t _ he 1 _ rfl; have z2 := hc2 t _ he 2 _ rfl; have z3 := hc2 t _ he 3 _ rfl; have z4 := hc2 t _ he 4 _ rfl
            have i0 := hc3 t _ hx 0 _ rfl
            simp only [layV, layN, Nat.add_zero, Nat.mul_one] at z0 z1 z2 z3 z4 i0
            have HE : Hid (∀ X, Below wi.heap.size wi X → (X.cell? ⟨d2, f2 + t * 5, none⟩ = some (.int .i64 eg) ∧ X.cell? ⟨d2, f2 + t * 5 + 1, none⟩ = some (.int .i64 ek) ∧ X.cell? ⟨d2, f2 + t * 5 + 2, none⟩ = some (.int .u64 eo) ∧ X.cell? ⟨d2, f2 + t * 5 + 3, none⟩ = some (.int .u64 ea) ∧ X.cell? ⟨d2, f2 + t * 5 + 4, none⟩ = some (.slice sa sn sc)) ∧ X.cell? ⟨d3, f3 + t, none⟩ = some (.int .i64 x)) := hide (fun X hX => ⟨⟨(hX.cell (p := ⟨d2, f2 + t * 5, none⟩) hd2).trans z0, (hX.cell (p := ⟨d2, f2 + t * 5 + 1, none⟩) hd2).trans z1, (hX.cell (p := ⟨d2, f2 + t * 5 + 2, none⟩) hd2).trans z2, (hX.cell (p := ⟨d2, f2 + t * 5 + 3, none⟩) hd2).trans z3, (hX.cell (p := ⟨d2, f2 + t * 5 + 4, none⟩) hd2).trans z4⟩, (hX.cell (p := ⟨d3, f3 + t, none⟩) hd3).trans i0⟩)
            have htI : (t : Int) < (N : Int) := by omega
            have ht0 : ¬ (t : Int) < 0 := by omega
            have ht0d : decide ((t : Int) < 0) = false := decide_eq_false ht0
            have ht1 : ¬ (N : Int) ≤ (t : Int) := by omega
            have ht1d : decide ((N : Int) ≤ (t : Int)) = false := decide_eq_false ht1
            have htn : ¬ N ≤ t := by omega
            have htd : decide (N ≤ t) = false := decide_eq_false htn
            obtain ⟨w7, hw7⟩ : ∃ w7, w7 = wi.alloc (.cells #[.int .i64 (t : Int), .int .i64 ek, .int .u64 eo, .int .u64 ea, .int .i64 x] 41) := ⟨_, rfl⟩
            have b7 : Below wi.heap.size wi w7 := by rw [hw7]; exact below_alloc1 _ _
            have s7 : wi.heap.size < w7.heap.size := by rw [hw7]; simp
            have r7 : w7.heap[wi.heap.size]? = some (.cells #[.int .i64 (t : Int), .int .i64 ek, .int .u64 eo, .int .u64 ea, .int .i64 x] 41 (0, 0)) := by rw [hw7]; exact heap_new _ _
            have k0 : w7.cell? ⟨wi.heap.size, 0, none⟩ = some (.int .i64 (t : Int)) := cell_at r7 rfl
            have x17 := (HX.out _ (HI.out.trans (b7.mono HI.out.size))).2
            have HW7 : Hid _ := hide hw7
            have HB7 : Hid _ := hide b7
            have HR7 : Hid _ := hide r7
            have HVA : Hid _ := hide hva
            have HUA : Hid _ := hide hua
            clear hva hua
            clear hc1 hc2 hc3 he hx hr hr0 hw7 r7 b7 z0 z1 z2 z3 z4 i0 BI hlt2
            by_cases hq0 : q = 0
            · have hi5 : decide ((0 : Int) < (q : Int)) = false := decide_eq_false (by omega)
              have hi2 : ¬ (0 : Int) < (q : Int) := by omega
              have hi4 : ¬ 0 < q := by omega
              have hi6 : decide (0 < q) = false := decide_eq_false hi4
              clear hq0 HPQ
              go_wp2_with fail
              rw [← HW7.out]
              clear u0 u1 u2 u3 u4 x0 x1
              have HTN : Hid _ := hide htI
              have HQ : Hid _ := hide hq
              have HPN : Hid _ := hide hpn
              have HCJ : Hid _ := hide hci
              have HKM : Hid _ := hide hk
              have HD2 : Hid _ := hide hd2
              have HD3 : Hid _ := hide hd3
              clear hd1 hd2 hd3 hEb hEb2 hEb3 hct hci hq hk hpn hn hm ht
              go_quiet (fail)
              go_upto_region 17 with fail
              generalize hwd8 : w7.drewN _ = w8
              have b8 : Below w7.heap.size w7 w8 := by rw [← hwd8]; exact below_drewN (Below.refl _ _) _
              have b8i : Below wi.heap.size wi w8 := HB7.out.trans (b8.mono (Nat.le_of_lt s7))
              have r8 := (b8.block wi.heap.size s7).trans HR7.out
              have k8 : w8.cell? ⟨wi.heap.size, 0, none⟩ = some (.int .i64 (t : Int)) := cell_at r8 rfl
              obtain ⟨⟨z0, z1, z2, z3, z4⟩, -⟩ := HE.out _ b8i
              have s8 : wi.heap.size < w8.heap.size := (Array.getElem?_eq_some_iff.1 r8).1
              obtain ⟨w9, hw9⟩ : ∃ w9, w9 = w8.alloc (.cells #[.int .i64 eg, .int .i64 ek, .int .u64 eo, .int .u64 ea, .slice sa sn sc] 46) := ⟨_, rfl⟩
              have b9 : Below w8.heap.size w8 w9 := by rw [hw9]; exact below_alloc1 _ _
              have b9i : Below wi.heap.size wi w9 := b8i.trans (b9.mono (Nat.le_of_lt s8))
              have r9 : w9.heap[w8.heap.size]? = some (.cells #[.int .i64 eg, .int .i64 ek, .int .u64 eo, .int .u64 ea, .slice sa sn sc] 46 (0, 0)) := by rw [hw9]; exact heap_new _ _
              have q9 := (b9.block wi.heap.size s8).trans r8
              have m0 : w9.cell? ⟨w8.heap.size, 0, none⟩ = some (.int .i64 eg) := cell_at r9 rfl
              have m1 : w9.cell? ⟨w8.heap.size, 1, none⟩ = some (.int .i64 ek) := cell_at r9 rfl
              have m2 : w9.cell? ⟨w8.heap.size, 2, none⟩ = some (.int .u64 eo) := cell_at r9 rfl
              have m3 : w9.cell? ⟨w8.heap.size, 3, none⟩ = some (.int .u64 ea) := cell_at r9 rfl
              have n0 : w9.cell? ⟨wi.heap.size, 0, none⟩ = some (.int .i64 (t : Int)) := cell_at q9 rfl
              have n1 : w9.cell? ⟨wi.heap.size, 1, none⟩ = some (.int .i64 ek) := cell_at q9 rfl
              have n2 : w9.cell? ⟨wi.heap.size, 2, none⟩ = some (.int .u64 eo) := cell_at q9 rfl
              have n3 : w9.cell? ⟨wi.heap.size, 3, none⟩ = some (.int .u64 ea) := cell_at q9 rfl
              have n4 : w9.cell? ⟨wi.heap.size, 4, none⟩ = some (.int .i64 x) := cell_at q9 rfl
              have x09 := (HX.out _ (HI.out.trans (b9i.mono HI.out.size))).1
              have i09 := (HE.out _ b9i).2
              have HW9 : Hid _ := hide hw9
              have HB9 : Hid (Below wr.heap.size wr w9) := hide (HI.out.trans (b9i.mono HI.out.size))
              have hne0 : (eg != eg) = false := by simp
              have hne1 : (ek != ek) = false := by simp
              have hne2 : (eo != eo) = false := by simp
              have hne3 : (ea != ea) = false := by simp
              have hne4 : (x != x) = false := by simp
              have hva := HVA.out
              have hua := HUA.out
              clear HVA HUA
              subst hva; subst hua
              clear hwd8 b8 b8i r8 hw9 b9 b9i r9 q9 k0 x17
              go_wp2_with fail
              rw [← HW9.out]
              go_quiet (fail)
              have hq := HQ.out
              have hpn := HPN.out
              have hci := HCJ.out
              have hk := HKM.out
              go_wp2
              have HCU : Hid ((ci + 1 : Int) ≤ 1048576) := hide (by have h1 := HCI.out; have h2 := HSU.out; omega)
              exact ⟨⟨q + 1, ci + 1, by go_num, by go_num, by omega, by have := HCU.out; omega, hide (by rw [HCI.out]; omega), hide (below_drewN HB9.out _)⟩, by simp [numV]; omega⟩
            · obtain ⟨s9, y9, hs9⟩ := HPQ.out (by omega)
              have y0 := (HB7.out.cell (p := ⟨d1, f1 + (q - 1) * 5, none⟩) hd1).trans y9
              have hi0 : (0 : Int) ≤ (q : Int) - 1 := by omega
              have hi1 : (q : Int) - 1 < (pn : Int) := by omega
              have hi2 : (0 : Int) < (q : Int) := by omega
              have hi4 : 0 < q := by omega
              have hi6 : decide (0 < q) = true := decide_eq_true hi4
              have hi5 : decide ((0 : Int) < (q : Int)) = true := decide_eq_true hi2
              have hi7 : (1 : Int) ≤ (q : Int) := by omega
              have hi8 : 1 ≤ q := by omega
              have hi9 : ¬ (q : Int) - 1 < 0 := by omega
              have hi10 : ¬ (q : Int) < 1 := by omega
              have hwr : IntKind.i64.wrap ((q : Int) - 1) = (q : Int) - 1 := by rw [IntKind.wrap_i64]; omega
              have hdl : decide ((t : Int) ≤ s9) = false := decide_eq_false (by omega)
              have hnl : ¬ (t : Int) ≤ s9 := by omega
              clear HPQ hq0 hs9 y9
              go_wp2_with fail
              rw [← HW7.out]
              clear u0 u1 u2 u3 u4 x0 x1
              have HTN : Hid _ := hide htI
              have HQ : Hid _ := hide hq
              have HPN : Hid _ := hide hpn
              have HCJ : Hid _ := hide hci
              have HKM : Hid _ := hide hk
              have HD2 : Hid _ := hide hd2
              have HD3 : Hid _ := hide hd3
              clear hd1 hd2 hd3 hEb hEb2 hEb3 hct hci hq hk hpn hn hm ht
              go_quiet (fail)
              go_upto_region 17 with fail
              generalize hwd8 : w7.drewN _ = w8
              have b8 : Below w7.heap.size w7 w8 := by rw [← hwd8]; exact below_drewN (Below.refl _ _) _
              have b8i : Below wi.heap.size wi w8 := HB7.out.trans (b8.mono (Nat.le_of_lt s7))
              have r8 := (b8.block wi.heap.size s7).trans HR7.out
              have k8 : w8.cell? ⟨wi.heap.size, 0, none⟩ = some (.int .i64 (t : Int)) := cell_at r8 rfl
              obtain ⟨⟨z0, z1, z2, z3, z4⟩, -⟩ := HE.out _ b8i
              have s8 : wi.heap.size < w8.heap.size := (Array.getElem?_eq_some_iff.1 r8).1
              obtain ⟨w9, hw9⟩ : ∃ w9, w9 = w8.alloc (.cells #[.int .i64 eg, .int .i64 ek, .int .u64 eo, .int .u64 ea, .slice sa sn sc] 46) := ⟨_, rfl⟩
              have b9 : Below w8.heap.size w8 w9 := by rw [hw9]; exact below_alloc1 _ _
              have b9i : Below wi.heap.size wi w9 := b8i.trans (b9.mono (Nat.le_of_lt s8))
              have r9 : w9.heap[w8.heap.size]? = some (.cells #[.int .i64 eg, .int .i64 ek, .int .u64 eo, .int .u64 ea, .slice sa sn sc] 46 (0, 0)) := by rw [hw9]; exact heap_new _ _
              have q9 := (b9.block wi.heap.size s8).trans r8
              have m0 : w9.cell? ⟨w8.heap.size, 0, none⟩ = some (.int .i64 eg) := cell_at r9 rfl
              have m1 : w9.cell? ⟨w8.heap.size, 1, none⟩ = some (.int .i64 ek) := cell_at r9 rfl
              have m2 : w9.cell? ⟨w8.heap.size, 2, none⟩ = some (.int .u64 eo) := cell_at r9 rfl
              have m3 : w9.cell? ⟨w8.heap.size, 3, none⟩ = some (.int .u64 ea) := cell_at r9 rfl
              have n0 : w9.cell? ⟨wi.heap.size, 0, none⟩ = some (.int .i64 (t : Int)) := cell_at q9 rfl
              have n1 : w9.cell? ⟨wi.heap.size, 1, none⟩ = some (.int .i64 ek) := cell_at q9 rfl
              have n2 : w9.cell? ⟨wi.heap.size, 2, none⟩ = some (.int .u64 eo) := cell_at q9 rfl
              have n3 : w9.cell? ⟨wi.heap.size, 3, none⟩ = some (.int .u64 ea) := cell_at q9 rfl
              have n4 : w9.cell? ⟨wi.heap.size, 4, none⟩ = some (.int .i64 x) := cell_at q9 rfl
              have x09 := (HX.out _ (HI.out.trans (b9i.mono HI.out.size))).1
              have i09 := (HE.out _ b9i).2
              have HW9 : Hid _ := hide hw9
              have HB9 : Hid (Below wr.heap.size wr w9) := hide (HI.out.trans (b9i.mono HI.out.size))
              have hne0 : (eg != eg) = false := by simp
              have hne1 : (ek != ek) = false := by simp
              have hne2 : (eo != eo) = false := by simp
              have hne3 : (ea != ea) = false := by simp
              have hne4 : (x != x) = false := by simp
              have hva := HVA.out
              have hua := HUA.out
              clear HVA HUA
              subst hva; subst hua
              clear hwd8 b8 b8i r8 hw9 b9 b9i r9 q9 k0 x17
              go_wp2_with fail
              rw [← HW9.out]
              go_quiet (fail)
              have hq := HQ.out
              have hpn := HPN.out
              have hci := HCJ.out
              have hk := HKM.out
              go_wp2
              have HCU : Hid ((ci + 1 : Int) ≤ 1048576) := hide (by have h1 := HCI.out; have h2 := HSU.out; omega)
              exact ⟨⟨q + 1, ci + 1, by go_num, by go_num, by omega, by have := HCU.out; omega, hide (by rw [HCI.out]; omega), hide (below_drewN HB9.out _)⟩, by simp [numV]; omega⟩
          · have hltJ : ¬ (q : Int) < (pn : Int) := by omega
            obtain rfl : q = pn := by omega
            have hck : (ci : Int) ≤ 1048576 := hci
            go_wp2
            exact ⟨⟨k + 1, ci, by go_num, rfl, by omega, hck, hide (by rw [HCI.out, HST.out]), hide (HB.out.trans (HI.out.mono HB.out.size))⟩, by simp [numV]; omega⟩
    · have hltI : ¬ (k : Int) < (M : Int) := by omega
      obtain rfl : k = M := by omega
      have e9 : ct = N := by rw [HC.out, ← HSA.out, List.take_of_length_le (by rw [HMK.out]; exact Nat.le_refl _)]
      subst e9
      go_wp2
      go_ret
      refine ⟨?_, HB3.out.trans (HB.out.mono HB3.out.size)⟩
      simp
end Go.Proofs.Ytdlpffbeladgaaa
