/-
  HeapOrders: the walk.
-/
import Derived.Test.YtdmlehbamdcjcabOrdC
namespace Go.Proofs.Ytdmlehbamdcjcab
open Go.RowKit
set_option maxRecDepth 8000 in
set_option maxHeartbeats 12800000 in
theorem heapOrders (w : World) (a : Option Addr) (N c : Nat) (K : List Int) (n : Int) (hr : TRow layN w a N K) (hN : (N : Int) ≤ 5000000000000) (hn0 : -9223372036854775808 ≤ n) (hn1 : n ≤ 9223372036854775807) :
    Calls Try.prog 3 #[.slice a N c, .int .i64 n] w fun r w' => r = .returned (.bool true) ∧ Below w.heap.size w w' := by
  have HR : Hid _ := hide hr
  have HLN : Hid _ := hide hr.len
  clear hr
  obtain ⟨L, hL⟩ : ∃ L, L = tgI K := ⟨_, rfl⟩
  have hLn : L.length = N := by rw [hL, tgI_len, HLN.out]
  obtain ⟨M, hM⟩ : ∃ M, M = sItems L := ⟨_, rfl⟩
  have hMn : M.length = N := by rw [hM, sItems_len, hLn]
  have HORD : Hid (Ordd M K) := hide (by rw [hM, hL]; exact ordd_sort K)
  have HIDEM : Hid (sItems M = M) := hide (by rw [hM]; exact sItems_idem L)
  have HL : Hid _ := hide hL
  have HM : Hid _ := hide hM
  have HLL : Hid _ := hide hLn
  have HML : Hid _ := hide hMn
  clear hL hM hLn hMn
  go_enter Try.func3, Try.ntmps3
  go_wp2_with fail
  refine (alive_any w).mono ?_
  rintro r w1 ⟨rfl, b1⟩
  have B1 : Hid _ := hide b1
  have TG := tagged_any w1 a N c K (HR.out.below b1) hN
  clear b1
  go_wp2_with fail
  refine TG.mono ?_
  rintro r w2 ⟨v2, rfl, O2, b2⟩
  rw [← HL.out] at O2
  obtain ⟨a2, c2, hv2, _, _⟩ := own_form O2
  rw [HLL.out] at hv2
  subst hv2
  have B2 : Hid _ := hide (Below.on B1.out b2)
  have SO := sort_items w2 a2 N c2 L (O2.row HLL.out) hN
  have HO2 : Hid _ := hide O2
  clear TG O2 b2
  go_wp2_with fail
  refine SO.mono ?_
  rintro r w3 ⟨g3, rfl, hg3, O3, b3⟩
  rw [← HM.out] at O3
  have B3 : Hid _ := hide (Below.on B2.out b3)
  have OR := ordered_any w3 (some ⟨g3, 0, none⟩) a N N c M K (O3.row HML.out) (HR.out.below (Below.on B2.out b3)) HORD.out hN
  have HO3 : Hid _ := hide O3
  have HO2b : Hid _ := hide (HO2.out.below b3)
  clear SO O3 b3 HO2
  go_wp2_with fail
  refine OR.mono ?_
  rintro r w4 ⟨rfl, b4⟩
  have B4 : Hid _ := hide (Below.on B3.out b4)
  have HO3b : Hid _ := hide (HO3.out.below b4)
  have HO2c : Hid _ := hide (HO2b.out.below b4)
  have SO := sort_items w4 (some ⟨g3, 0, none⟩) N N M (HO3b.out.row HML.out) hN
  rw [HIDEM.out] at SO
  clear OR b4 HO3 HO2b
  go_wp2_with fail
  refine SO.mono ?_
  rintro r w5 ⟨g5, rfl, hg5, O5, b5⟩
  have SM := sameI (some ⟨g5, 0, none⟩) (some ⟨g3, 0, none⟩) N N N M w5 (O5.row HML.out) ((HO3b.out.below b5).row HML.out) (by omega)
  have B5 : Hid _ := hide (Below.on B4.out b5)
  have HO3c : Hid _ := hide (HO3b.out.below b5)
  have HO2d : Hid _ := hide (HO2c.out.below b5)
  clear SO O5 b5 HO3b HO2c
  go_wp2_with fail
  refine SM.mono ?_
  rintro r w6 ⟨rfl, b6⟩
  have B6 : Hid _ := hide (Below.on B5.out b6)
  have HO3d : Hid _ := hide (HO3c.out.below b6)
  have HO2e : Hid _ := hide (HO2d.out.below b6)
  have TG := tagged_any w6 a N c K (HR.out.below (Below.on B5.out b6)) hN
  clear SM b6 HO3c HO2d
  go_wp2_with fail
  refine TG.mono ?_
  rintro r w7 ⟨v7, rfl, O7, b7⟩
  rw [← HL.out] at O7
  obtain ⟨a7, c7, hv7, _, _⟩ := own_form O7
  rw [HLL.out] at hv7
  subst hv7
  have SM := sameI a2 a7 N c2 c7 L w7 ((HO2e.out.below b7).row HLL.out) (O7.row HLL.out) (by omega)
  have B7 : Hid _ := hide (Below.on B6.out b7)
  have HO3e : Hid _ := hide (HO3d.out.below b7)
  have HO2f : Hid _ := hide (HO2e.out.below b7)
  clear TG O7 b7 HO3d HO2e
  go_wp2_with fail
  refine SM.mono ?_
  rintro r w8 ⟨rfl, b8⟩
  have B8 : Hid _ := hide (Below.on B7.out b8)
  have HO3f : Hid _ := hide (HO3e.out.below b8)
  have HO2g : Hid _ := hide (HO2f.out.below b8)
  clear SM b8 HO3e HO2f
  go_wp2_with fail
  refine (hnewI w8).mono ?_
  rintro r w9 ⟨rfl, h9, b9⟩
  have H9 : Hid _ := hide h9
  have B9 : Hid _ := hide b9
  clear h9 b9
  go_wp2_with fail
  go_loopw [9] (fun si wr => ∃ (j : Nat) (v : Value), si = .int .i64 j ∧ j ≤ N ∧ HsI wr w8.heap.size w8.heap.size v j (isort (fst bfI) (tg (L.take j) 0)) ∧ Below w8.heap.size w8 wr) (fun si _ => N - (intOf si).toNat)
  case atStart => exact ⟨0, _, rfl, Nat.zero_le _, H9.out, B9.out⟩
  case round =>
    obtain ⟨j, v, rfl, hj, hh, hb⟩ := hrel
    have HH : Hid _ := hide hh
    have HB : Hid _ := hide hb
    have hSl : (isort (fst bfI) (tg (L.take j) 0)).length = j := by rw [(isort_perm _ _).length_eq, tg_len, List.length_take, HLL.out]; omega
    have HSL : Hid _ := hide hSl
    clear hh hb hSl
    by_cases hlt : j < N
    · have hltI : (j : Int) < (N : Int) := by omega
      obtain ⟨x, hx⟩ : ∃ x, L[j]? = some x := ⟨_, List.getElem?_eq_getElem (by rw [HLL.out]; exact hlt)⟩
      obtain ⟨b, off, rfl, _, hc⟩ := ((HO2g.out.below HB.out).row HLL.out).at (by omega)
      have x0 := hc j x hx 0 _ rfl
      have x1 := hc j x hx 1 _ rfl
      have PU := hpushI x HH.out HB.out.size (by omega) (by rw [HSL.out]; omega)
      have HX : Hid _ := hide hx
      obtain ⟨y0, y1⟩ := x
      simp only [layI, Nat.add_zero] at x0 x1
      clear hc hx
      go_wp2_with fail
      refine PU.mono ?_
      rintro r w10 ⟨rfl, v10, h10, b10, _⟩
      have B10 : Hid _ := hide (HB.out.trans (HH.out.past1 (Nat.le_refl _) b10 HB.out.size))
      have h10' : HsI w10 w8.heap.size w8.heap.size v10 (j + 1) (isort (fst bfI) (tg (L.take (j + 1)) 0)) := by
        rw [take_snoc HX.out, tg_snoc, isort_snoc, List.length_take, HLL.out, Nat.min_eq_left (by omega), Int.zero_add]
        exact h10
      have hSl2 : (isort (fst bfI) (tg (L.take (j + 1)) 0)).length = j + 1 := by rw [(isort_perm _ _).length_eq, tg_len, List.length_take, HLL.out]; omega
      have LE := hlenI h10'
      rw [hSl2] at LE
      have H10 : Hid _ := hide h10'
      clear PU h10 b10 x0 x1 h10' hSl2
      go_wp2_with fail
      refine LE.mono ?_
      rintro r w11 ⟨rfl, rfl⟩
      clear LE
      go_wp2_with fail
      exact ⟨⟨j + 1, v10, by go_num, by omega, by have h8 := H10.out; exact h8, B10.out⟩, by simp [intOf]; omega⟩
    · have hjN : j = N := by omega
      have HT : Hid ((isort (fst bfI) (tg L 0)).map Prod.fst = M) := hide HM.out.symm
      obtain ⟨T, hT⟩ : ∃ T, T = isort (fst bfI) (tg L 0) := ⟨_, rfl⟩
      have HH2 : Hid (HsI wr w8.heap.size w8.heap.size v N T) := hide (by
        have h9 := HH.out
        rw [hjN, List.take_of_length_le (by rw [HLL.out]; exact Nat.le_refl _), ← hT] at h9
        exact h9)
      have HTM : Hid (T.map Prod.fst = M) := hide (by rw [hT]; exact HT.out)
      have HTL : Hid (T.length = N) := hide (by rw [hT, (isort_perm _ _).length_eq, tg_len, HLL.out])
      have SS := hsortedI HH2.out (by rw [HTL.out]; exact hN)
      rw [HTL.out, HTM.out] at SS
      clear hjN HH hT HT
      go_wp2_with fail
      refine SS.mono ?_
      rintro r w10 ⟨g10, rfl, hg10, O10, b10⟩
      have SM := sameI (some ⟨g10, 0, none⟩) (some ⟨g3, 0, none⟩) N N N M w10 (O10.row HML.out) (((HO3f.out.below HB.out).below b10).row HML.out) (by omega)
      have H10 : Hid _ := hide (HH2.out.below b10)
      have B10 : Hid _ := hide (HB.out.trans (b10.mono HB.out.size))
      clear SS O10 b10
      go_wp2_with fail
      refine SM.mono ?_
      rintro r w11 ⟨rfl, b11⟩
      have h11 := H10.out.below b11
      have LE := hlenI h11
      rw [HTL.out] at LE
      have H11 : Hid _ := hide h11
      have B11 : Hid _ := hide (B10.out.trans (b11.mono B10.out.size))
      clear SM b11 h11
      go_wp2_with fail
      refine LE.mono ?_
      rintro r w12 ⟨rfl, rfl⟩
      have LS := least_items w12 a2 N c2 L n ((HO2g.out.below B11.out).row HLL.out) hN hn0 hn1
      rw [← HM.out] at LS
      clear LE
      go_wp2_with fail
      refine LS.mono ?_
      rintro r w13 ⟨g13, k, rfl, hg13, hk, O13, b13⟩
      have HK : Hid _ := hide hk
      have H13 : Hid _ := hide (H11.out.below b13)
      have B13 : Hid _ := hide (B11.out.trans (b13.mono B11.out.size))
      have HO13 : Hid _ := hide O13
      clear LS O13 b13 hk
      go_upto_if 77 with fail
      go_cut [1] (fun s1 wx => s1 = .int .i64 (max n 0) ∧ wx = w13)
      case first =>
        by_cases hneg : n < 0
        · have e1 : decide (n < 0) = true := decide_eq_true hneg
          go_wp2_with fail
          go_meet
          exact ⟨by rw [show max n 0 = 0 by omega], rfl⟩
        · have e1 : decide (n < 0) = false := decide_eq_false hneg
          go_wp2_with fail
          go_meet
          exact ⟨by rw [show max n 0 = n by omega], rfl⟩
      case rest =>
      obtain ⟨rfl, rfl⟩ := hcut
      generalize hm : max n 0 = m at *
      have hm0 : 0 ≤ m := by omega
      have hm1 : m ≤ 9223372036854775807 := by omega
      have HK2 : Hid (k = min m.toNat N) := HK
      clear hm HK
      go_upto_if 81 with fail
      go_cut [1] (fun s1 wx => s1 = .int .i64 k ∧ wx = wc)
      case first =>
        by_cases hgt : (N : Int) < m
        · have e1 : decide ((N : Int) < m) = true := decide_eq_true hgt
          have hkN : k = N := by have := HK2.out; omega
          go_wp2_with fail
          go_meet
          exact ⟨by rw [hkN], rfl⟩
        · have e1 : decide ((N : Int) < m) = false := decide_eq_false hgt
          have hkm : m = (k : Int) := by have := HK2.out; omega
          go_wp2_with fail
          go_meet
          exact ⟨by first | rfl | rw [hkm], rfl⟩
      case rest =>
      obtain ⟨rfl, rfl⟩ := hcut
      have hkN : k ≤ N := by have := HK2.out; omega
      have hkI : (k : Int) ≤ (N : Int) := by omega
      rename World => Wc
      have HO3g : Hid (Own layI 28 Wc w2.heap.size (.slice (some ⟨g3, 0, none⟩) N N) M) := hide (HO3f.out.below B13.out)
      have SM := sameI (some ⟨g13, 0, none⟩) (some ⟨g3, 0, none⟩) k k N (M.take k) Wc (HO13.out.row (by rw [List.length_take, HML.out]; omega)) ((HO3g.out.row HML.out).cut k hkN) (by omega)
      go_wp2_with fail
      refine SM.mono ?_
      rintro r w14 ⟨rfl, b14⟩
      have H14 : Hid _ := hide (H13.out.below b14)
      have B14 : Hid _ := hide (B13.out.trans (b14.mono B13.out.size))
      clear SM b14 hkN hkI
      go_wp2_with fail
      rename World => Wk
      go_loopw [11] (fun si wr => ∃ (j : Nat) (v : Value), si = .int .i64 j ∧ j ≤ N ∧ HsI wr w8.heap.size w8.heap.size v N (T.drop j) ∧ Below w8.heap.size w8 wr) (fun si _ => N - (intOf si).toNat)
      case atStart => exact ⟨0, v, rfl, Nat.zero_le _, H14.out, B14.out⟩
      case round =>
        obtain ⟨j2, v15, rfl, hj2, hh, hb⟩ := hrel
        have HH15 : Hid _ := hide hh
        have HB15 : Hid _ := hide hb
        clear hh hb
        by_cases hlt2 : j2 < N
        · have hltI : (j2 : Int) < (N : Int) := by omega
          obtain ⟨e, he⟩ : ∃ e, T[j2]? = some e := ⟨_, List.getElem?_eq_getElem (by rw [HTL.out]; exact hlt2)⟩
          have hdr : T.drop j2 = e :: T.drop (j2 + 1) := by
            have hlt3 := get_lt he
            rw [List.drop_eq_getElem_cons hlt3]
            rw [List.getElem?_eq_getElem hlt3] at he
            rw [Option.some.inj he]
          have hf : M[j2]? = some e.1 := by rw [← HTM.out, List.getElem?_map, he]; rfl
          have hh15 := HH15.out
          rw [hdr] at hh15
          have PK := hpeekI hh15
          have HH15' : Hid _ := hide hh15
          have HF : Hid _ := hide hf
          obtain ⟨⟨y0, y1⟩, yu⟩ := e
          clear hh15 he hf hdr
          go_wp2_with fail
          refine PK.mono ?_
          rintro r w16 ⟨rfl, b16⟩
          obtain ⟨w17, hw17⟩ : ∃ w17, w17 = w16.alloc (.cells #[.int .i64 y0, .int .i64 y1] 28) := ⟨_, rfl⟩
          have b17 : Below w16.heap.size w16 w17 := by rw [hw17]; exact below_alloc1 _ _
          have r17 : w17.heap[w16.heap.size]? = some (.cells #[.int .i64 y0, .int .i64 y1] 28 (0, 0)) := by rw [hw17]; exact heap_new _ _
          have s17 : w16.heap.size < w17.heap.size := by rw [hw17]; simp
          have s16 := b16.size
          have h17 := (HH15'.out.below b16).below b17
          have PO := hpopI h17 (by rw [List.length_drop, HTL.out]; omega)
          have H17 : Hid _ := hide h17
          have B17 : Hid _ := hide ((HB15.out.trans (b16.mono HB15.out.size)).trans (b17.mono (by have := HB15.out.size; omega)))
          have R17 : Hid _ := hide r17
          have HW17 : Hid _ := hide hw17
          have HPV : Hid (∀ q, (q = w8.heap.size ∨ v15.ownBlock = some q) → q < w16.heap.size) := hide (fun q hq => by
            rcases hq with e | e
            · have := HH15'.out.plt; omega
            · have := (HH15'.out.own q e).2.1; omega)
          clear PK b16 b17 r17 hw17 h17
          go_wp2_with fail
          rw [← HW17.out]
          refine PO.mono ?_
          rintro r w18 ⟨rfl, v18, h18, b18, _⟩
          have s18 := b18.size
          have B18 := B17.out.trans (H17.out.past1 (Nat.le_refl _) b18 B17.out.size)
          have r18 := (b18.block w16.heap.size s17 (fun e => by have := HPV.out _ e; omega)).trans R17.out
          obtain ⟨w19, hw19⟩ : ∃ w19, w19 = w18.alloc (.cells #[.int .i64 y0, .int .i64 y1] 28) := ⟨_, rfl⟩
          have b19 : Below w18.heap.size w18 w19 := by rw [hw19]; exact below_alloc1 _ _
          have q19 : w19.heap[w18.heap.size]? = some (.cells #[.int .i64 y0, .int .i64 y1] 28 (0, 0)) := by rw [hw19]; exact heap_new _ _
          have r19 := (b19.block w16.heap.size (by omega)).trans r18
          have B19 := B18.trans (b19.mono B18.size)
          have h19 := h18.below b19
          obtain ⟨bw, ow, hvw, hbw, hcw⟩ := ((HO3f.out.below B19).row HML.out).at (by omega)
          cases hvw
          have x0 := hcw j2 _ HF.out 0 _ rfl
          have x1 := hcw j2 _ HF.out 1 _ rfl
          simp only [layI, Nat.zero_add, Nat.add_zero] at x0 x1
          have p0 : w19.cell? ⟨w16.heap.size, 0, none⟩ = some (.int .i64 y0) := cell_at r19 rfl
          have p1 : w19.cell? ⟨w16.heap.size, 1, none⟩ = some (.int .i64 y1) := cell_at r19 rfl
          have q0 : w19.cell? ⟨w18.heap.size, 0, none⟩ = some (.int .i64 y0) := cell_at q19 rfl
          have q1 : w19.cell? ⟨w18.heap.size, 1, none⟩ = some (.int .i64 y1) := cell_at q19 rfl
          have hq : ∀ W' : World, (binOp .neq 28 (.agg #[.int .i64 y0, .int .i64 y1]) (.agg #[.int .i64 y0, .int .i64 y1])).run Try.prog W' = .ok (.bool false) W' := fun W' => neqI W' _ _
          have LE : Hid (∀ nn, Calls Try.prog 13 #[.pointer (some ⟨w8.heap.size, 0, none⟩)] (w19.drewN nn) fun r w' => r = .returned (.int .i64 ((N : Int) - 1 - j2)) ∧ w' = w19.drewN nn) := hide (fun nn => by
            have h9 := hlenI (h19.below (below_drewN (Below.refl _ _) nn))
            rw [List.length_drop, HTL.out, show ((N - (j2 + 1) : Nat) : Int) = (N : Int) - 1 - j2 by omega] at h9
            exact h9)
          have hw1 : IntKind.i64.wrap ((N : Int) - 1) = (N : Int) - 1 := by rw [IntKind.wrap_i64]; omega
          have hw2 : IntKind.i64.wrap ((N : Int) - 1 - j2) = (N : Int) - 1 - j2 := by rw [IntKind.wrap_i64]; omega
          have HW19 : Hid _ := hide hw19
          have HB19 : Hid _ := hide B19
          have H19 : Hid _ := hide h19
          clear PO h18 b18 B18 r18 hw19 b19 q19 r19 B19 h19 hcw s16 s17 s18 hbw
          go_wp2_with fail
          rw [← HW19.out]
          go_quiet ((go_at_call 13; exact Calls.quiet_of_same (LE.out _)))
          go_wp2_with fail
          exact ⟨⟨j2 + 1, v18, by go_num, by omega, H19.out.below (below_drewN (Below.refl _ _) _), below_drewN HB19.out _⟩, by simp [intOf]; omega⟩
        · have HH16 : Hid (HsI wr w8.heap.size w8.heap.size v15 N []) := hide (by
            have h9 := HH15.out
            rw [List.drop_of_length_le (by rw [HTL.out]; omega)] at h9
            exact h9)
          have PO := hpop0I HH16.out
          have hql : ∀ W' : World, (binOp .eql 28 (.agg #[.int .i64 0, .int .i64 0]) (.agg #[.int .i64 0, .int .i64 0])).run Try.prog W' = .ok (.bool true) W' := fun W' => eqlI W' _ _
          clear HH15
          go_wp2_with fail
          refine PO.mono ?_
          rintro r w16 ⟨rfl, b16⟩
          have B16 : Hid _ := hide (HB15.out.trans (b16.mono HB15.out.size))
          clear PO b16
          go_wp2_with fail
          go_ret
          exact ⟨rfl, B8.out.trans ((B16.out.trans ((below_alloc1 w16 _).mono B16.out.size)).mono B8.out.size)⟩
end Go.Proofs.Ytdmlehbamdcjcab
