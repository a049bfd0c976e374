/-
  HeapRecs: records sorted, and through a heap.
-/
import Derived.Test.YtdmlehbamdcjcaaSRr
import Derived.Test.YtdmlehbamdcjcaaHpLR
import Derived.Test.YtdmlehbamdcjcaaHpPR
import Derived.Test.YtdmlehbamdcjcaaLwAR
namespace Go.Proofs.Ytdmlehbamdcjcaa
open Go.RowKit
/-- A heap's call behind a call of its own. -/
theorem HsR.past {w w' : World} {base p : Nat} {v : Value} {n : Int} {S : List (Rc × Int)} (h : HsR w base p v n S) (hp : base ≤ p) (hb : But (fun k => k = p ∨ v.ownBlock = some k) w w') (hB : base ≤ w.heap.size) : Below base w w' :=
  hb.below hB (fun k hk => hk.elim (fun e => by omega) (fun e => (h.own k e).1))
set_option maxRecDepth 8000 in
set_option maxHeartbeats 6400000 in
theorem heapRecs (w : World) (a : Option Addr) (N c : Nat) (L : List Rc) (hr : TRow layR w a N L) (h0 : a = none → N = 0 ∧ c = 0) (hN : (N : Int) ≤ 3518437208883) :
    Calls Try.prog 5 #[.slice a N c] w fun r w' => r = .returned (.bool true) ∧ Below w.heap.size w w' := by
  obtain ⟨i0, hi, hz0, hz1, hz2⟩ := info_parts Try.infoTR
  have HR : Hid _ := hide hr
  have HLN : Hid _ := hide hr.len
  have H0 : Hid _ := hide h0
  clear hr h0
  go_enter Try.func5, Try.ntmps5
  go_upto_region 3 with (at_builtin; refine append_lay layR _ 42 47 i0 _ 40 Try.underlying42 hi hz0 hz1 hz2 rfl rfl (.tmp 10) (.tmp 11) rfl w.heap.size _ [] rfl (Own.nil _ _ _ _) _ _ _ L rfl HR.out H0.out (by simp [maxLen]; omega) (by simp; omega) (Nat.le_refl _) ?_; intro v1 w1 hown1 hgr1 hl1)
  have b1 : Below w.heap.size w w1 := (Below.refl _ _).grown hgr1 (Nat.le_refl _) (fun k hk => by cases hk)
  have O1 : Own layR 47 w1 w.heap.size v1 L := by simpa using hown1
  obtain ⟨a1, c1, hv1, hn1, hc1⟩ := own_form O1
  rw [HLN.out] at hv1 hn1 hc1
  subst hv1
  have hty : ∀ ad, a1 = some ad → ∃ b off, ad = ⟨b, off, none⟩ := by
    intro ad had
    rcases O1.2 with ⟨e, _⟩ | ⟨g, cap, cur, e, _⟩
    · injection e with e1 _ _; rw [had] at e1; cases e1
    · injection e with e1 _ _; rw [had] at e1; injection e1 with e1; exact ⟨g, 0, e1⟩
  have SR := srec_any N w1 a1 c1 L 0 (O1.row HLN.out) hn1 hty hc1 hN
  have HO1 : Hid _ := hide O1
  have HB1 : Hid _ := hide b1
  clear O1 b1 hown1 hgr1 hl1 hn1 hc1 hty
  go_wp2_with fail
  refine SR.mono ?_
  rintro r w2 ⟨v2, T, rfl, O2, P2, S2, B2⟩
  have hT : T = isort (fst bfR) (tg L 0) := isort_eq (fun a : Rc => a.stamp) P2 S2
  obtain ⟨S, hS⟩ : ∃ S, S = isort (fst bfR) (tg L 0) := ⟨_, rfl⟩
  rw [← hS] at hT
  subst hT
  have hSl : T.length = N := by rw [hS, (isort_perm _ _).length_eq, tg_len, HLN.out]
  obtain ⟨a2, c2, hv2, _, _⟩ := own_form O2
  rw [List.length_map, hSl] at hv2
  subst hv2
  have HS : Hid _ := hide hS
  have HSL : Hid _ := hide hSl
  have HO2 : Hid _ := hide O2
  have HO1b : Hid _ := hide (HO1.out.below B2)
  have HB2 : Hid _ := hide (Below.on HB1.out B2)
  have SO := sortR w2 a N c L (HR.out.below (Below.on HB1.out B2)) hN
  have hs12 := B2.size
  clear SR P2 S2 O2 B2 hS hSl
  go_wp2_with fail
  refine SO.mono ?_
  rintro r w3 ⟨g3, E, D, E', rfl, hg3, O3, hD, hp3, hh3, hpp3, b3⟩
  have hDT : D = T := by
    have h9 := isort_take (fun a : Rc => a.stamp) hp3 hh3 hpp3
    rw [hD] at h9
    have h8 : D = T.take N := by rw [HS.out]; exact h9
    rw [h8, List.take_of_length_le (by rw [HSL.out]; exact Nat.le_refl _)]
  subst hDT
  have SM := sameR (some ⟨g3, 0, none⟩) a2 N N c2 (D.map Prod.fst) w3 (O3.row (by rw [List.length_map]; exact hD)) ((HO2.out.below b3).row (by rw [List.length_map]; exact hD)) (by omega)
  have HB3 : Hid _ := hide (Below.on HB2.out b3)
  have HO1c : Hid _ := hide (HO1b.out.below b3)
  have HO2b : Hid _ := hide (HO2.out.below b3)
  have hs23 := b3.size
  clear SO hp3 hh3 hpp3 b3 O3 HO2 HO1b hD
  go_wp2_with fail
  refine SM.mono ?_
  rintro r w4 ⟨rfl, b4⟩
  have HO1d : Hid _ := hide (HO1c.out.below b4)
  have HO2c : Hid _ := hide (HO2b.out.below b4)
  have HB4 : Hid _ := hide (Below.on HB3.out b4)
  have SM2 := sameR a a1 N c c1 L w4 (HR.out.below (Below.on HB3.out b4)) (HO1d.out.row HLN.out) (by omega)
  have hs34 := b4.size
  clear b4 SM HO1c HO2b
  go_wp2_with fail
  refine SM2.mono ?_
  rintro r w5 ⟨rfl, b5⟩
  have HO2d : Hid _ := hide (HO2c.out.below b5)
  have HB5 : Hid _ := hide (Below.on HB4.out b5)
  have hs45 := b5.size
  clear b5 SM2 HO2c
  go_wp2_with fail
  refine (hnewR w5).mono ?_
  rintro r w6 ⟨rfl, h6, b6⟩
  have HH6 : Hid _ := hide h6
  have HB6 : Hid _ := hide b6
  clear h6 b6
  go_wp2_with fail
  go_loopw [6] (fun si wr => ∃ (j : Nat) (v : Value), si = .int .i64 j ∧ j ≤ N ∧ HsR wr w5.heap.size w5.heap.size v j (isort (fst bfR) (tg (L.take j) 0)) ∧ Below w5.heap.size w5 wr) (fun si _ => N - (intOf si).toNat)
  case atStart => exact ⟨0, _, rfl, Nat.zero_le _, HH6.out, HB6.out⟩
  case round =>
    obtain ⟨j, v, rfl, hj, hh, hb⟩ := hrel
    have HH : Hid _ := hide hh
    have HB : Hid _ := hide hb
    clear hh hb
    by_cases hlt : j < N
    · have hltI : (j : Int) < (N : Int) := by omega
      obtain ⟨x, hx⟩ : ∃ x, L[j]? = some x := ⟨_, List.getElem?_eq_getElem (by rw [HLN.out]; exact hlt)⟩
      have hrow := HR.out.below (HB5.out.trans (HB.out.mono HB5.out.size))
      obtain ⟨b, off, rfl, _, hc⟩ := hrow.at (by omega)
      have x0 := hc j x hx 0 _ rfl
      have x1 := hc j x hx 1 _ rfl
      have x2 := hc j x hx 2 _ rfl
      have x3 := hc j x hx 3 _ rfl
      have x4 := hc j x hx 4 _ rfl
      have hSl : (isort (fst bfR) (tg (L.take j) 0)).length = j := by rw [(isort_perm _ _).length_eq, tg_len, List.length_take, HLN.out]; omega
      have PU := hpushR x HH.out HB.out.size (by omega) (by omega)
      have HX : Hid _ := hide hx
      obtain ⟨y0, y1, y2, y3, y4⟩ := x
      simp only [layR, Nat.add_zero] at x0 x1 x2 x3 x4
      clear hc hx hrow hSl
      go_wp2_with fail
      refine PU.mono ?_
      rintro r w7 ⟨rfl, v7, h7, b7, _⟩
      have B7 : Hid _ := hide (HB.out.trans (HH.out.past (Nat.le_refl _) b7 HB.out.size))
      have H7 : Hid _ := hide h7
      clear PU h7 b7 x0 x1 x2 x3 x4
      go_wp2_with fail
      refine ⟨⟨j + 1, v7, by go_num, by omega, ?_, B7.out⟩, by simp [intOf]; omega⟩
      rw [take_snoc HX.out, tg_snoc, isort_snoc, List.length_take, HLN.out, Nat.min_eq_left (by omega), Int.zero_add]
      exact H7.out
    · have hjN : j = N := by omega
      have HH2 : Hid (HsR wr w5.heap.size w5.heap.size v N D) := hide (by
        have h9 := HH.out
        rw [hjN, List.take_of_length_le (by rw [HLN.out]; exact Nat.le_refl _), ← HS.out] at h9
        exact h9)
      clear hjN HH
      go_wp2_with fail
      rename World => Wk
      go_loopw [7] (fun si wr => ∃ (j : Nat) (v : Value), si = .int .i64 j ∧ j ≤ N ∧ HsR wr w5.heap.size w5.heap.size v N (D.drop j) ∧ Below w5.heap.size w5 wr) (fun si _ => N - (intOf si).toNat)
      case atStart => exact ⟨0, v, rfl, Nat.zero_le _, HH2.out, HB.out⟩
      case round =>
        obtain ⟨j2, v8, rfl, hj2, hh, hb⟩ := hrel
        have HH8 : Hid _ := hide hh
        have HB8 : Hid _ := hide hb
        clear hh hb
        by_cases hlt2 : j2 < N
        · have hltI : (j2 : Int) < (N : Int) := by omega
          obtain ⟨e, he⟩ : ∃ e, D[j2]? = some e := ⟨_, List.getElem?_eq_getElem (by rw [HSL.out]; exact hlt2)⟩
          have hdr : D.drop j2 = e :: D.drop (j2 + 1) := by
            have hlt3 := get_lt he
            rw [List.drop_eq_getElem_cons hlt3]
            rw [List.getElem?_eq_getElem hlt3] at he
            rw [Option.some.inj he]
          have hf : (D.map Prod.fst)[j2]? = some e.1 := by rw [List.getElem?_map, he]; rfl
          have hh8 := HH8.out
          rw [hdr] at hh8
          have PO := hpopR hh8 (by rw [List.length_drop, HSL.out]; omega)
          have HH8' : Hid _ := hide hh8
          have HF : Hid _ := hide hf
          obtain ⟨⟨y0, y1, y2, y3, y4⟩, yu⟩ := e
          clear hh8 he hf hdr
          go_wp2_with fail
          refine PO.mono ?_
          rintro r w9 ⟨rfl, v9, h9, b9, _⟩
          have B9 := HB8.out.trans (HH8'.out.past (Nat.le_refl _) b9 HB8.out.size)
          have hrow := (HO2d.out.below B9).row (by rw [List.length_map]; exact HSL.out)
          obtain ⟨bw, ow, hvw, hbw, hcw⟩ := hrow.at (by omega)
          subst hvw
          have x0 := hcw j2 _ HF.out 0 _ rfl
          have x1 := hcw j2 _ HF.out 1 _ rfl
          have x2 := hcw j2 _ HF.out 2 _ rfl
          have x3 := hcw j2 _ HF.out 3 _ rfl
          have x4 := hcw j2 _ HF.out 4 _ rfl
          simp only [layR, Nat.add_zero] at x0 x1 x2 x3 x4
          have hq : ∀ W' : World, (binOp .neq 47 (.agg #[.int .i64 y0, .int .i64 y1, .int .u64 y2, .int .u64 y3, .int .i64 y4]) (.agg #[.int .i64 y0, .int .i64 y1, .int .u64 y2, .int .u64 y3, .int .i64 y4])).run Try.prog W' = .ok (.bool false) W' := fun W' => neqR W' _ _ _ _ _
          have HB9 : Hid _ := hide B9
          have H9 : Hid _ := hide h9
          clear PO h9 b9 hrow hcw B9
          go_wp2_with fail
          go_quiet (fail)
          go_wp2_with fail
          refine ⟨⟨j2 + 1, v9, by go_num, by omega, ?_, ?_⟩, by simp [intOf]; omega⟩
          · exact (H9.out.below (below_alloc1 _ _)).below (below_drewN (Below.refl _ _) _)
          · exact below_drewN (HB9.out.trans ((below_alloc1 w9 _).mono HB9.out.size)) _
        · have HH9 : Hid (HsR wr w5.heap.size w5.heap.size v8 N []) := hide (by
            have h9 := HH8.out
            rw [List.drop_of_length_le (by rw [HSL.out]; omega)] at h9
            exact h9)
          clear HH8
          go_wp2_with fail
          refine (hlenR HH9.out).mono ?_
          rintro r w9 ⟨rfl, rfl⟩
          go_wp2
          go_ret
          exact ⟨rfl, HB5.out.trans (HB8.out.mono HB5.out.size)⟩
end Go.Proofs.Ytdmlehbamdcjcaa
