/-
  HeapMixes: the walk.
-/
import Derived.Test.YtdmlehbamdcjcaaMixM
import Derived.Test.YtdmlehbamdcjcaaOpenG
import Derived.Test.YtdmlehbamdcjcaaLwAI
namespace Go.Proofs.Ytdmlehbamdcjcaa
open Go.RowKit
/-- A truth in a row. -/
def layT : Lay Bool := ⟨fun a => [.bool a], 1, by decide, fun _ => rfl, by intro a u hu; simp at hu; subst hu; rfl⟩
set_option maxRecDepth 8000 in
set_option maxHeartbeats 12800000 in
theorem heapMixes (w : World) (a b : Option Addr) (N c P d : Nat) (K : List Int) (Q : List Bool) (hr : TRow layN w a N K) (hq : TRow layT w b P Q) (hN : (N : Int) ≤ 5000000000) (hP : (P : Int) ≤ 5000000000) :
    Calls Try.prog 4 #[.slice a N c, .slice b P d] w fun r w' => r = .returned (.bool true) ∧ Below w.heap.size w w' := by
  obtain ⟨i0, hi, hz0, hz1, hz2⟩ := info_parts Try.infoTI
  have HR : Hid _ := hide hr
  have HQ : Hid _ := hide hq
  have HLN : Hid _ := hide hr.len
  have HLQ : Hid _ := hide hq.len
  clear hr hq
  go_enter Try.func4, Try.ntmps4
  go_wp2_with fail
  refine (alive_any w).mono ?_
  rintro r w1 ⟨rfl, b1⟩
  have B1 : Hid _ := hide b1
  clear b1
  go_wp2_with fail
  refine (hnewI w1).mono ?_
  rintro r w2 ⟨rfl, h2, b2⟩
  have H2 : Hid _ := hide h2
  have B2 : Hid _ := hide b2
  clear h2 b2
  go_wp2_with fail
  go_loopw [7, 8, 9] (fun sl sn si wr => ∃ (i q : Nat) (v : Value) (In : List It) (S : List (It × Int)), si = .int .i64 i ∧ sn = .int .i64 q ∧ i ≤ P ∧ q ≤ N ∧ In.length ≤ q ∧ Own layI 27 wr w1.heap.size sl In ∧ HsI wr w1.heap.size w1.heap.size v q S ∧ Mx In S q ∧ Below w1.heap.size w1 wr) (fun _ _ si _ => P - (intOf si).toNat)
  case atStart => exact ⟨0, 0, _, [], [], rfl, rfl, Nat.zero_le _, Nat.zero_le _, Nat.le_refl _, Own.nil _ _ _ _, H2.out, Mx.nil _, B2.out⟩
  case round =>
    obtain ⟨i, q, v, In, S, rfl, rfl, hi9, hq9, hIq, ho, hh, hm, hb⟩ := hrel
    have HO : Hid _ := hide ho
    have HH : Hid _ := hide hh
    have HM : Hid _ := hide hm
    have HB : Hid _ := hide hb
    have HIQ : Hid _ := hide hIq
    obtain ⟨av, cv, hvv, hnil, hcap⟩ := own_form ho
    obtain ⟨m, hm9⟩ : ∃ m, m = In.length := ⟨_, rfl⟩
    rw [← hm9] at hvv hnil hcap hIq
    subst hvv
    have HML : Hid _ := hide hm9
    have HNIL : Hid _ := hide hnil
    have B9 : Hid _ := hide (B1.out.trans (hb.mono B1.out.size))
    clear ho hh hm hb hm9 hnil
    by_cases hlt : i < P
    · have hltI : (i : Int) < (P : Int) := by omega
      obtain ⟨t, ht⟩ : ∃ t, Q[i]? = some t := ⟨_, List.getElem?_eq_getElem (by rw [HLQ.out]; exact hlt)⟩
      obtain ⟨b, off, rfl, _, hc⟩ := (HQ.out.below B9.out).at (by omega)
      have x0 := hc i t ht 0 _ rfl
      simp only [layT, Nat.mul_one, Nat.add_zero] at x0
      clear hc ht
      cases t with
      | false =>
        by_cases hqN : q < N
        · have hqI : (q : Int) < (N : Int) := by omega
          obtain ⟨k, hk⟩ : ∃ k, K[q]? = some k := ⟨_, List.getElem?_eq_getElem (by rw [HLN.out]; exact hqN)⟩
          obtain ⟨ka, ko, rfl, _, hc⟩ := (HR.out.below B9.out).at (by omega)
          have y0 := hc q k hk 0 _ rfl
          simp only [layN, Nat.mul_one, Nat.add_zero] at y0
          clear hc hk
          have h3 := HH.out.below (below_alloc1 wr (.cells #[.int .i64 k, .int .i64 q] 27 (0, 0)))
          have hSl : (S.length : Int) + 1 ≤ 5000000000000 := by rw [HM.out.len, ← HML.out]; omega
          have PU := hpushI ⟨k, q⟩ h3 (by simp; have := HB.out.size; omega) (by omega) hSl
          have H3 : Hid _ := hide h3
          clear h3 hSl
          go_wp2_with fail
          refine PU.mono ?_
          rintro r w3 ⟨rfl, v3, h3, b3, _⟩
          have hx3 : w3.heap[wr.heap.size]? = some (.cells #[.int .i64 k, .int .i64 q] 27 (0, 0)) := by
            rw [b3.block wr.heap.size (by simp) (fun e9 => ?_)]
            · exact heap_new _ _
            · rcases e9 with e9 | e9
              · have := HH.out.plt; omega
              · have := (HH.out.own _ e9).2.1; omega
          have z0 := cell_at (i := 0) (v := .int .i64 k) hx3 rfl
          have z1 := cell_at (i := 1) (v := .int .i64 q) hx3 rfl
          have O3 : Hid _ := hide ((HO.out.below (below_alloc1 wr (.cells #[.int .i64 k, .int .i64 q] 27 (0, 0)))).pastH H3.out b3)
          have B3 : Hid (Below w1.heap.size w1 w3) := hide ((HB.out.alloc HB.out.size _).trans (H3.out.past1 (Nat.le_refl _) b3 (by simp; have := HB.out.size; omega)))
          have HH3 : Hid _ := hide h3
          have hm1 : (m : Int) ≤ 5000000000 := by omega
          clear PU h3 b3 hx3 x0 y0
          go_wp2_with (at_builtin; refine append_lay layI _ 23 27 i0 _ 16 Try.underlying23 hi hz0 hz1 hz2 rfl rfl (.tmp 44) (.tmp 46) rfl w1.heap.size _ _ rfl (O3.out.below (below_alloc1 _ _)) _ _ _ [⟨k, q⟩] rfl (TRow.one (heap_new _ _)) (fun e => by cases e) (by rw [← HML.out]; unfold maxLen; omega) (by rw [← HML.out]; omega) (by simp; have := B3.out.size; omega) ?_; intro v4 w4 hown4 hgr4 hl4)
          refine ⟨⟨i + 1, q + 1, v3, In ++ [⟨k, q⟩], ins (fst bfI) (⟨k, q⟩, (q : Int)) S, by go_num, by go_num, by omega, by omega, by rw [List.length_append, ← HML.out]; simp; omega, hown4, ?_, ?_, (B3.out.alloc B3.out.size _).grown hgr4 (by simp; have := B3.out.size; omega) (fun g hg => (O3.out.lt g hg).1)⟩, by simp [intOf]; omega⟩
          · have h8 := (HH3.out.below (below_alloc1 w3 (.cells #[.int .i64 k, .int .i64 q] 27 (0, 0)))).pastL (O3.out.below (below_alloc1 _ _)) (But.of_grown hgr4 (fun _ e9 => e9))
            exact h8
          · have h8 := HM.out.push ⟨k, q⟩ rfl
            exact h8
        · have hqI : ¬ (q : Int) < (N : Int) := by omega
          go_wp2_with fail
          exact ⟨⟨i + 1, q, v, In, S, by go_num, rfl, by omega, hq9, HIQ.out, HO.out, HH.out, HM.out, HB.out⟩, by simp [intOf]; omega⟩
      | true =>
        by_cases hm0 : m = 0
        · have HI0 : In = [] := List.length_eq_zero_iff.mp (by rw [← HML.out]; exact hm0)
          have HS0 : S = [] := List.length_eq_zero_iff.mp (by rw [HM.out.len, ← HML.out]; exact hm0)
          have hh0 := HH.out
          rw [HS0] at hh0
          have PO := hpop0I hh0
          have e1 : ((m : Int) == 0) = true := by simp [hm0]
          have e2 : decide ((m : Int) = 0) = true := by simp [hm0]
          clear hm0 hh0 HS0 HI0
          go_wp2_with fail
          refine PO.mono ?_
          rintro r w3 ⟨rfl, b3⟩
          have B3 : Hid _ := hide b3
          clear PO b3
          go_wp2_with fail
          have b4 := Below.on B3.out (below_alloc1 w3 (.cells #[.int .i64 0, .int .i64 0] 27 (0, 0)))
          exact ⟨⟨i + 1, q, v, In, S, by go_num, rfl, by omega, hq9, HIQ.out, HO.out.below b4, HH.out.below b4, HM.out, HB.out.trans (b4.mono HB.out.size)⟩, by simp [intOf]; omega⟩
        · have hSl : S.length = m := by rw [HM.out.len, ← HML.out]
          obtain ⟨e, S', hS⟩ : ∃ e S', S = e :: S' := by
            cases S with
            | nil => simp at hSl; omega
            | cons e S' => exact ⟨e, S', rfl⟩
          subst hS
          have hSl' : (S'.length : Int) + 1 ≤ 5000000000000 := by simp at hSl; omega
          have PO := hpopI HH.out hSl'
          have e1 : ((m : Int) == 0) = false := by simp; omega
          have e2 : decide ((m : Int) = 0) = false := by simp; omega
          have HSL : Hid _ := hide hSl
          have hm1 : (m : Int) ≤ 5000000000 := by omega
          have hm2 : 0 < m := by omega
          obtain ⟨⟨y0, y1⟩, yu⟩ := e
          clear hSl hSl' hm0
          go_wp2_with fail
          refine PO.mono ?_
          rintro r w3 ⟨rfl, v3, h3, b3, _⟩
          have O3 : Hid _ := hide (HO.out.pastH HH.out b3)
          have B3 : Hid _ := hide (HB.out.trans (HH.out.past1 (Nat.le_refl _) b3 HB.out.size))
          have H3 : Hid _ := hide h3
          clear PO h3 b3 x0
          go_wp2_with fail
          obtain ⟨w4, hw4⟩ : ∃ w4, w4 = w3.alloc (.cells #[.int .i64 y0, .int .i64 y1] 27 (0, 0)) := ⟨_, rfl⟩
          have hx4 : w4.heap[w3.heap.size]? = some (.cells #[.int .i64 y0, .int .i64 y1] 27 (0, 0)) := by rw [hw4]; exact heap_new _ _
          have hs4 : w3.heap.size < w4.heap.size := by rw [hw4]; simp
          have b4 : Below w3.heap.size w3 w4 := by rw [hw4]; exact below_alloc1 _ _
          rw [← hw4]
          have HX4 : Hid _ := hide hx4
          have O4 : Hid _ := hide (O3.out.below b4)
          have H4 : Hid _ := hide (H3.out.below b4)
          have B4 : Hid _ := hide (B3.out.trans (b4.mono B3.out.size))
          clear hw4 hx4 b4 e1 e2
          go_loopw [13, 14] (fun sb sk wq => ∃ bq kq : Nat, sb = .int .i64 bq ∧ sk = .int .i64 kq ∧ bq < m ∧ kq ≤ m ∧ Best In bq kq ∧ Below w4.heap.size w4 wq) (fun _ sk _ => m - (intOf sk).toNat)
          case atStart => exact ⟨0, 0, rfl, rfl, hm2, Nat.zero_le _, Best.zero _, Below.refl _ _⟩
          case round =>
            rename World => wq
            obtain ⟨bq, kq, rfl, rfl, hbq, hkq, hbest, hb5⟩ := hrel
            have HBE : Hid _ := hide hbest
            have HB5 : Hid _ := hide hb5
            obtain ⟨y, hy⟩ : ∃ y, In[bq]? = some y := ⟨_, List.getElem?_eq_getElem (by rw [← HML.out]; exact hbq)⟩
            have HY : Hid _ := hide hy
            have HO5 : Hid _ := hide (O4.out.below hb5)
            obtain ⟨ga, gf, rfl, _, hcI⟩ := (HO5.out.row HML.out.symm).at (by omega)
            have hbqI : (bq : Int) < (m : Int) := by omega
            clear hbest hb5
            by_cases hkm : kq < m
            · have hkmI : (kq : Int) < (m : Int) := by omega
              obtain ⟨x, hx⟩ : ∃ x, In[kq]? = some x := ⟨_, List.getElem?_eq_getElem (by rw [← HML.out]; exact hkm)⟩
              have x0 := hcI kq x hx 0 _ rfl
              have z0 := hcI bq y hy 0 _ rfl
              simp only [layI, Nat.add_zero] at x0 z0
              have HX : Hid _ := hide hx
              clear hcI hx hy
              go_wp2_with fail
              by_cases hcmp : x.k < y.k
              · have d1 : decide (x.k < y.k) = true := decide_eq_true hcmp
                go_quiet (fail)
                go_wp2_with fail
                exact ⟨⟨kq, kq + 1, rfl, by go_num, hkm, by omega, HBE.out.take HX.out HY.out hcmp, below_drewN HB5.out _⟩, by simp [intOf]; omega⟩
              · have d1 : decide (x.k < y.k) = false := decide_eq_false hcmp
                go_quiet (fail)
                go_wp2_with fail
                exact ⟨⟨bq, kq + 1, rfl, by go_num, hbq, by omega, HBE.out.keep HX.out HY.out hcmp, below_drewN HB5.out _⟩, by simp [intOf]; omega⟩
            · have hkm' : kq = m := by omega
              have hkmI : ¬ (kq : Int) < (m : Int) := by omega
              have hbest := HBE.out
              rw [hkm', HML.out] at hbest
              obtain ⟨hey, hmp⟩ := HM.out.pop HH.out.srt HH.out.trn hbest hy
              have HMP : Hid _ := hide hmp
              have hey' : y = ⟨y0, y1⟩ := hey.symm
              subst hey'
              have z0 := hcI bq _ hy 0 _ rfl
              have z1 := hcI bq _ hy 1 _ rfl
              simp only [layI, Nat.add_zero] at z0 z1
              have hx5 : wq.heap[w3.heap.size]? = some (.cells #[.int .i64 y0, .int .i64 y1] 27 (0, 0)) := by rw [HB5.out.block _ hs4]; exact HX4.out
              have c0 := cell_at (i := 0) (v := .int .i64 y0) hx5 rfl
              have c1 := cell_at (i := 1) (v := .int .i64 y1) hx5 rfl
              have hq : ∀ W' : World, (binOp .neq 27 (.agg #[.int .i64 y0, .int .i64 y1]) (.agg #[.int .i64 y0, .int .i64 y1])).run Try.prog W' = .ok (.bool false) W' := fun W' => neqI W' _ _
              clear hbest hmp hey hcI hy hx5 hkm hkm'
              go_wp2_with fail
              go_quiet (fail)
              obtain ⟨w5, hw5⟩ : ∃ w5, w5 = wq.drewN nq := ⟨_, rfl⟩
              have b5 : Below wq.heap.size wq w5 := by rw [hw5]; exact below_drewN (Below.refl _ _) _
              rw [← hw5]
              have bq5 := Below.on HB5.out b5
              have O5 : Hid _ := hide (HO5.out.below b5)
              have H5 : Hid _ := hide (H4.out.below bq5)
              have B5 : Hid _ := hide (B4.out.trans (bq5.mono B4.out.size))
              have R5 : Hid _ := hide (O5.out.row HML.out.symm)
              clear hw5 b5 bq5 z0 z1 c0 c1 hq HB5 HO5
              have hbc : (bq : Int) ≤ (cv : Int) := by omega
              have hbm : (bq : Int) ≤ (m : Int) := by omega
              have hbc2 : (bq : Int) + 1 ≤ (cv : Int) := by omega
              have hbm2 : (bq : Int) + 1 ≤ (m : Int) := by omega
              go_upto_region 30 with (at_builtin; refine append_lay layI _ 23 27 i0 _ 16 Try.underlying23 hi hz0 hz1 hz2 rfl rfl (.tmp 88) (.tmp 91) rfl w1.heap.size _ [] rfl (Own.nil _ _ _ _) _ _ _ (In.take bq) rfl (R5.out.cut bq (by omega)) (fun e => by cases e) (by simp [maxLen]; omega) (by simp; omega) (by have := B5.out.size; omega) ?_; intro v6 w6 hown6 hgr6 hl6)
              have b6 : Below w5.heap.size w5 w6 := (Below.refl _ _).grown hgr6 (Nat.le_refl _) (fun _ e9 => by cases e9)
              rw [List.nil_append] at hown6
              obtain ⟨a6, c6, hv6, _, _⟩ := own_form hown6
              have hlen6 : (In.take bq).length = bq := by rw [List.length_take, ← HML.out]; omega
              rw [hlen6] at hv6
              subst hv6
              have HL6 : Hid _ := hide hlen6
              have O6 : Hid _ := hide hown6
              have H6 : Hid _ := hide (H5.out.below b6)
              have B6 : Hid _ := hide (B5.out.trans (b6.mono B5.out.size))
              have R6 : Hid _ := hide (R5.out.below b6)
              clear hown6 hgr6 hl6 hlen6 b6
              by_cases hck : cv = bq + 1
              · have hmb : m = bq + 1 := by omega
                have HMB : Hid _ := hide hmb
                clear hmb
                have HT6 : Hid (TRow layI w6 (some ⟨ga, gf, none⟩) (m - (bq + 1)) (In.drop (bq + 1))) := hide (⟨by rw [List.length_drop, ← HML.out], .inl (by have := HMB.out; omega)⟩)
                skip
                go_wp2_with (at_builtin; refine append_lay layI _ 23 27 i0 _ 16 Try.underlying23 hi hz0 hz1 hz2 rfl rfl (.tmp 93) (.tmp 97) rfl w1.heap.size _ _ rfl O6.out _ _ _ (In.drop (bq + 1)) rfl HT6.out (fun e => by cases e) (by rw [HL6.out]; unfold maxLen; omega) (by rw [HL6.out]; omega) (by have := B6.out.size; omega) ?_; intro v7 w7 hown7 hgr7 hl7)
                obtain ⟨a7, c7, hv7, _, _⟩ := own_form hown7
                have hlen7 : (In.take bq ++ In.drop (bq + 1)).length = m - 1 := by rw [List.length_append, List.length_take, List.length_drop, ← HML.out]; omega
                rw [hlen7] at hv7
                subst hv7
                have H7 : Hid _ := hide (H6.out.pastL O6.out (But.of_grown hgr7 (fun _ e9 => e9)))
                have B7 : Hid (Below w1.heap.size w1 w7) := hide (B6.out.grown hgr7 (by have := B6.out.size; omega) (fun g hg => (O6.out.lt g hg).1))
                have O7 : Hid _ := hide hown7
                have LE := hlenI H7.out
                rw [HMP.out.len, hlen7] at LE
                have HL7 : Hid _ := hide hlen7
                obtain ⟨m7, hm7⟩ : ∃ m7, m7 = m - 1 := ⟨_, rfl⟩
                rw [← hm7] at LE
                rw [← hm7]
                have HM7 : Hid _ := hide hm7
                rw [← hm7] at O7
                clear hown7 hgr7 hl7 hlen7 hm7
                go_wp2_with fail
                refine LE.mono ?_
                rintro r w8 ⟨rfl, rfl⟩
                clear LE
                go_wp2_with fail
                exact ⟨⟨i + 1, q, v3, In.take bq ++ In.drop (bq + 1), S', by go_num, rfl, by omega, hq9, by rw [HL7.out]; omega, O7.out, H7.out, HMP.out, B7.out⟩, by simp [intOf]; omega⟩
              · skip
                have HT6 : Hid (TRow layI w6 (some ⟨ga, gf + (bq + 1) * 2, none⟩) (m - (bq + 1)) (In.drop (bq + 1))) := hide (R6.out.drop (bq + 1) (by omega))
                skip
                go_wp2_with (at_builtin; refine append_lay layI _ 23 27 i0 _ 16 Try.underlying23 hi hz0 hz1 hz2 rfl rfl (.tmp 93) (.tmp 97) rfl w1.heap.size _ _ rfl O6.out _ _ _ (In.drop (bq + 1)) rfl HT6.out (fun e => by cases e) (by rw [HL6.out]; unfold maxLen; omega) (by rw [HL6.out]; omega) (by have := B6.out.size; omega) ?_; intro v7 w7 hown7 hgr7 hl7)
                obtain ⟨a7, c7, hv7, _, _⟩ := own_form hown7
                have hlen7 : (In.take bq ++ In.drop (bq + 1)).length = m - 1 := by rw [List.length_append, List.length_take, List.length_drop, ← HML.out]; omega
                rw [hlen7] at hv7
                subst hv7
                have H7 : Hid _ := hide (H6.out.pastL O6.out (But.of_grown hgr7 (fun _ e9 => e9)))
                have B7 : Hid (Below w1.heap.size w1 w7) := hide (B6.out.grown hgr7 (by have := B6.out.size; omega) (fun g hg => (O6.out.lt g hg).1))
                have O7 : Hid _ := hide hown7
                have LE := hlenI H7.out
                rw [HMP.out.len, hlen7] at LE
                have HL7 : Hid _ := hide hlen7
                obtain ⟨m7, hm7⟩ : ∃ m7, m7 = m - 1 := ⟨_, rfl⟩
                rw [← hm7] at LE
                rw [← hm7]
                have HM7 : Hid _ := hide hm7
                rw [← hm7] at O7
                clear hown7 hgr7 hl7 hlen7 hm7
                go_wp2_with fail
                refine LE.mono ?_
                rintro r w8 ⟨rfl, rfl⟩
                clear LE
                go_wp2_with fail
                exact ⟨⟨i + 1, q, v3, In.take bq ++ In.drop (bq + 1), S', by go_num, rfl, by omega, hq9, by rw [HL7.out]; omega, O7.out, H7.out, HMP.out, B7.out⟩, by simp [intOf]; omega⟩
    · clear HIQ
      have hltI : ¬ (i : Int) < (P : Int) := by omega
      go_wp2_with fail
      go_ret
      exact ⟨rfl, B9.out⟩
end Go.Proofs.Ytdmlehbamdcjcaa
