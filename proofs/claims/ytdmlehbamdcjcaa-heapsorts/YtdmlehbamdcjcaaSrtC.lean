/-
  HeapSorts: Sort, Least, Ints.
-/
import Derived.Test.YtdmlehbamdcjcaaSrtA
import Derived.Test.YtdmlehbamdcjcaaSrtB
import Derived.Test.YtdmlehbamdcjcaaLwAI
namespace Go.Proofs.Ytdmlehbamdcjcaa
open Go.RowKit
set_option maxHeartbeats 800000 in
theorem sameN (a b : Option Addr) (n ca cb : Nat) (L : List Int) (w : World) (hA : TRow layN w a n L) (hB : TRow layN w b n L) (hn : (n : Int) ≤ 9223372036854775000) :
    Calls Try.prog 29 #[.slice a n ca, .slice b n cb] w fun e w' => e = .returned (.bool true) ∧ Below w.heap.size w w' := by
  have hl := hA.len
  have H1 : Hid _ := hide hA
  have H2 : Hid _ := hide hB
  have HL : Hid _ := hide hl
  clear hA hB hl
  go_enter Try.func29, Try.ntmps29
  go_wp2
  go_loopw [5] (fun i wr => ∃ k : Nat, k ≤ n ∧ i = .int .i64 k ∧ Below w.heap.size w wr) (fun i _ => n - (intOf i).toNat)
  case atStart => exact ⟨0, Nat.zero_le _, rfl, Below.refl _ _⟩
  case round =>
    obtain ⟨k, hk, rfl, hw⟩ := hrel
    have A1 := H1.out.below hw
    have A2 := H2.out.below hw
    have HW : Hid _ := hide hw
    clear hw
    by_cases hlt : k < n
    · obtain ⟨x, hrk⟩ : ∃ r, L[k]? = some r := ⟨L[k]'(by rw [HL.out]; exact hlt), List.getElem?_eq_getElem _⟩
      obtain ⟨b1, o1, rfl, _, hc1⟩ := A1.at (by omega)
      obtain ⟨b2, o2, rfl, _, hc2⟩ := A2.at (by omega)
      have x0 := hc1 k x hrk 0 _ rfl
      have y0 := hc2 k x hrk 0 _ rfl
      simp only [layN, Nat.mul_one, Nat.add_zero] at x0 y0
      have hltI : (k : Int) < (n : Int) := by omega
      clear A1 A2 hc1 hc2 hrk
      go_wp2
      go_quiet (fail)
      go_wp2
      exact ⟨⟨k + 1, by omega, by go_num, below_drewN HW.out _⟩, by simp [intOf]; omega⟩
    · clear A1 A2
      go_wp2
      go_ret
      exact ⟨rfl, HW.out⟩
set_option maxRecDepth 8000 in
set_option maxHeartbeats 6400000 in
theorem heapSorts (w : World) (a : Option Addr) (N c : Nat) (L : List It) (n : Int) (ka : Option Addr) (kn kc : Nat) (K : List Int) (hr : TRow layI w a N L) (h0 : a = none → N = 0 ∧ c = 0) (hk : TRow layN w ka kn K) (hk0 : ka = none → kn = 0 ∧ kc = 0) (hN : (N : Int) ≤ 8796093022208) (hkN : (kn : Int) ≤ 17592186044416) (hn0 : -9223372036854775808 ≤ n) (hn1 : n ≤ 9223372036854775807) :
    Calls Try.prog 7 #[.slice a N c, .int .i64 n, .slice ka kn kc] w fun r w' => r = .returned (.bool true) ∧ Below w.heap.size w w' := by
  obtain ⟨i0, hi, hz0, hz1, hz2⟩ := info_parts Try.info3
  have HR : Hid _ := hide hr
  have HLN : Hid _ := hide hr.len
  have HK : Hid _ := hide hk
  have HKN : Hid _ := hide hk.len
  have HK0 : Hid _ := hide hk0
  have TW := twin_any w a N c L hr h0 (by omega)
  have HSL : Hid ((sItems L).length = N) := hide (by rw [sItems_len, HLN.out])
  have HIO : Hid _ := hide (inOrder_isort K)
  clear hr h0 hk hk0
  go_enter Try.func7, Try.ntmps7
  go_wp2_with fail
  refine TW.mono ?_
  rintro r w1 ⟨v1, rfl, O1, b1⟩
  obtain ⟨a1, c1, hv1, _, _⟩ := own_form O1
  rw [HLN.out] at hv1
  subst hv1
  have HO1 : Hid _ := hide O1
  have HB1 : Hid _ := hide b1
  clear TW O1 b1
  go_upto_region 4 with (at_builtin; refine append_lay layN _ 31 3 i0 _ 8 Try.underlying31 hi hz0 hz1 hz2 rfl rfl (.tmp 11) (.tmp 12) rfl w1.heap.size _ [] rfl (Own.nil _ _ _ _) _ _ _ K rfl (HK.out.below HB1.out) HK0.out (by simp [maxLen]; omega) (by simp; omega) (Nat.le_refl _) ?_; intro v2 w2 hown2 hgr2 hl2)
  have b2 : Below w1.heap.size w1 w2 := (Below.refl _ _).grown hgr2 (Nat.le_refl _) (fun k hk => by cases hk)
  have O2 : Own layN 3 w2 w1.heap.size v2 K := by simpa using hown2
  obtain ⟨a2, c2, hv2, _, _⟩ := own_form O2
  rw [HKN.out] at hv2
  subst hv2
  have HO1b : Hid _ := hide (HO1.out.below b2)
  have HO2 : Hid _ := hide O2
  have HB2 : Hid _ := hide (Below.on HB1.out b2)
  have SO := sort_items w2 a N c L (HR.out.below (Below.on HB1.out b2)) (by omega)
  clear hown2 hgr2 hl2 b2 O2 HO1
  go_wp2_with fail
  refine SO.mono ?_
  rintro r w3 ⟨g3, rfl, _, O3, b3⟩
  have HO1c : Hid _ := hide (HO1b.out.below b3)
  have HO2b : Hid _ := hide (HO2.out.below b3)
  have HO3 : Hid _ := hide O3
  have HB3 : Hid _ := hide (Below.on HB2.out b3)
  have RS := r9sort w3 a1 N c1 L (HO1c.out.row HLN.out) hN
  clear SO O3 b3 HO1b HO2
  go_wp2_with fail
  refine RS.mono ?_
  rintro r w4 ⟨v4, rfl, O4, b4⟩
  obtain ⟨a4, c4, hv4, _, _⟩ := own_form O4
  rw [HSL.out] at hv4
  subst hv4
  have SM := sameI (some ⟨g3, 0, none⟩) a4 N N c4 (sItems L) w4 ((HO3.out.below b4).row HSL.out) (O4.row HSL.out) (by omega)
  have HO1d : Hid _ := hide (HO1c.out.below b4)
  have HO2c : Hid _ := hide (HO2b.out.below b4)
  have HB4 : Hid _ := hide (Below.on HB3.out b4)
  clear RS O4 b4 HO1c HO2b HO3
  go_wp2_with fail
  refine SM.mono ?_
  rintro r w5 ⟨rfl, b5⟩
  have HO1e : Hid _ := hide (HO1d.out.below b5)
  have HO2d : Hid _ := hide (HO2c.out.below b5)
  have HB5 : Hid _ := hide (Below.on HB4.out b5)
  have LE := least_items w5 a N c L n (HR.out.below (Below.on HB4.out b5)) (by omega) hn0 hn1
  clear SM b5 HO1d HO2c
  go_wp2_with fail
  refine LE.mono ?_
  rintro r w6 ⟨g6, k, rfl, _, hk, O6, b6⟩
  have RL := r9least w6 a1 N c1 L n ((HO1e.out.below b6).row HLN.out) hN hn1
  have HO1f : Hid _ := hide (HO1e.out.below b6)
  have HO2e : Hid _ := hide (HO2d.out.below b6)
  have HO6 : Hid _ := hide O6
  have HB6 : Hid _ := hide (Below.on HB5.out b6)
  have HKK : Hid _ := hide hk
  clear LE O6 b6 HO1e HO2d hk
  go_wp2_with fail
  refine RL.mono ?_
  rintro r w7 ⟨a7, k7, c7, rfl, hk7, R7, b7⟩
  have hkk : k7 = k := by rw [hk7, HKK.out]
  subst hkk
  have hkN2 : k7 ≤ N := by omega
  have SM := sameI (some ⟨g6, 0, none⟩) a7 k7 k7 c7 ((sItems L).take k7) w7 ((HO6.out.below b7).row (by rw [List.length_take, HSL.out]; omega)) R7 (by omega)
  have HO1g : Hid _ := hide (HO1f.out.below b7)
  have HO2f : Hid _ := hide (HO2e.out.below b7)
  have HB7 : Hid _ := hide (Below.on HB6.out b7)
  clear RL R7 b7 HO1f HO2e HO6 hk7 HKK hkN2
  go_wp2_with fail
  refine SM.mono ?_
  rintro r w8 ⟨rfl, b8⟩
  have HO1h : Hid _ := hide (HO1g.out.below b8)
  have HO2g : Hid _ := hide (HO2f.out.below b8)
  have HB8 : Hid _ := hide (Below.on HB7.out b8)
  have IN := ints_any w8 ka kn kc K (HK.out.below (Below.on HB7.out b8)) (by omega)
  clear SM b8 HO1g HO2f
  go_wp2_with fail
  refine IN.mono ?_
  rintro r w9 ⟨a9, c9, rfl, R9, b9⟩
  have RI := r9ints w9 a2 kn c2 K ((HO2g.out.below b9).row HKN.out) (by omega)
  have HO1i : Hid _ := hide (HO1h.out.below b9)
  have HO2h : Hid _ := hide (HO2g.out.below b9)
  have HB9 : Hid _ := hide (Below.on HB8.out b9)
  have HR9 : Hid _ := hide R9
  clear IN R9 b9 HO1h HO2g
  go_wp2_with fail
  refine RI.mono ?_
  rintro r w10 ⟨v10, rfl, O10, b10⟩
  rw [← HIO.out] at O10
  have hil : (inOrder K).length = kn := by rw [inOrder_length, HKN.out]
  obtain ⟨a10, c10, hv10, _, _⟩ := own_form O10
  rw [hil] at hv10
  subst hv10
  have SN := sameN a9 a10 kn c9 c10 (inOrder K) w10 (HR9.out.below b10) (O10.row hil) (by omega)
  have HO1j : Hid _ := hide (HO1i.out.below b10)
  have HO2i : Hid _ := hide (HO2h.out.below b10)
  have HB10 : Hid _ := hide (Below.on HB9.out b10)
  clear RI O10 b10 HO1i HO2h HR9 hil
  go_wp2_with fail
  refine SN.mono ?_
  rintro r w11 ⟨rfl, b11⟩
  have SM := sameI a a1 N c c1 L w11 (HR.out.below (Below.on HB10.out b11)) ((HO1j.out.below b11).row HLN.out) (by omega)
  have HO2j : Hid _ := hide (HO2i.out.below b11)
  have HB11 : Hid _ := hide (Below.on HB10.out b11)
  clear SN b11 HO1j HO2i
  go_wp2_with fail
  refine SM.mono ?_
  rintro r w12 ⟨rfl, b12⟩
  have SN := sameN ka a2 kn kc c2 K w12 (HK.out.below (Below.on HB11.out b12)) ((HO2j.out.below b12).row HKN.out) (by omega)
  have HB12 : Hid _ := hide (Below.on HB11.out b12)
  clear SM b12 HO2j
  go_wp2_with fail
  refine SN.mono ?_
  rintro r w13 ⟨rfl, b13⟩
  have HB13 : Hid _ := hide (Below.on HB12.out b13)
  clear SN b13
  go_wp2_with fail
  go_ret
  exact ⟨rfl, HB13.out⟩
end Go.Proofs.Ytdmlehbamdcjcaa
