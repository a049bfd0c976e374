/-
  HeapOwn: the walk.
-/
import Derived.Test.YtdmlehbamdcjcabOwC
import Derived.Test.YtdmlehbamdcjcabOwN
namespace Go.Proofs.Ytdmlehbamdcjcab
open Go.RowKit
set_option maxRecDepth 20000 in
set_option maxHeartbeats 25600000 in
theorem heapOwn (w : World) (a : Option Addr) (N c : Nat) (K : List Int) (n : Int) (hr : TRow layN w a N K) (h0 : a = none → N = 0 ∧ c = 0) (hN : (N : Int) ≤ 1048576) (hn0 : -9223372036854775808 ≤ n) (hn1 : n ≤ 9223372036854775807) :
    Calls Try.prog 5 #[.slice a N c, .int .i64 n] w fun r w' => r = .returned (.bool true) ∧ Below w.heap.size w w' := by
  obtain ⟨i0, hi, hz0, hz1, hz2⟩ := info_parts Try.infoTI
  obtain ⟨i1, hi1, hy0, hy1, hy2⟩ := info_parts Try.info3w
  have HR : Hid _ := hide hr
  have HA0 : Hid _ := hide h0
  clear hr h0
  go_enter Try.func5, Try.ntmps5
  go_wp2_with fail
  refine (alive_any _).mono ?_
  rintro e0 w1 ⟨rfl, hb1⟩
  have HB1 : Hid _ := hide hb1
  have TG := tagged_any w1 a N c K (HR.out.below hb1) (by omega)
  clear hb1
  go_wp2_with fail
  refine TG.mono ?_
  rintro e1 w2 ⟨v2, rfl, o2, b2⟩
  obtain ⟨L, hL⟩ : ∃ L, L = tgI K := ⟨_, rfl⟩
  rw [← hL] at o2
  have hLl : L.length = N := by rw [hL, tgI_len]; exact HR.out.len
  have HO2 : Hid _ := hide o2
  have HB2 : Hid _ := hide b2
  have HL : Hid _ := hide hL
  have HLL : Hid _ := hide hLl
  clear TG o2 b2 hL hLl
  go_upto_region 5 with (at_builtin; refine append_lay layI _ 24 28 i0 _ 16 Try.underlying24 hi hz0 hz1 hz2 rfl rfl (.tmp 36) (.tmp 38) rfl w1.heap.size _ _ rfl (HO2.out.below (below_alloc1 _ _)) _ _ _ [(⟨77, 78⟩ : It)] rfl (TRow.one (heap_new _ _)) (fun e => by cases e) (by rw [HLL.out]; unfold maxLen; omega) (by rw [HLL.out]; omega) (by simp; have := HB2.out.size; omega) ?_; intro v3 w3 hown3 hgr3 hl3)
  have b13 : Below w1.heap.size w1 w3 := (HB2.out.alloc HB2.out.size _).grown hgr3 (by simp; have := HB2.out.size; omega) (fun q hq => (HO2.out.lt q hq).1)
  have hl3' : (L ++ [(⟨77, 78⟩ : It)]).length = N + 1 := by rw [List.length_append, HLL.out]; rfl
  obtain ⟨gi, ci, hv3, _, _, hci⟩ := hown3.frm (by omega)
  rw [hl3'] at hv3 hci
  subst hv3
  have HKL : Hid (K.length = N) := hide HR.out.len
  have F3 : Hid (Two w3 w.heap.size [(.slice (some ⟨gi, 0, none⟩) (N + 1) ci, L ++ [(⟨77, 78⟩ : It)])] []) := hide ⟨(Fam.nil _ _ w1 _).cons b13 hown3 HB1.out.size, Fam.nil _ _ _ _⟩
  have B3 : Hid (Below w.heap.size w w3) := hide (HB1.out.trans (b13.mono HB1.out.size))
  have hciI : (N : Int) ≤ (ci : Int) := by omega
  have hciI2 : (N : Int) + 1 ≤ (ci : Int) := by omega
  have HRL : Hid (∀ (W : World) (F : List (Value × List It)) (G : List (Value × List Int)) (k : Nat), Two W w.heap.size F G → F[k]? = some (.slice (some ⟨gi, 0, none⟩) (N + 1) ci, L ++ [(⟨77, 78⟩ : It)]) → TRow layI W (some ⟨gi, 0, none⟩) N L) := hide (fun W F G k T hk => by
    have h9 := (T.rowI k hk (by rw [List.length_append, HLL.out]; rfl)).cut N (by omega)
    rw [List.take_left' HLL.out] at h9
    exact h9)
  clear hown3 hgr3 hl3 b13 hl3' HO2 HB2 HB1
  go_upto_region 7 with (first
    | (at_builtin; refine append_lay layN _ 22 3 i1 _ 8 Try.underlying22 hi1 hy0 hy1 hy2 rfl rfl (.tmp 44) (.tmp 45) rfl w3.heap.size _ [] rfl (Own.lit0 layN 3 w3 (Nat.le_refl _)) _ _ _ K rfl ((HR.out.below B3.out).below (below_alloc1 _ _)) HA0.out (by simp [maxLen]; omega) (by simp; omega) (by simp) ?_; intro v4 w4 hown4 hgr4 hl4)
    | (at_builtin; refine append_lay layN _ 22 3 i1 _ 8 Try.underlying22 hi1 hy0 hy1 hy2 rfl rfl (.tmp 46) (.tmp 47) rfl w3.heap.size _ _ rfl (hown4.below (below_alloc1 _ _)) _ _ _ [(79 : Int)] rfl (TRow.one (heap_new _ _)) (fun e => by cases e) (by rw [List.nil_append, HKL.out]; unfold maxLen; omega) (by rw [List.nil_append, HKL.out]; omega) (by have := hgr4.size; simp at this ⊢; omega) ?_; intro v5 w5 hown5 hgr5 hl5))
  have b34 : Below w3.heap.size w3 w4 := (below_alloc1 w3 _).grown hgr4 (by simp) (fun k hk => by cases hk; exact Nat.le_refl _)
  have b35 : Below w3.heap.size w3 w5 := (b34.alloc b34.size _).grown hgr5 (by have := b34.size; simp; omega) (fun q hq => (hown4.lt q hq).1)
  rw [List.nil_append] at hown5
  have hl5' : (K ++ [(79 : Int)]).length = N + 1 := by rw [List.length_append, HKL.out]; rfl
  obtain ⟨gr, cr, hv5, _, _, hcr⟩ := hown5.frm (by omega)
  rw [hl5'] at hv5 hcr
  subst hv5
  have T5 : Hid _ := hide (F3.out.consN b35 hown5 B3.out.size)
  have B5 : Hid _ := hide (B3.out.trans (b35.mono B3.out.size))
  have hcrI : (N : Int) ≤ (cr : Int) := by omega
  have HRR : Hid (∀ (W : World) (F : List (Value × List It)) (G : List (Value × List Int)) (k : Nat), Two W w.heap.size F G → G[k]? = some (.slice (some ⟨gr, 0, none⟩) (N + 1) cr, K ++ [(79 : Int)]) → TRow layN W (some ⟨gr, 0, none⟩) N K) := hide (fun W F G k T hk => by
    have h9 := (T.rowN k hk (by rw [List.length_append, HKL.out]; rfl)).cut N (by omega)
    rw [List.take_left' HKL.out] at h9
    exact h9)
  have HSL : Hid ((sItems L).length = N) := hide ((sItems_len L).trans HLL.out)
  clear hown4 hgr4 hl4 hown5 hgr5 hl5 b34 b35 hl5' F3 B3
  have ST := sort_items w5 (some ⟨gi, 0, none⟩) N ci L (HRL.out _ _ _ 0 T5.out rfl) (by omega)
  go_wp2_with fail
  refine ST.mono ?_
  rintro r w6 ⟨ga, rfl, _, o6, b6⟩
  have T6 : Hid _ := hide (T5.out.consI b6 o6 B5.out.size)
  have B6 : Hid _ := hide (B5.out.trans (b6.mono B5.out.size))
  clear ST o6 b6 T5 B5
  have ST := sort_items w6 (some ⟨gi, 0, none⟩) N ci L (HRL.out _ _ _ 1 T6.out rfl) (by omega)
  go_wp2_with fail
  refine ST.mono ?_
  rintro r w7 ⟨gb, rfl, _, o7, b7⟩
  have T7 : Hid _ := hide (T6.out.consI b7 o7 B6.out.size)
  have B7 : Hid _ := hide (B6.out.trans (b7.mono B6.out.size))
  clear ST o7 b7 T6 B6
  have LS := least_items w7 (some ⟨gi, 0, none⟩) N ci L n (HRL.out _ _ _ 2 T7.out rfl) (by omega) hn0 hn1
  go_wp2_with fail
  refine LS.mono ?_
  rintro r w8 ⟨gc, kc, rfl, _, hkc, o8, b8⟩
  have T8 : Hid _ := hide (T7.out.consI b8 o8 B7.out.size)
  have B8 : Hid _ := hide (B7.out.trans (b8.mono B7.out.size))
  have HKC : Hid _ := hide hkc
  clear LS o8 b8 T7 B7 hkc
  have LS := least_items w8 (some ⟨gi, 0, none⟩) N ci L n (HRL.out _ _ _ 3 T8.out rfl) (by omega) hn0 hn1
  go_wp2_with fail
  refine LS.mono ?_
  rintro r w9 ⟨gd, kd, rfl, _, hkd, o9, b9⟩
  have hdc : kd = kc := by rw [hkd, HKC.out]
  subst hdc
  have hkN : kd ≤ N := by omega
  have HKD : Hid _ := hide hkd
  have T9 : Hid _ := hide (T8.out.consI b9 o9 B8.out.size)
  have B9 : Hid _ := hide (B8.out.trans (b9.mono B8.out.size))
  clear LS o9 b9 T8 B8 hkd HKC
  have SI : SitsI w9 ⟨some ⟨gi, 0, none⟩, N, ci⟩ L := ⟨HRL.out _ _ _ 4 T9.out rfl, fun e => (by cases e), by show N ≤ ci; omega⟩
  have MG := merge_twoW w9 ⟨some ⟨gi, 0, none⟩, N, ci⟩ L SI (by rw [HLL.out]; omega)
  go_wp2_with fail
  refine MG.mono ?_
  rintro r w10 ⟨ve, Oe, rfl, hOe, o10, b10⟩
  obtain ⟨ae, ce, hve, he0, _⟩ := own_form o10
  rw [HLL.out] at hOe
  rw [hOe] at hve he0
  have HE0 : Hid _ := hide he0
  subst hve
  have HOE : Hid _ := hide hOe
  have T10 : Hid _ := hide (T9.out.consI b10 o10 B9.out.size)
  have B10 : Hid _ := hide (B9.out.trans (b10.mono B9.out.size))
  clear MG SI o10 b10 T9 B9 hOe he0
  have SI : SitsI w10 ⟨some ⟨gi, 0, none⟩, N, ci⟩ L := ⟨HRL.out _ _ _ 5 T10.out rfl, fun e => (by cases e), by show N ≤ ci; omega⟩
  have MG := merge_oneW w10 ⟨some ⟨gi, 0, none⟩, N, ci⟩ L SI (by rw [HLL.out]; omega)
  go_wp2_with fail
  refine MG.mono ?_
  rintro r w11 ⟨vf, rfl, o11, b11⟩
  obtain ⟨af, cf, hvf, _, _⟩ := own_form o11
  rw [HLL.out] at hvf
  subst hvf
  have T11 : Hid _ := hide (T10.out.consI b11 o11 B10.out.size)
  have B11 : Hid _ := hide (B10.out.trans (b11.mono B10.out.size))
  clear MG SI o11 b11 T10 B10
  go_upto_region 10 with fail
  have TD : Hid (Two w11.drew _ _ _) := hide (T11.out.below (Below.refl _ _).drew)
  have BD : Hid (Below w.heap.size w w11.drew) := hide B11.out.drew
  go_region_held3 (fun _ => True) (trivial) (first
    | (go_at_call 21; go_must (first
        | (refine (ints_own _ (some ⟨gr, 0, none⟩) N cr K (HRR.out _ _ _ 1 T1.out rfl) (by omega)).mono ?_
           rintro e2 w12 ⟨q2, rfl, o2, b2⟩
           have T2 : Hid _ := hide (T1.out.consN b2 o2 B1.out.size)
           have B2 : Hid _ := hide (B1.out.trans (b2.mono B1.out.size)))
        | (refine (ints_own _ (some ⟨gr, 0, none⟩) N cr K (HRR.out _ _ _ 0 TD.out rfl) (by omega)).mono ?_
           rintro e1 W1 ⟨q1, rfl, o1, b1⟩
           have T1 : Hid _ := hide (TD.out.consN b1 o1 BD.out.size)
           have B1 : Hid _ := hide (BD.out.trans (b1.mono BD.out.size))))))
  have hiK : (inOrder K).length = N := (inOrder_length K).trans HKL.out
  obtain ⟨ag, cg, hvg, hg0, _⟩ := own_form o1
  obtain ⟨ah, ch, hvh, _, _⟩ := own_form o2
  rw [hiK] at hvg hvh hg0
  subst hvg hvh
  have HG0 : Hid _ := hide hg0
  have HIK : Hid _ := hide hiK
  have T12 : Hid (Two w12 w.heap.size [(.slice af N cf, L), (.slice ae (N + N) ce, Oe), (.slice (some ⟨gd, 0, none⟩) kd kd, (sItems L).take kd), (.slice (some ⟨gc, 0, none⟩) kd kd, (sItems L).take kd), (.slice (some ⟨gb, 0, none⟩) N N, sItems L), (.slice (some ⟨ga, 0, none⟩) N N, sItems L), (.slice (some ⟨gi, 0, none⟩) (N + 1) ci, L ++ [(⟨77, 78⟩ : It)])] [(.slice ah N ch, inOrder K), (.slice ag N cg, inOrder K), (.slice (some ⟨gr, 0, none⟩) (N + 1) cr, K ++ [(79 : Int)])]) := T2
  have B12 : Hid (Below w.heap.size w w12) := B2
  clear hiK hg0 T11 B11 T1 B1 T2 B2 o1 b1 o2 b2 TD BD
  go_wp2_with fail
  refine (hnewI w12).mono ?_
  rintro r w13 ⟨rfl, h13, b13⟩
  have T13 : Hid _ := hide (T12.out.below b13)
  have B13 : Hid _ := hide (B12.out.trans (b13.mono B12.out.size))
  have H13 : Hid _ := hide h13
  have HBS : Hid (w.heap.size ≤ w12.heap.size) := hide B12.out.size
  clear h13 b13 B12 T12
  go_wp2_with fail
  go_loopw [18] (fun si wr => ∃ (j : Nat) (v : Value) (F : List (Value × List It)) (G : List (Value × List Int)), si = .int .i64 j ∧ j ≤ N ∧ HsI wr w12.heap.size w12.heap.size v j (isort (fst bfI) (tg (L.take j) 0)) ∧ Two wr w.heap.size F G ∧ Below w.heap.size w wr ∧ F = [(.slice af N cf, L), (.slice ae (N + N) ce, Oe), (.slice (some ⟨gd, 0, none⟩) kd kd, (sItems L).take kd), (.slice (some ⟨gc, 0, none⟩) kd kd, (sItems L).take kd), (.slice (some ⟨gb, 0, none⟩) N N, sItems L), (.slice (some ⟨ga, 0, none⟩) N N, sItems L), (.slice (some ⟨gi, 0, none⟩) (N + 1) ci, L ++ [(⟨77, 78⟩ : It)])] ∧ G = [(.slice ah N ch, inOrder K), (.slice ag N cg, inOrder K), (.slice (some ⟨gr, 0, none⟩) (N + 1) cr, K ++ [(79 : Int)])]) (fun si _ => N - (intOf si).toNat)
  case atStart => exact ⟨0, _, _, _, rfl, Nat.zero_le _, H13.out, T13.out, B13.out, rfl, rfl⟩
  case round =>
    obtain ⟨j, v, F, G, rfl, hj, hh, ht, hb, hF, hG⟩ := hrel
    rename World => wj
    subst hF hG
    have HH : Hid _ := hide hh
    have HT : Hid _ := hide ht
    have HB : Hid _ := hide hb
    have hSl : (isort (fst bfI) (tg (L.take j) 0)).length = j := by rw [(isort_perm _ _).length_eq, tg_len, List.length_take, HLL.out]; omega
    have HSj : Hid _ := hide hSl
    clear hh ht hb hSl
    by_cases hlt : j < N
    · have hltI : (j : Int) < (N : Int) := by omega
      obtain ⟨x, hx⟩ : ∃ x, L[j]? = some x := ⟨_, List.getElem?_eq_getElem (by rw [HLL.out]; exact hlt)⟩
      obtain ⟨b, off, he, _, hc⟩ := (HRL.out _ _ _ 6 HT.out rfl).at (by omega)
      injection he with he
      injection he with he1 he2
      subst he1
      subst he2
      have x0 := hc j x hx 0 _ rfl
      have x1 := hc j x hx 1 _ rfl
      have PU := hpushI x HH.out (Nat.le_of_lt HH.out.plt) (by omega) (by rw [HSj.out]; omega)
      have HX : Hid _ := hide hx
      obtain ⟨y0, y1⟩ := x
      simp only [layI, Nat.add_zero, Nat.zero_add] at x0 x1
      clear hc hx
      go_wp2_with fail
      refine PU.mono ?_
      rintro r w14 ⟨rfl, v14, h14, b14, _⟩
      have B14 : Hid (Below w.heap.size w w14) := hide (HB.out.trans (b14.below HB.out.size (fun k hk => by
        rcases hk with hk | hk
        · have := B13.out.size; have h1 := HBS.out; omega
        · have := (HH.out.own k hk).1; have h1 := HBS.out; omega)))
      have T14 : Hid _ := hide (HT.out.heap HH.out b14)
      have h14' : HsI w14 w12.heap.size w12.heap.size v14 (j + 1) (isort (fst bfI) (tg (L.take (j + 1)) 0)) := by
        rw [take_snoc HX.out, tg_snoc, isort_snoc, List.length_take, HLL.out, Nat.min_eq_left (by omega), Int.zero_add]
        exact h14
      have H14 : Hid _ := hide h14'
      clear PU x0 x1 h14 b14 h14'
      go_wp2_with fail
      exact ⟨⟨j + 1, v14, _, _, by go_num, by omega, by simpa using H14.out, T14.out, B14.out, rfl, rfl⟩, by simp [intOf]; omega⟩
    · have hltI : ¬ (j : Int) < (N : Int) := by omega
      have hh := HH.out
      rw [List.take_of_length_le (by rw [HLL.out]; omega)] at hh
      have HX : Hid (HsI wj w12.heap.size w12.heap.size v j (isort (fst bfI) (tg L 0))) := hide hh
      have hsl : (isort (fst bfI) (tg L 0)).length = N := by rw [(isort_perm _ _).length_eq, tg_len]; exact HLL.out
      have HSX : Hid (∀ W, HsI W w12.heap.size w12.heap.size v j (isort (fst bfI) (tg L 0)) → Calls Try.prog 14 #[.pointer (some ⟨w12.heap.size, 0, none⟩)] W fun r w' => ∃ g, r = .returned (.slice (some ⟨g, 0, none⟩) N N) ∧ W.heap.size ≤ g ∧ Own layI 28 w' W.heap.size (.slice (some ⟨g, 0, none⟩) N N) (sItems L) ∧ Below W.heap.size W w') := hide (fun W hW => by
        have h9 := hsortedI hW (by rw [hsl]; omega)
        rw [hsl] at h9
        exact h9)
      have SO := HSX.out _ HX.out
      clear hh hsl HH HSj H13 T13
      go_wp2_with fail
      refine SO.mono ?_
      rintro r w15 ⟨gs, rfl, _, o15, b15⟩
      have T15 : Hid _ := hide (HT.out.consI b15 o15 HB.out.size)
      have B15 : Hid _ := hide (HB.out.trans (b15.mono HB.out.size))
      have X15 : Hid _ := hide (HX.out.below b15)
      clear SO o15 b15 HT HB HX B13
      have SO := HSX.out _ X15.out
      go_wp2_with fail
      refine SO.mono ?_
      rintro r w16 ⟨gt, rfl, _, o16, b16⟩
      have T16 : Hid _ := hide (T15.out.consI b16 o16 B15.out.size)
      have B16 : Hid _ := hide (B15.out.trans (b16.mono B15.out.size))
      have X16 : Hid _ := hide (X15.out.below b16)
      clear SO o16 b16 T15 B15 X15
      have TG := tagged_any w16 a N c K (HR.out.below B16.out) (by omega)
      go_wp2_with fail
      refine TG.mono ?_
      rintro r w17 ⟨v17, rfl, o17, b17⟩
      rw [← HL.out] at o17
      obtain ⟨a17, c17, hv17, _, _⟩ := own_form o17
      rw [HLL.out] at hv17
      subst hv17
      have T17 : Hid _ := hide (T16.out.below b17)
      have B17 : Hid _ := hide (B16.out.trans (b17.mono B16.out.size))
      have X17 : Hid _ := hide (X16.out.below b17)
      have SM := sameI (some ⟨gi, 0, none⟩) a17 N ci c17 L w17 (HRL.out _ _ _ 8 T17.out rfl) (o17.row HLL.out) (by omega)
      clear TG o17 b17 T16 B16 X16
      go_wp2_with fail
      refine SM.mono ?_
      rintro r w18 ⟨rfl, b18⟩
      have T18 : Hid _ := hide (T17.out.below b18)
      have B18 : Hid _ := hide (B17.out.trans (b18.mono B17.out.size))
      have X18 : Hid _ := hide (X17.out.below b18)
      clear SM b18 T17 B17 X17
      have hxN : (L ++ [(⟨77, 78⟩ : It)])[N]? = some ⟨77, 78⟩ := by rw [List.getElem?_append_right (by rw [HLL.out]; exact Nat.le_refl _), HLL.out, Nat.sub_self]; rfl
      have oin : Own layI 28 w18 w.heap.size (.slice (some ⟨gi, 0, none⟩) (N + 1) ci) (L ++ [(⟨77, 78⟩ : It)]) := T18.out.fi.own 8 _ rfl
      have x0 := oin.cell hxN 0 rfl
      have x1 := oin.cell hxN 1 rfl
      simp only [layI, Nat.add_zero] at x0 x1
      have hq : ∀ W' : World, (binOp .neq 28 (.agg #[.int .i64 77, .int .i64 78]) (.agg #[.int .i64 77, .int .i64 78])).run Try.prog W' = .ok (.bool false) W' := fun W' => neqI W' _ _
      have hNI1 : (N : Int) < (N : Int) + 1 := by omega
      have SN := sameNW (some ⟨gr, 0, none⟩) a N cr c K w18 (HRR.out _ _ _ 2 T18.out rfl) (HR.out.below B18.out) (by omega)
      clear hxN oin
      go_wp2_with fail
      refine SN.mono ?_
      rintro r w19 ⟨rfl, b19⟩
      have T19 : Hid _ := hide (T18.out.below b19)
      have B19 : Hid _ := hide (B18.out.trans (b19.mono B18.out.size))
      have X19 : Hid _ := hide (X18.out.below b19)
      clear SN b19 T18 B18 X18 x0 x1 hq
      have hyN : (K ++ [(79 : Int)])[N]? = some 79 := by rw [List.getElem?_append_right (by rw [HKL.out]; exact Nat.le_refl _), HKL.out, Nat.sub_self]; rfl
      have orow : Own layN 3 w19 w.heap.size (.slice (some ⟨gr, 0, none⟩) (N + 1) cr) (K ++ [(79 : Int)]) := T19.out.fn.own 2 _ rfl
      have y0 := orow.cell hyN 0 rfl
      simp only [layN, Nat.mul_one, Nat.add_zero] at y0
      clear hyN orow
      have HCK : Hid (((sItems L).take kd).length = kd) := hide (by rw [List.length_take, HSL.out]; omega)
      have TW := twinW w19 (some ⟨ga, 0, none⟩) N N (sItems L) (T19.out.rowI 7 rfl HSL.out) (fun e => by cases e) (by omega)
      go_wp2_with fail
      refine TW.mono ?_
      rintro r w20 ⟨v20, rfl, o20, b20⟩
      obtain ⟨aka, cka, hv20, _, _⟩ := own_form o20
      rw [HSL.out] at hv20
      subst hv20
      have T20 : Hid _ := hide (T19.out.consI b20 o20 B19.out.size)
      have B20 : Hid _ := hide (B19.out.trans (b20.mono B19.out.size))
      have X20 : Hid _ := hide (X19.out.below b20)
      clear TW o20 b20 T19 B19 X19 y0
      have TW := twinW w20 (some ⟨gc, 0, none⟩) kd kd ((sItems L).take kd) (T20.out.rowI 6 rfl HCK.out) (fun e => by cases e) (by omega)
      go_wp2_with fail
      refine TW.mono ?_
      rintro r w21 ⟨v21, rfl, o21, b21⟩
      obtain ⟨akc, ckc, hv21, _, _⟩ := own_form o21
      rw [HCK.out] at hv21
      subst hv21
      have T21 : Hid _ := hide (T20.out.consI b21 o21 B20.out.size)
      have B21 : Hid _ := hide (B20.out.trans (b21.mono B20.out.size))
      have X21 : Hid _ := hide (X20.out.below b21)
      clear TW o21 b21 T20 B20 X20
      have TW := twinW w21 ae (N + N) ce Oe (T21.out.rowI 5 rfl HOE.out) HE0.out (by omega)
      go_wp2_with fail
      refine TW.mono ?_
      rintro r w22 ⟨v22, rfl, o22, b22⟩
      obtain ⟨ake, cke, hv22, _, _⟩ := own_form o22
      rw [HOE.out] at hv22
      subst hv22
      have T22 : Hid _ := hide (T21.out.consI b22 o22 B21.out.size)
      have B22 : Hid _ := hide (B21.out.trans (b22.mono B21.out.size))
      have X22 : Hid _ := hide (X21.out.below b22)
      clear TW o22 b22 T21 B21 X21
      have TW := twinW w22 (some ⟨gs, 0, none⟩) N N (sItems L) (T22.out.rowI 4 rfl HSL.out) (fun e => by cases e) (by omega)
      go_wp2_with fail
      refine TW.mono ?_
      rintro r w23 ⟨v23, rfl, o23, b23⟩
      obtain ⟨aks, cks, hv23, _, _⟩ := own_form o23
      rw [HSL.out] at hv23
      subst hv23
      have T23 : Hid _ := hide (T22.out.consI b23 o23 B22.out.size)
      have B23 : Hid _ := hide (B22.out.trans (b23.mono B22.out.size))
      have X23 : Hid _ := hide (X22.out.below b23)
      clear TW o23 b23 T22 B22 X22
      go_upto_region 24 with (at_builtin; refine append_lay layN _ 22 3 i1 _ 8 Try.underlying22 hi1 hy0 hy1 hy2 rfl rfl (.tmp 158) (.tmp 159) rfl w23.heap.size _ [] rfl (Own.nil _ _ _ _) _ _ _ (inOrder K) rfl (T23.out.rowN 1 rfl HIK.out) HG0.out (by simp [maxLen]; omega) (by simp; omega) (Nat.le_refl _) ?_; intro v24 w24 hown24 hgr24 hl24)
      have b24 : Below w23.heap.size w23 w24 := (Below.refl _ _).grown hgr24 (Nat.le_refl _) (fun k hk => by cases hk)
      rw [List.nil_append] at hown24
      obtain ⟨akg, ckg, hv24, _, _⟩ := own_form hown24
      rw [HIK.out] at hv24
      subst hv24
      have T24 : Hid _ := hide (T23.out.consN b24 hown24 B23.out.size)
      have B24 : Hid _ := hide (B23.out.trans (b24.mono B23.out.size))
      have X24 : Hid _ := hide (X23.out.below b24)
      clear hown24 hgr24 hl24 b24 T23 B23 X23
      obtain ⟨w25, hw25⟩ : ∃ w25, w25 = w24.alloc (.cells #[.int .i64 4, .int .i64 1, .int .i64 2, .int .i64 2, .int .i64 3, .int .i64 3] 28 (0, 0)) := ⟨_, rfl⟩
      have b25 : Below w24.heap.size w24 w25 := by rw [hw25]; exact below_alloc1 _ _
      have R25 : Hid (TRow layI w25 (some ⟨w24.heap.size, 0, none⟩) 3 [⟨4, 1⟩, ⟨2, 2⟩, ⟨3, 3⟩]) := hide (by rw [hw25]; exact row_threeI (heap_new _ _))
      go_upto_region 25 with fail
      rw [← hw25]
      have T25 : Hid _ := hide (T24.out.below b25)
      have B25 : Hid _ := hide (B24.out.trans (b25.mono B24.out.size))
      have X25 : Hid _ := hide (X24.out.below b25)
      clear hw25 b25 T24 B24 X24
      have ST := sort_items w25 (some ⟨w24.heap.size, 0, none⟩) 3 3 _ R25.out (by omega)
      go_wp2_with fail
      refine ST.mono ?_
      rintro r w26 ⟨g26, rfl, _, _, b26⟩
      have LS := least_items w26 (some ⟨w24.heap.size, 0, none⟩) 3 3 _ 2 (R25.out.below b26) (by omega) (by omega) (by omega)
      have T26 : Hid _ := hide (T25.out.below b26)
      have B26 : Hid _ := hide (B25.out.trans (b26.mono B25.out.size))
      have X26 : Hid _ := hide (X25.out.below b26)
      have R26 : Hid _ := hide (R25.out.below b26)
      clear ST b26 T25 B25 X25 R25
      go_wp2_with fail
      refine LS.mono ?_
      rintro r w27 ⟨g27, k27, rfl, _, _, _, b27⟩
      have MG := merge_twoW w27 ⟨some ⟨w24.heap.size, 0, none⟩, 3, 3⟩ _ ⟨R26.out.below b27, fun e => (by cases e), Nat.le_refl _⟩ (by simp)
      have T27 : Hid _ := hide (T26.out.below b27)
      have B27 : Hid _ := hide (B26.out.trans (b27.mono B26.out.size))
      have X27 : Hid _ := hide (X26.out.below b27)
      clear LS b27 T26 B26 X26 R26
      go_wp2_with fail
      refine MG.mono ?_
      rintro r w28 ⟨v28, O28, rfl, _, _, b28⟩
      have IT := ints_own (w28.alloc (.cells #[.int .i64 9, .int .i64 8, .int .i64 7] 3 (0, 0))) (some ⟨w28.heap.size, 0, none⟩) 3 3 [9, 8, 7] (row_threeN (heap_new _ _)) (by omega)
      have T28 : Hid _ := hide (T27.out.below b28)
      have B28 : Hid _ := hide (B27.out.trans (b28.mono B27.out.size))
      have X28 : Hid _ := hide (X27.out.below b28)
      clear MG b28 T27 B27 X27
      go_wp2_with fail
      refine IT.mono ?_
      rintro r w29 ⟨v29, rfl, _, b29⟩
      have b29' : Below w28.heap.size w28 w29 := (below_alloc1 w28 _).trans (b29.mono (by simp))
      obtain ⟨F0, hF0⟩ : ∃ F0 : List (Value × List It), F0 = [(.slice aks N cks, sItems L), (.slice ake (N + N) cke, Oe), (.slice akc kd ckc, (sItems L).take kd), (.slice aka N cka, sItems L), (.slice (some ⟨gt, 0, none⟩) N N, sItems L), (.slice (some ⟨gs, 0, none⟩) N N, sItems L), (.slice af N cf, L), (.slice ae (N + N) ce, Oe), (.slice (some ⟨gd, 0, none⟩) kd kd, (sItems L).take kd), (.slice (some ⟨gc, 0, none⟩) kd kd, (sItems L).take kd), (.slice (some ⟨gb, 0, none⟩) N N, sItems L), (.slice (some ⟨ga, 0, none⟩) N N, sItems L)] := ⟨_, rfl⟩
      obtain ⟨G0, hG0⟩ : ∃ G0 : List (Value × List Int), G0 = [(.slice akg N ckg, inOrder K), (.slice ah N ch, inOrder K), (.slice ag N cg, inOrder K)] := ⟨_, rfl⟩
      have T29 : Hid (Two w29 w.heap.size (F0 ++ [(.slice (some ⟨gi, 0, none⟩) (N + 1) ci, L ++ [(⟨77, 78⟩ : It)])]) (G0 ++ [(.slice (some ⟨gr, 0, none⟩) (N + 1) cr, K ++ [(79 : Int)])])) := hide (by rw [hF0, hG0]; exact T28.out.below b29')
      have B29 : Hid _ := hide (B28.out.trans (b29'.mono B28.out.size))
      have X29 : Hid _ := hide (X28.out.below b29')
      have HF0 : Hid (F0.length = 12) := hide (by rw [hF0]; rfl)
      have HG0' : Hid (G0.length = 3) := hide (by rw [hG0]; rfl)
      have HFE : Hid _ := hide hF0
      have HGE : Hid _ := hide hG0
      clear IT b29 b29' T28 B28 X28 hF0 hG0
      go_wp2_with fail
      go_loopw [27] (fun si wr => ∃ (i : Nat) (In : List It) (Rw : List Int), si = .int .i64 i ∧ i ≤ N + 1 ∧ In.length = N + 1 ∧ Rw.length = N + 1 ∧ (∀ q, q < i → In[q]? = some ⟨-9, -9⟩) ∧ (∀ q, q < i → Rw[q]? = some (-9)) ∧ Two wr w.heap.size (F0 ++ [(.slice (some ⟨gi, 0, none⟩) (N + 1) ci, In)]) (G0 ++ [(.slice (some ⟨gr, 0, none⟩) (N + 1) cr, Rw)]) ∧ HsI wr w12.heap.size w12.heap.size v j (isort (fst bfI) (tg L 0)) ∧ Below w.heap.size w wr) (fun si _ => N + 1 - (intOf si).toNat)
      case atStart => exact ⟨0, _, _, rfl, Nat.zero_le _, by rw [List.length_append, HLL.out]; rfl, by rw [List.length_append, HKL.out]; rfl, fun q hq => absurd hq (Nat.not_lt_zero _), fun q hq => absurd hq (Nat.not_lt_zero _), T29.out, X29.out, B29.out⟩
      case round =>
        obtain ⟨i, In, Rw, rfl, hiN, hIl, hRl, hI9, hR9, ht, hx, hb⟩ := hrel
        rename World => wi
        have HIL : Hid _ := hide hIl
        have HRL' : Hid _ := hide hRl
        have HI9 : Hid _ := hide hI9
        have HR9 : Hid _ := hide hR9
        have HT : Hid _ := hide ht
        have HX : Hid _ := hide hx
        have HB : Hid _ := hide hb
        clear hIl hRl hI9 hR9 ht hx hb
        by_cases hlt2 : i < N + 1
        · have hltI2 : (i : Int) < (N : Int) + 1 := by omega
          have oin : Own layI 28 wi w.heap.size (.slice (some ⟨gi, 0, none⟩) (N + 1) ci) In := HT.out.fi.own 12 _ (get_app HF0.out)
          obtain ⟨y, hy⟩ : ∃ y, In[i]? = some y := ⟨_, List.getElem?_eq_getElem (by rw [HIL.out]; exact hlt2)⟩
          have x0 := oin.cell hy 0 rfl
          have x1 := oin.cell hy 1 rfl
          have f0 := oin.frozen (i * 2)
          have f1 := oin.frozen (i * 2 + 1)
          obtain ⟨yk, yt⟩ := y
          simp only [layI, Nat.add_zero] at x0 x1
          have OI : Hid _ := hide oin
          clear hy oin
          go_upto_region 33 with fail
          obtain ⟨w30, hw30⟩ : ∃ w30, w30 = setC wi gi (i * 2) [.int .i64 (-9), .int .i64 (-9)] := ⟨_, rfl⟩
          have hw30' : (wi.setCell ⟨gi, i * 2, none⟩ (.int .i64 (-9))).setCell ⟨gi, i * 2 + 1, none⟩ (.int .i64 (-9)) = w30 := by rw [hw30]; rfl
          rw [hw30']
          have bI : But (fun k => (Value.slice (some ⟨gi, 0, none⟩) (N + 1) ci).ownBlock = some k) wi w30 := by rw [hw30]; exact (But.refl _ _).setC _ (fun _ => rfl)
          have T30 : Hid (Two w30 w.heap.size (F0 ++ [(.slice (some ⟨gi, 0, none⟩) (N + 1) ci, In.set i ⟨-9, -9⟩)]) (G0 ++ [(.slice (some ⟨gr, 0, none⟩) (N + 1) cr, Rw)])) := hide (by
            have h9 := HT.out.putI 12 (get_app HF0.out) HIL.out hlt2 (⟨-9, -9⟩ : It)
            rw [set_app HF0.out] at h9
            rw [hw30]
            exact h9)
          have X30 : Hid _ := hide (HX.out.atI OI.out bI)
          have B30 : Hid (Below w.heap.size w w30) := hide (HB.out.trans (bI.below HB.out.size (fun k hk => (OI.out.lt k hk).1)))
          clear hw30 hw30' bI x0 x1 f0 f1
          have orw : Own layN 3 w30 w.heap.size (.slice (some ⟨gr, 0, none⟩) (N + 1) cr) Rw := T30.out.fn.own 3 _ (get_app HG0'.out)
          obtain ⟨z, hz⟩ : ∃ z, Rw[i]? = some z := ⟨_, List.getElem?_eq_getElem (by rw [HRL'.out]; exact hlt2)⟩
          have y0 := orw.cell hz 0 rfl
          have f2 := orw.frozen i
          simp only [layN, Nat.mul_one, Nat.add_zero] at y0
          have ORW : Hid _ := hide orw
          clear hz orw
          go_wp2_with fail
          obtain ⟨w31, hw31⟩ : ∃ w31, w31 = setC w30 gr i [.int .i64 (-9)] := ⟨_, rfl⟩
          have hw31' : w30.setCell ⟨gr, i, none⟩ (.int .i64 (-9)) = w31 := by rw [hw31]; rfl
          rw [hw31']
          have bR : But (fun k => (Value.slice (some ⟨gr, 0, none⟩) (N + 1) cr).ownBlock = some k) w30 w31 := by rw [hw31]; exact (But.refl _ _).setC _ (fun _ => rfl)
          have T31 : Two w31 w.heap.size (F0 ++ [(.slice (some ⟨gi, 0, none⟩) (N + 1) ci, In.set i ⟨-9, -9⟩)]) (G0 ++ [(.slice (some ⟨gr, 0, none⟩) (N + 1) cr, Rw.set i (-9))]) := by
            have h9 := T30.out.putN 3 (get_app HG0'.out) HRL'.out hlt2 (-9)
            rw [set_app HG0'.out] at h9
            rw [hw31]
            exact h9
          refine ⟨⟨i + 1, In.set i ⟨-9, -9⟩, Rw.set i (-9), by go_num, by omega, by rw [List.length_set]; exact HIL.out, by rw [List.length_set]; exact HRL'.out, fun q hq => ?_, fun q hq => ?_, T31, X30.out.atN ORW.out bR, B30.out.trans (bR.below B30.out.size (fun k hk => (ORW.out.lt k hk).1))⟩, by simp [intOf]; omega⟩
          · rw [List.getElem?_set]
            by_cases hqi : i = q
            · rw [if_pos hqi, if_pos (by rw [HIL.out]; omega)]
            · rw [if_neg hqi]; exact HI9.out q (by omega)
          · rw [List.getElem?_set]
            by_cases hqi : i = q
            · rw [if_pos hqi, if_pos (by rw [HRL'.out]; omega)]
            · rw [if_neg hqi]; exact HR9.out q (by omega)
        · have hltI2 : ¬ (i : Int) < (N : Int) + 1 := by omega
          have eI := all_alike HIL.out (fun q hq => HI9.out q (by omega))
          have eR := all_alike HRL'.out (fun q hq => HR9.out q (by omega))
          subst eI eR
          obtain ⟨L9, hL9⟩ : ∃ L9 : List It, L9 = List.replicate N ⟨-9, -9⟩ := ⟨_, rfl⟩
          obtain ⟨R9, hR9⟩ : ∃ R9 : List Int, R9 = List.replicate N (-9) := ⟨_, rfl⟩
          have HL9 : Hid (L9.length = N) := hide (by rw [hL9, List.length_replicate])
          have HR9l : Hid (R9.length = N) := hide (by rw [hR9, List.length_replicate])
          have HS9 : Hid (sItems L9 = L9) := hide (by rw [hL9]; exact srt_alike _ _)
          have HO9 : Hid (inOrder R9 = R9) := hide (by rw [hR9]; exact inOrder_alike _ _)
          have HRL9 : Hid (∀ (W : World), Two W w.heap.size (F0 ++ [(.slice (some ⟨gi, 0, none⟩) (N + 1) ci, List.replicate (N + 1) (⟨-9, -9⟩ : It))]) (G0 ++ [(.slice (some ⟨gr, 0, none⟩) (N + 1) cr, List.replicate (N + 1) (-9 : Int))]) → TRow layI W (some ⟨gi, 0, none⟩) N L9) := hide (fun W T => by
            have h9 := (T.rowI 12 (get_app HF0.out) (by rw [List.length_replicate])).cut N (by omega)
            rw [List.take_replicate, Nat.min_eq_left (by omega)] at h9
            rw [hL9]
            exact h9)
          have HRR9 : Hid (∀ (W : World), Two W w.heap.size (F0 ++ [(.slice (some ⟨gi, 0, none⟩) (N + 1) ci, List.replicate (N + 1) (⟨-9, -9⟩ : It))]) (G0 ++ [(.slice (some ⟨gr, 0, none⟩) (N + 1) cr, List.replicate (N + 1) (-9 : Int))]) → TRow layN W (some ⟨gr, 0, none⟩) N R9) := hide (fun W T => by
            have h9 := (T.rowN 3 (get_app HG0'.out) (by rw [List.length_replicate])).cut N (by omega)
            rw [List.take_replicate, Nat.min_eq_left (by omega)] at h9
            rw [hR9]
            exact h9)
          have TD : Hid _ := hide (HT.out.below (Below.refl _ _).drew)
          have BD : Hid (Below w.heap.size w wi.drew) := hide HB.out.drew
          have hkNI : (kd : Int) ≤ (N : Int) := by omega
          have W0 : Hid (Below wi.heap.size wi wi.drew) := hide (Below.refl _ _).drew
          clear HIL HRL' HI9 HR9 hL9 hR9 T29 X29 B29
          go_upto_region 34 with fail
          go_cut [229] from 188 to 228 (fun s1 wx => s1 = .bool false ∧ Below wi.heap.size wi wx)
          case first J K' hJ hK =>
            go_region_held3 (fun _ => True) (trivial) (first
              | (go_at_call 8; go_must (
                  refine (sort_items _ (some ⟨gi, 0, none⟩) N ci L9 (HRL9.out _ TD.out) (by omega)).mono ?_
                  rintro e1 W1 ⟨g1, rfl, -, o1, b1⟩
                  rw [HS9.out] at o1
                  have T1 : Hid _ := hide (TD.out.below b1)
                  have h1 : Below wi.heap.size wi W1 := W0.out.trans (b1.mono W0.out.size)))
              | (go_at_call 23; go_must (first
                  | (refine (twinW _ (some ⟨gi, 0, none⟩) N ci L9 (HRL9.out _ T7.out) (fun e => by cases e) (by omega)).mono ?_
                     rintro e8 W8 ⟨v8, rfl, o8, b8⟩
                     obtain ⟨a8, c8, hv8, -, hc8⟩ := own_form o8
                     rw [HL9.out] at hv8 hc8
                     subst hv8
                     have hc8I : (kd : Int) ≤ (c8 : Int) := by omega
                     have T8 : Hid _ := hide (T7.out.below b8)
                     have h8 : Below wi.heap.size wi W8 := h7.trans (b8.mono h7.size))
                  | (refine (twinW _ (some ⟨gi, 0, none⟩) N ci L9 (HRL9.out _ T4.out) (fun e => by cases e) (by omega)).mono ?_
                     rintro e5 W5 ⟨v5, rfl, o5, b5⟩
                     obtain ⟨a5, c5, hv5, -, -⟩ := own_form o5
                     rw [HL9.out] at hv5
                     subst hv5
                     have T5 : Hid _ := hide (T4.out.below b5)
                     have h5 : Below wi.heap.size wi W5 := h4.trans (b5.mono h4.size))
                  | (refine (twinW _ (some ⟨gi, 0, none⟩) N ci L9 (HRL9.out _ T1.out) (fun e => by cases e) (by omega)).mono ?_
                     rintro e2 W2 ⟨v2, rfl, o2, b2⟩
                     obtain ⟨a2, c2, hv2, -, -⟩ := own_form o2
                     rw [HL9.out] at hv2
                     subst hv2
                     have T2 : Hid _ := hide (T1.out.below b2)
                     have h2 : Below wi.heap.size wi W2 := h1.trans (b2.mono h1.size))))
              | (go_at_call 10; go_must (first
                  | (refine (sameI (some ⟨g7, 0, none⟩) a8 kd kd c8 (L9.take kd) _ ((o7.below b8).row (by rw [List.length_take, HL9.out]; omega)) ((o8.row HL9.out).cut kd hkN) (by omega)).mono ?_
                     rintro e9 W9 ⟨rfl, b9⟩
                     have T9 : Hid _ := hide (T8.out.below b9)
                     have h9 : Below wi.heap.size wi W9 := h8.trans (b9.mono h8.size))
                  | (refine (sameI a4 a5 N c4 c5 L9 _ ((o4.below b5).row HL9.out) (o5.row HL9.out) (by omega)).mono ?_
                     rintro e6 W6 ⟨rfl, b6⟩
                     have T6 : Hid _ := hide (T5.out.below b6)
                     have h6 : Below wi.heap.size wi W6 := h5.trans (b6.mono h5.size))
                  | (refine (sameI (some ⟨g1, 0, none⟩) a2 N N c2 L9 _ ((o1.below b2).row HL9.out) (o2.row HL9.out) (by omega)).mono ?_
                     rintro e3 W3 ⟨rfl, b3⟩
                     have T3 : Hid _ := hide (T2.out.below b3)
                     have h3 : Below wi.heap.size wi W3 := h2.trans (b3.mono h2.size))))
              | (go_at_call 20; go_must (
                  refine (merge_oneW W3 ⟨some ⟨gi, 0, none⟩, N, ci⟩ L9 ⟨HRL9.out _ T3.out, fun e => (by cases e), (by show N ≤ ci; omega)⟩ (by rw [HL9.out]; omega)).mono ?_
                  rintro e4 W4 ⟨v4, rfl, o4, b4⟩
                  obtain ⟨a4, c4, hv4, -, -⟩ := own_form o4
                  rw [HL9.out] at hv4
                  subst hv4
                  have T4 : Hid _ := hide (T3.out.below b4)
                  have h4 : Below wi.heap.size wi W4 := h3.trans (b4.mono h3.size)))
              | (go_at_call 15; go_must (
                  refine (least_items _ (some ⟨gi, 0, none⟩) N ci L9 n (HRL9.out _ T6.out) (by omega) hn0 hn1).mono ?_
                  rintro e7 W7 ⟨g7, k7, rfl, -, hk7, o7, b7⟩
                  rw [← HKD.out] at hk7
                  have hk8 := hk7.symm
                  subst hk8
                  rw [HS9.out] at o7
                  have T7 : Hid _ := hide (T6.out.below b7)
                  have h7 : Below wi.heap.size wi W7 := h6.trans (b7.mono h6.size)))
              | (go_at_call 21; go_must (first
                  | (refine (ints_own W9 (some ⟨gr, 0, none⟩) N cr R9 (HRR9.out _ T9.out) (by omega)).mono ?_
                     rintro e10 W10 ⟨v10, rfl, o10, b10⟩
                     rw [HO9.out] at o10
                     obtain ⟨a10, c10, hv10, -, -⟩ := own_form o10
                     rw [HR9l.out] at hv10
                     subst hv10
                     have T10 : Hid _ := hide (T9.out.below b10)
                     have h10 : Below wi.heap.size wi W10 := h9.trans (b10.mono h9.size))
                  | (refine (ints_own (W9.alloc (.cells #[] 3 (0, 0))) (some ⟨gr, 0, none⟩) N cr R9 (HRR9.out _ (T9.out.below (below_alloc1 _ _))) (by omega)).mono ?_
                     rintro e10 W10 ⟨v10, rfl, o10, b10'⟩
                     rw [HO9.out] at o10
                     obtain ⟨a10, c10, hv10, -, -⟩ := own_form o10
                     rw [HR9l.out] at hv10
                     subst hv10
                     have olit := (Own.lit0 layN 3 W9 (Nat.le_refl _)).below b10'
                     have b10 : Below W9.heap.size W9 W10 := (below_alloc1 W9 _).trans (b10'.mono (by simp))
                     have T10 : Hid _ := hide (T9.out.below b10)
                     have h10 : Below wi.heap.size wi W10 := h9.trans (b10.mono h9.size))))
              | (go_at_call 22; go_must (
                  refine (sameNW a10 a11 N c10 c11 R9 _ r10 r11 (by omega)).mono ?_
                  rintro e12 W12 ⟨rfl, b12⟩
                  have T12' : Hid _ := hide (T11.out.below b12)
                  have h12 : Below wi.heap.size wi W12 := h11.trans (b12.mono h11.size)))
              | (refine step_layW2 layN (W10.alloc (.cells #[] 3 (0, 0))) 22 3 i1 _ 8 Try.underlying22 hi1 hy0 hy1 hy2 rfl rfl (.tmp 221) (.tmp 225) rfl (W10.heap.size) _ [] rfl (Own.lit0 layN 3 W10 (Nat.le_refl _)) ⟨gr, 0, none⟩ N cr R9 rfl ((HRR9.out _ T10.out).below (below_alloc1 _ _)) (by simp [maxLen]; omega) (by simp; omega) (by simp) ?_
                 intro v11 W11 o11 gr11 _
                 have b11 : Below W10.heap.size W10 W11 := (below_alloc1 W10 _).grown gr11 (by simp) (fun k hk => by cases hk; exact Nat.le_refl _)
                 rw [List.nil_append] at o11
                 obtain ⟨a11, c11, hv11, -, -⟩ := own_form o11
                 rw [HR9l.out] at hv11
                 subst hv11
                 have r10 := (o10.below b11).row HR9l.out
                 have r11 := o11.row HR9l.out
                 have T11 : Hid _ := hide (T10.out.below b11)
                 have h11 : Below wi.heap.size wi W11 := h10.trans (b11.mono h10.size))
              | (refine step_layW2 layN (W10) 22 3 i1 _ 8 Try.underlying22 hi1 hy0 hy1 hy2 rfl rfl (.tmp 221) (.tmp 225) rfl (W9.heap.size) _ [] rfl (olit) ⟨gr, 0, none⟩ N cr R9 rfl (HRR9.out _ T10.out) (by simp [maxLen]; omega) (by simp; omega) (b10.size) ?_
                 intro v11 W11 o11 gr11 _
                 have b11 : Below W9.heap.size W9 W11 := b10.grown gr11 b10.size (fun k hk => by cases hk; exact Nat.le_refl _)
                 rw [List.nil_append] at o11
                 obtain ⟨a11, c11, hv11, -, -⟩ := own_form o11
                 rw [HR9l.out] at hv11
                 subst hv11
                 have r10 := (o10.but (But.of_grown (S := fun b => b = W9.heap.size) gr11 (fun k hk => by cases hk; rfl)) (fun g hg e9 => by
                   have h1 := (o10.lt g hg).1
                   have e8 : g = W9.heap.size := e9
                   simp at h1
                   omega)).row HR9l.out
                 have r11 := o11.row HR9l.out
                 have T11 : Hid _ := hide (T9.out.below b11)
                 have h11 : Below wi.heap.size wi W11 := h9.trans (b11.mono h9.size))
              | (refine step_layW layN (W10.alloc (.cells #[] 3 (0, 0))) 22 3 i1 _ 8 Try.underlying22 hi1 hy0 hy1 hy2 rfl (.tmp 221) (.tmp 225) rfl (W10.heap.size) _ [] rfl (Own.lit0 layN 3 W10 (Nat.le_refl _)) ⟨gr, 0, none⟩ N cr R9 rfl ((HRR9.out _ T10.out).below (below_alloc1 _ _)) (by simp [maxLen]; omega) (by simp; omega) (by simp) ?_
                 intro v11 W11 o11 gr11 _
                 have b11 : Below W10.heap.size W10 W11 := (below_alloc1 W10 _).grown gr11 (by simp) (fun k hk => by cases hk; exact Nat.le_refl _)
                 rw [List.nil_append] at o11
                 obtain ⟨a11, c11, hv11, -, -⟩ := own_form o11
                 rw [HR9l.out] at hv11
                 subst hv11
                 have r10 := (o10.below b11).row HR9l.out
                 have r11 := o11.row HR9l.out
                 have T11 : Hid _ := hide (T10.out.below b11)
                 have h11 : Below wi.heap.size wi W11 := h10.trans (b11.mono h10.size))
              | (refine step_layW layN (W10) 22 3 i1 _ 8 Try.underlying22 hi1 hy0 hy1 hy2 rfl (.tmp 221) (.tmp 225) rfl (W9.heap.size) _ [] rfl (olit) ⟨gr, 0, none⟩ N cr R9 rfl (HRR9.out _ T10.out) (by simp [maxLen]; omega) (by simp; omega) (b10.size) ?_
                 intro v11 W11 o11 gr11 _
                 have b11 : Below W9.heap.size W9 W11 := b10.grown gr11 b10.size (fun k hk => by cases hk; exact Nat.le_refl _)
                 rw [List.nil_append] at o11
                 obtain ⟨a11, c11, hv11, -, -⟩ := own_form o11
                 rw [HR9l.out] at hv11
                 subst hv11
                 have r10 := (o10.but (But.of_grown (S := fun b => b = W9.heap.size) gr11 (fun k hk => by cases hk; rfl)) (fun g hg e9 => by
                   have h1 := (o10.lt g hg).1
                   have e8 : g = W9.heap.size := e9
                   simp at h1
                   omega)).row HR9l.out
                 have r11 := o11.row HR9l.out
                 have T11 : Hid _ := hide (T9.out.below b11)
                 have h11 : Below wi.heap.size wi W11 := h9.trans (b11.mono h9.size)))
            all_goals refine hK _ _ (Met.intro (hJ _ _ ?_))
            all_goals (repeat apply Exists.intro)
            all_goals exact ⟨⟨rfl, h12⟩, rfl⟩
          case rest =>
          obtain ⟨rfl, hb34⟩ := hcut
          rename World => w34
          have T34 : Hid _ := hide (HT.out.below hb34)
          have X34 : Hid _ := hide (HX.out.below hb34)
          have B34 : Hid _ := hide (HB.out.trans (hb34.mono HB.out.size))
          have T34' : Hid (Two w34 w.heap.size [(.slice aks N cks, sItems L), (.slice ake (N + N) cke, Oe), (.slice akc kd ckc, (sItems L).take kd), (.slice aka N cka, sItems L), (.slice (some ⟨gt, 0, none⟩) N N, sItems L), (.slice (some ⟨gs, 0, none⟩) N N, sItems L), (.slice af N cf, L), (.slice ae (N + N) ce, Oe), (.slice (some ⟨gd, 0, none⟩) kd kd, (sItems L).take kd), (.slice (some ⟨gc, 0, none⟩) kd kd, (sItems L).take kd), (.slice (some ⟨gb, 0, none⟩) N N, sItems L), (.slice (some ⟨ga, 0, none⟩) N N, sItems L), (.slice (some ⟨gi, 0, none⟩) (N + 1) ci, List.replicate (N + 1) (⟨-9, -9⟩ : It))] [(.slice akg N ckg, inOrder K), (.slice ah N ch, inOrder K), (.slice ag N cg, inOrder K), (.slice (some ⟨gr, 0, none⟩) (N + 1) cr, List.replicate (N + 1) (-9 : Int))]) := hide (by
            have h9 := T34.out
            rw [HFE.out, HGE.out] at h9
            exact h9)
          obtain ⟨I9, hI9⟩ : ∃ I9, I9 = (Value.slice (some ⟨gi, 0, none⟩) (N + 1) ci, List.replicate (N + 1) (⟨-9, -9⟩ : It)) := ⟨_, rfl⟩
          obtain ⟨Z9, hZ9⟩ : ∃ Z9, Z9 = (Value.slice (some ⟨gr, 0, none⟩) (N + 1) cr, List.replicate (N + 1) (-9 : Int)) := ⟨_, rfl⟩
          have T35 : Hid _ := T34'
          rw [← hI9, ← hZ9] at T35
          clear hb34 T34 T34' hI9 hZ9 HT HX HB TD BD W0 HRL9 HRR9 HFE HGE HF0 HG0'
          go_wp2_with fail
          go_loopw [28] (fun si wr => ∃ (i : Nat) (Bc Fc Tc : List It) (Hc : List Int), si = .int .i64 i ∧ i ≤ N ∧ Bc.length = N ∧ Fc.length = N ∧ Tc.length = N ∧ Hc.length = N ∧ Two wr w.heap.size [(.slice aks N cks, sItems L), (.slice ake (N + N) cke, Oe), (.slice akc kd ckc, (sItems L).take kd), (.slice aka N cka, sItems L), (.slice (some ⟨gt, 0, none⟩) N N, Tc), (.slice (some ⟨gs, 0, none⟩) N N, sItems L), (.slice af N cf, Fc), (.slice ae (N + N) ce, Oe), (.slice (some ⟨gd, 0, none⟩) kd kd, (sItems L).take kd), (.slice (some ⟨gc, 0, none⟩) kd kd, (sItems L).take kd), (.slice (some ⟨gb, 0, none⟩) N N, Bc), (.slice (some ⟨ga, 0, none⟩) N N, sItems L), I9] [(.slice akg N ckg, inOrder K), (.slice ah N ch, Hc), (.slice ag N cg, inOrder K), Z9] ∧ HsI wr w12.heap.size w12.heap.size v j (isort (fst bfI) (tg L 0)) ∧ Below w.heap.size w wr) (fun si _ => N - (intOf si).toNat)
          case atStart => exact ⟨0, _, _, _, _, rfl, Nat.zero_le _, HSL.out, HLL.out, HSL.out, HIK.out, T35.out, X34.out, B34.out⟩
          case round =>
            obtain ⟨p, Bc, Fc, Tc, Hc, rfl, hpN, hBl, hFl, hTl, hHl, ht, hx, hb⟩ := hrel
            rename World => wp
            have HBl : Hid _ := hide hBl
            have HFl : Hid _ := hide hFl
            have HTl : Hid _ := hide hTl
            have HHl : Hid _ := hide hHl
            have HT : Hid _ := hide ht
            have HX : Hid _ := hide hx
            have HB : Hid _ := hide hb
            clear hBl hFl hTl hHl ht hx hb
            by_cases hpl : p < N
            · have hplI : (p : Int) < (N : Int) := by omega
              obtain ⟨gf, cf', hvf, _, _, _⟩ := (show Own layI 28 wp w.heap.size (.slice af N cf) Fc from HT.out.fi.own 6 _ rfl).frm (by rw [HFl.out]; omega)
              injection hvf with hvf
              subst hvf
              obtain ⟨gh, ch', hvh, _, _, _⟩ := (show Own layN 3 wp w.heap.size (.slice ah N ch) Hc from HT.out.fn.own 1 _ rfl).frm (by rw [HHl.out]; omega)
              injection hvh with hvh
              subst hvh
              have ob : Own layI 28 wp w.heap.size (.slice (some ⟨gb, 0, none⟩) N N) Bc := HT.out.fi.own 10 _ rfl
              obtain ⟨yb, hyb⟩ : ∃ y, Bc[p]? = some y := ⟨_, List.getElem?_eq_getElem (by rw [HBl.out]; exact hpl)⟩
              have x0 := ob.cell hyb 0 rfl
              have x1 := ob.cell hyb 1 rfl
              have f0 := ob.frozen (p * 2)
              have f1 := ob.frozen (p * 2 + 1)
              obtain ⟨yk, yt⟩ := yb
              simp only [layI, Nat.add_zero] at x0 x1
              have Ob : Hid _ := hide ob
              clear hyb ob
              go_upto_region 40 with fail
              obtain ⟨wb, hwb⟩ : ∃ w', w' = setC wp gb (p * 2) [.int .i64 (-1), .int .i64 0] := ⟨_, rfl⟩
              have hwb' : (wp.setCell ⟨gb, p * 2, none⟩ (.int .i64 (-1))).setCell ⟨gb, p * 2 + 1, none⟩ (.int .i64 0) = wb := by rw [hwb]; rfl
              rw [hwb']
              have bb : But (fun k => (Value.slice (some ⟨gb, 0, none⟩) N N).ownBlock = some k) wp wb := by rw [hwb]; exact (But.refl _ _).setC _ (fun _ => rfl)
              have Tb : Hid (Two wb w.heap.size _ _) := hide (by rw [hwb]; exact HT.out.putI 10 rfl HBl.out hpl (⟨-1, 0⟩ : It))
              have Xb : Hid _ := hide (HX.out.atI Ob.out bb)
              have Bb : Hid (Below w.heap.size w wb) := hide (HB.out.trans (bb.below HB.out.size (fun k hk => (Ob.out.lt k hk).1)))
              clear hwb hwb' bb x0 x1 f0 f1 Ob
              have of : Own layI 28 wb w.heap.size (.slice (some ⟨gf, 0, none⟩) N cf) Fc := Tb.out.fi.own 6 _ rfl
              obtain ⟨yf, hyf⟩ : ∃ y, Fc[p]? = some y := ⟨_, List.getElem?_eq_getElem (by rw [HFl.out]; exact hpl)⟩
              have x0 := of.cell hyf 0 rfl
              have x1 := of.cell hyf 1 rfl
              have f0 := of.frozen (p * 2)
              have f1 := of.frozen (p * 2 + 1)
              obtain ⟨yk, yt⟩ := yf
              simp only [layI, Nat.add_zero] at x0 x1
              have Of : Hid _ := hide of
              clear hyf of
              go_upto_region 41 with fail
              obtain ⟨wf, hwf⟩ : ∃ w', w' = setC wb gf (p * 2) [.int .i64 (-2), .int .i64 0] := ⟨_, rfl⟩
              have hwf' : (wb.setCell ⟨gf, p * 2, none⟩ (.int .i64 (-2))).setCell ⟨gf, p * 2 + 1, none⟩ (.int .i64 0) = wf := by rw [hwf]; rfl
              rw [hwf']
              have bf : But (fun k => (Value.slice (some ⟨gf, 0, none⟩) N cf).ownBlock = some k) wb wf := by rw [hwf]; exact (But.refl _ _).setC _ (fun _ => rfl)
              have Tf : Hid (Two wf w.heap.size _ _) := hide (by rw [hwf]; exact Tb.out.putI 6 rfl HFl.out hpl (⟨-2, 0⟩ : It))
              have Xf : Hid _ := hide (Xb.out.atI Of.out bf)
              have Bf : Hid (Below w.heap.size w wf) := hide (Bb.out.trans (bf.below Bb.out.size (fun k hk => (Of.out.lt k hk).1)))
              clear hwf hwf' bf x0 x1 f0 f1 Of
              have oh : Own layN 3 wf w.heap.size (.slice (some ⟨gh, 0, none⟩) N ch) Hc := Tf.out.fn.own 1 _ rfl
              obtain ⟨yh, hyh⟩ : ∃ y, Hc[p]? = some y := ⟨_, List.getElem?_eq_getElem (by rw [HHl.out]; exact hpl)⟩
              have x0 := oh.cell hyh 0 rfl
              have f0 := oh.frozen p
              simp only [layN, Nat.mul_one, Nat.add_zero] at x0
              have Oh : Hid _ := hide oh
              clear hyh oh
              go_upto_region 42 with fail
              obtain ⟨wh, hwh⟩ : ∃ w', w' = setC wf gh p [.int .i64 (-3)] := ⟨_, rfl⟩
              have hwh' : wf.setCell ⟨gh, p, none⟩ (.int .i64 (-3)) = wh := by rw [hwh]; rfl
              rw [hwh']
              have bh : But (fun k => (Value.slice (some ⟨gh, 0, none⟩) N ch).ownBlock = some k) wf wh := by rw [hwh]; exact (But.refl _ _).setC _ (fun _ => rfl)
              have Th : Hid (Two wh w.heap.size _ _) := hide (by rw [hwh]; exact Tf.out.putN 1 rfl HHl.out hpl (-3))
              have Xh : Hid _ := hide (Xf.out.atN Oh.out bh)
              have Bh : Hid (Below w.heap.size w wh) := hide (Bf.out.trans (bh.below Bf.out.size (fun k hk => (Oh.out.lt k hk).1)))
              clear hwh hwh' bh x0 f0 Oh
              have ot : Own layI 28 wh w.heap.size (.slice (some ⟨gt, 0, none⟩) N N) Tc := Th.out.fi.own 4 _ rfl
              obtain ⟨yt, hyt⟩ : ∃ y, Tc[p]? = some y := ⟨_, List.getElem?_eq_getElem (by rw [HTl.out]; exact hpl)⟩
              have x0 := ot.cell hyt 0 rfl
              have x1 := ot.cell hyt 1 rfl
              have f0 := ot.frozen (p * 2)
              have f1 := ot.frozen (p * 2 + 1)
              obtain ⟨yk, yt⟩ := yt
              simp only [layI, Nat.add_zero] at x0 x1
              have Ot : Hid _ := hide ot
              clear hyt ot
              go_upto_region 38 with fail
              obtain ⟨wt, hwt⟩ : ∃ w', w' = setC wh gt (p * 2) [.int .i64 (-4), .int .i64 0] := ⟨_, rfl⟩
              have hwt' : (wh.setCell ⟨gt, p * 2, none⟩ (.int .i64 (-4))).setCell ⟨gt, p * 2 + 1, none⟩ (.int .i64 0) = wt := by rw [hwt]; rfl
              rw [hwt']
              have bt : But (fun k => (Value.slice (some ⟨gt, 0, none⟩) N N).ownBlock = some k) wh wt := by rw [hwt]; exact (But.refl _ _).setC _ (fun _ => rfl)
              have Tt : Hid (Two wt w.heap.size _ _) := hide (by rw [hwt]; exact Th.out.putI 4 rfl HTl.out hpl (⟨-4, 0⟩ : It))
              have Xt : Hid _ := hide (Xh.out.atI Ot.out bt)
              have Bt : Hid (Below w.heap.size w wt) := hide (Bh.out.trans (bt.below Bh.out.size (fun k hk => (Ot.out.lt k hk).1)))
              clear hwt hwt' bt x0 x1 f0 f1 Ot
              go_wp2_with fail
              exact ⟨⟨p + 1, Bc.set p ⟨-1, 0⟩, Fc.set p ⟨-2, 0⟩, Tc.set p ⟨-4, 0⟩, Hc.set p (-3), by go_num, by omega, by rw [List.length_set]; exact HBl.out, by rw [List.length_set]; exact HFl.out, by rw [List.length_set]; exact HTl.out, by rw [List.length_set]; exact HHl.out, Tt.out, Xt.out, Bt.out⟩, by simp [intOf]; omega⟩
            · have hplI : ¬ (p : Int) < (N : Int) := by omega
              clear T35 X34 B34
              go_wp2_with fail
              go_loopw [29] (fun si wr => ∃ (q : Nat) (Dc : List It), si = .int .i64 q ∧ q ≤ kd ∧ Dc.length = kd ∧ Two wr w.heap.size [(.slice aks N cks, sItems L), (.slice ake (N + N) cke, Oe), (.slice akc kd ckc, (sItems L).take kd), (.slice aka N cka, sItems L), (.slice (some ⟨gt, 0, none⟩) N N, Tc), (.slice (some ⟨gs, 0, none⟩) N N, sItems L), (.slice af N cf, Fc), (.slice ae (N + N) ce, Oe), (.slice (some ⟨gd, 0, none⟩) kd kd, Dc), (.slice (some ⟨gc, 0, none⟩) kd kd, (sItems L).take kd), (.slice (some ⟨gb, 0, none⟩) N N, Bc), (.slice (some ⟨ga, 0, none⟩) N N, sItems L), I9] [(.slice akg N ckg, inOrder K), (.slice ah N ch, Hc), (.slice ag N cg, inOrder K), Z9] ∧ HsI wr w12.heap.size w12.heap.size v j (isort (fst bfI) (tg L 0)) ∧ Below w.heap.size w wr) (fun si _ => kd - (intOf si).toNat)
              case atStart => exact ⟨0, _, rfl, Nat.zero_le _, HCK.out, HT.out, HX.out, HB.out⟩
              case round =>
                obtain ⟨q, Dc, rfl, hqk, hDl, ht, hx, hb⟩ := hrel
                rename World => wq
                have HDl : Hid _ := hide hDl
                have HT4 : Hid _ := hide ht
                have HX4 : Hid _ := hide hx
                have HB4 : Hid _ := hide hb
                clear hDl ht hx hb HT HX HB
                by_cases hql : q < kd
                · have hqlI : (q : Int) < (kd : Int) := by omega
                  have od : Own layI 28 wq w.heap.size (.slice (some ⟨gd, 0, none⟩) kd kd) Dc := HT4.out.fi.own 8 _ rfl
                  obtain ⟨yd, hyd⟩ : ∃ y, Dc[q]? = some y := ⟨_, List.getElem?_eq_getElem (by rw [HDl.out]; exact hql)⟩
                  have x0 := od.cell hyd 0 rfl
                  have x1 := od.cell hyd 1 rfl
                  have f0 := od.frozen (q * 2)
                  have f1 := od.frozen (q * 2 + 1)
                  obtain ⟨yk, yt⟩ := yd
                  simp only [layI, Nat.add_zero] at x0 x1
                  have Od' : Hid _ := hide od
                  clear hyd od
                  go_upto_region 45 with fail
                  obtain ⟨wd, hwd⟩ : ∃ w', w' = setC wq gd (q * 2) [.int .i64 (-5), .int .i64 0] := ⟨_, rfl⟩
                  have hwd' : (wq.setCell ⟨gd, q * 2, none⟩ (.int .i64 (-5))).setCell ⟨gd, q * 2 + 1, none⟩ (.int .i64 0) = wd := by rw [hwd]; rfl
                  rw [hwd']
                  have bd : But (fun k => (Value.slice (some ⟨gd, 0, none⟩) kd kd).ownBlock = some k) wq wd := by rw [hwd]; exact (But.refl _ _).setC _ (fun _ => rfl)
                  have Td : Hid (Two wd w.heap.size _ _) := hide (by rw [hwd]; exact HT4.out.putI 8 rfl HDl.out hql (⟨-5, 0⟩ : It))
                  have Xd : Hid _ := hide (HX4.out.atI Od'.out bd)
                  have Bd : Hid (Below w.heap.size w wd) := hide (HB4.out.trans (bd.below HB4.out.size (fun k hk => (Od'.out.lt k hk).1)))
                  clear hwd hwd' bd x0 x1 f0 f1
                  go_wp2_with fail
                  exact ⟨⟨q + 1, Dc.set q ⟨-5, 0⟩, by go_num, by omega, by rw [List.length_set]; exact HDl.out, Td.out, Xd.out, Bd.out⟩, by simp [intOf]; omega⟩
                · have hqlI : ¬ (q : Int) < (kd : Int) := by omega
                  go_wp2_with fail
                  go_loopw [9, 10, 11, 12, 13, 14, 15, 16, 19, 20, 30] (fun va vb vc vd ve vf vg vh vs vt si wr => ∃ m : Nat, si = .int .i64 m ∧ m ≤ 70 ∧ Two wr w.heap.size [(.slice aks N cks, sItems L), (.slice ake (N + N) cke, Oe), (.slice akc kd ckc, (sItems L).take kd), (.slice aka N cka, sItems L), (vt, Tc ++ xI m 0 5), (vs, sItems L ++ xI m 0 4), (vf, Fc ++ xI m 0 3), (ve, Oe ++ xI m 0 2), (vd, Dc ++ xI m (-1) 0), (vc, (sItems L).take kd ++ xI m 1 0), (vb, Bc ++ xI m 0 (-1)), (va, sItems L ++ xI m 0 1), I9] [(.slice akg N ckg, inOrder K), (vh, Hc ++ xN m (-1)), (vg, inOrder K ++ xN m 1), Z9] ∧ HsI wr w12.heap.size w12.heap.size v j (isort (fst bfI) (tg L 0)) ∧ Below w.heap.size w wr) (fun _ _ _ _ _ _ _ _ _ _ si _ => 70 - (intOf si).toNat)
                  case atStart => exact ⟨0, rfl, Nat.zero_le _, by simp only [xI, xN, List.range_zero, List.map_nil, List.append_nil]; exact HT4.out, HX4.out, HB4.out⟩
                  case round =>
                    obtain ⟨m, rfl, hm70, t0, x0, b0⟩ := hrel
                    rename World => wm
                    have T0 : Hid _ := hide t0
                    have X0 : Hid _ := hide x0
                    have B0 : Hid _ := hide b0
                    clear t0 x0 b0 HT4 HX4 HB4
                    by_cases hml : m < 70
                    · have hmlI : (m : Int) < 70 := by omega
                      have La : Hid ((sItems L ++ xI m 0 1).length ≤ 4000000) := hide (by rw [List.length_append, HSL.out, xI_len]; omega)
                      have Lb : Hid ((Bc ++ xI m 0 (-1)).length ≤ 4000000) := hide (by rw [List.length_append, HBl.out, xI_len]; omega)
                      have Lc : Hid (((sItems L).take kd ++ xI m 1 0).length ≤ 4000000) := hide (by rw [List.length_append, HCK.out, xI_len]; omega)
                      have Ld : Hid ((Dc ++ xI m (-1) 0).length ≤ 4000000) := hide (by rw [List.length_append, HDl.out, xI_len]; omega)
                      have Le : Hid ((Oe ++ xI m 0 2).length ≤ 4000000) := hide (by rw [List.length_append, HOE.out, xI_len]; omega)
                      have Lf : Hid ((Fc ++ xI m 0 3).length ≤ 4000000) := hide (by rw [List.length_append, HFl.out, xI_len]; omega)
                      have Ls : Hid ((sItems L ++ xI m 0 4).length ≤ 4000000) := hide (by rw [List.length_append, HSL.out, xI_len]; omega)
                      have Lt : Hid ((Tc ++ xI m 0 5).length ≤ 4000000) := hide (by rw [List.length_append, HTl.out, xI_len]; omega)
                      have Lg : Hid ((inOrder K ++ xN m 1).length ≤ 4000000) := hide (by rw [List.length_append, HIK.out, xN_len]; omega)
                      have Lh : Hid ((Hc ++ xN m (-1)).length ≤ 4000000) := hide (by rw [List.length_append, HHl.out, xN_len]; omega)
                      go_upto_region 51 with (first | (at_builtin; refine append_lay layI _ 24 28 i0 _ 16 Try.underlying24 hi hz0 hz1 hz2 rfl rfl (.tmp 265) (.tmp 268) rfl w.heap.size _ _ rfl (((T0.out).ownI 11 rfl).below (below_alloc1 _ _)) _ _ _ [(⟨0, m⟩ : It)] rfl (TRow.one (heap_new _ _)) (fun e => by cases e) (by have := La.out; unfold maxLen; omega) (by have := La.out; omega) (by simp; have := B0.out.size; omega) ?_; intro z1 W1 o1 r1 l1; have T1 : Hid _ := hide (((T0.out).below (below_alloc1 _ _)).pushI 11 rfl o1 r1 l1); have B1 : Hid (Below w.heap.size w W1) := hide ((B0.out.alloc B0.out.size _).grown r1 (by simp; have := B0.out.size; omega) (fun q hq => (((T0.out).ownI 11 rfl).lt q hq).1)); have X1 : Hid _ := hide ((X0.out.below (below_alloc1 _ _)).atI (((T0.out).ownI 11 rfl).below (below_alloc1 _ _)) (But.of_grown r1 (fun _ e => e))); clear o1 r1 l1 T0 B0 X0) | (at_builtin; refine append_lay layI _ 24 28 i0 _ 16 Try.underlying24 hi hz0 hz1 hz2 rfl rfl (.tmp 270) (.tmp 274) rfl w.heap.size _ _ rfl (((T1.out).ownI 10 rfl).below (below_alloc1 _ _)) _ _ _ [(⟨0, -m⟩ : It)] rfl (TRow.one (heap_new _ _)) (fun e => by cases e) (by have := Lb.out; unfold maxLen; omega) (by have := Lb.out; omega) (by simp; have := B1.out.size; omega) ?_; intro z2 W2 o2 r2 l2; have T2 : Hid _ := hide (((T1.out).below (below_alloc1 _ _)).pushI 10 rfl o2 r2 l2); have B2 : Hid (Below w.heap.size w W2) := hide ((B1.out.alloc B1.out.size _).grown r2 (by simp; have := B1.out.size; omega) (fun q hq => (((T1.out).ownI 10 rfl).lt q hq).1)); have X2 : Hid _ := hide ((X1.out.below (below_alloc1 _ _)).atI (((T1.out).ownI 10 rfl).below (below_alloc1 _ _)) (But.of_grown r2 (fun _ e => e))); clear o2 r2 l2 T1 B1 X1) | (at_builtin; refine append_lay layI _ 24 28 i0 _ 16 Try.underlying24 hi hz0 hz1 hz2 rfl rfl (.tmp 276) (.tmp 279) rfl w.heap.size _ _ rfl (((T2.out).ownI 9 rfl).below (below_alloc1 _ _)) _ _ _ [(⟨m, 0⟩ : It)] rfl (TRow.one (heap_new _ _)) (fun e => by cases e) (by have := Lc.out; unfold maxLen; omega) (by have := Lc.out; omega) (by simp; have := B2.out.size; omega) ?_; intro z3 W3 o3 r3 l3; have T3 : Hid _ := hide (((T2.out).below (below_alloc1 _ _)).pushI 9 rfl o3 r3 l3); have B3 : Hid (Below w.heap.size w W3) := hide ((B2.out.alloc B2.out.size _).grown r3 (by simp; have := B2.out.size; omega) (fun q hq => (((T2.out).ownI 9 rfl).lt q hq).1)); have X3 : Hid _ := hide ((X2.out.below (below_alloc1 _ _)).atI (((T2.out).ownI 9 rfl).below (below_alloc1 _ _)) (But.of_grown r3 (fun _ e => e))); clear o3 r3 l3 T2 B2 X2) | (at_builtin; refine append_lay layI _ 24 28 i0 _ 16 Try.underlying24 hi hz0 hz1 hz2 rfl rfl (.tmp 281) (.tmp 285) rfl w.heap.size _ _ rfl (((T3.out).ownI 8 rfl).below (below_alloc1 _ _)) _ _ _ [(⟨-m, 0⟩ : It)] rfl (TRow.one (heap_new _ _)) (fun e => by cases e) (by have := Ld.out; unfold maxLen; omega) (by have := Ld.out; omega) (by simp; have := B3.out.size; omega) ?_; intro z4 W4 o4 r4 l4; have T4 : Hid _ := hide (((T3.out).below (below_alloc1 _ _)).pushI 8 rfl o4 r4 l4); have B4 : Hid (Below w.heap.size w W4) := hide ((B3.out.alloc B3.out.size _).grown r4 (by simp; have := B3.out.size; omega) (fun q hq => (((T3.out).ownI 8 rfl).lt q hq).1)); have X4 : Hid _ := hide ((X3.out.below (below_alloc1 _ _)).atI (((T3.out).ownI 8 rfl).below (below_alloc1 _ _)) (But.of_grown r4 (fun _ e => e))); clear o4 r4 l4 T3 B3 X3))
                      go_upto_region 52 with (first | (at_builtin; refine append_lay layI _ 24 28 i0 _ 16 Try.underlying24 hi hz0 hz1 hz2 rfl rfl (.tmp 287) (.tmp 291) rfl w.heap.size _ _ rfl (((T4.out).ownI 7 rfl).below (below_alloc1 _ _)) _ _ _ [(⟨0, 2 * m⟩ : It)] rfl (TRow.one (heap_new _ _)) (fun e => by cases e) (by have := Le.out; unfold maxLen; omega) (by have := Le.out; omega) (by simp; have := B4.out.size; omega) ?_; intro z5 W5 o5 r5 l5; have T5 : Hid _ := hide (((T4.out).below (below_alloc1 _ _)).pushI 7 rfl o5 r5 l5); have B5 : Hid (Below w.heap.size w W5) := hide ((B4.out.alloc B4.out.size _).grown r5 (by simp; have := B4.out.size; omega) (fun q hq => (((T4.out).ownI 7 rfl).lt q hq).1)); have X5 : Hid _ := hide ((X4.out.below (below_alloc1 _ _)).atI (((T4.out).ownI 7 rfl).below (below_alloc1 _ _)) (But.of_grown r5 (fun _ e => e))); clear o5 r5 l5 T4 B4 X4) | (at_builtin; refine append_lay layI _ 24 28 i0 _ 16 Try.underlying24 hi hz0 hz1 hz2 rfl rfl (.tmp 293) (.tmp 297) rfl w.heap.size _ _ rfl (((T5.out).ownI 6 rfl).below (below_alloc1 _ _)) _ _ _ [(⟨0, 3 * m⟩ : It)] rfl (TRow.one (heap_new _ _)) (fun e => by cases e) (by have := Lf.out; unfold maxLen; omega) (by have := Lf.out; omega) (by simp; have := B5.out.size; omega) ?_; intro z6 W6 o6 r6 l6; have T6 : Hid _ := hide (((T5.out).below (below_alloc1 _ _)).pushI 6 rfl o6 r6 l6); have B6 : Hid (Below w.heap.size w W6) := hide ((B5.out.alloc B5.out.size _).grown r6 (by simp; have := B5.out.size; omega) (fun q hq => (((T5.out).ownI 6 rfl).lt q hq).1)); have X6 : Hid _ := hide ((X5.out.below (below_alloc1 _ _)).atI (((T5.out).ownI 6 rfl).below (below_alloc1 _ _)) (But.of_grown r6 (fun _ e => e))); clear o6 r6 l6 T5 B5 X5) | (at_builtin; refine append_lay layI _ 24 28 i0 _ 16 Try.underlying24 hi hz0 hz1 hz2 rfl rfl (.tmp 299) (.tmp 303) rfl w.heap.size _ _ rfl (((T6.out).ownI 5 rfl).below (below_alloc1 _ _)) _ _ _ [(⟨0, 4 * m⟩ : It)] rfl (TRow.one (heap_new _ _)) (fun e => by cases e) (by have := Ls.out; unfold maxLen; omega) (by have := Ls.out; omega) (by simp; have := B6.out.size; omega) ?_; intro z7 W7 o7 r7 l7; have T7 : Hid _ := hide (((T6.out).below (below_alloc1 _ _)).pushI 5 rfl o7 r7 l7); have B7 : Hid (Below w.heap.size w W7) := hide ((B6.out.alloc B6.out.size _).grown r7 (by simp; have := B6.out.size; omega) (fun q hq => (((T6.out).ownI 5 rfl).lt q hq).1)); have X7 : Hid _ := hide ((X6.out.below (below_alloc1 _ _)).atI (((T6.out).ownI 5 rfl).below (below_alloc1 _ _)) (But.of_grown r7 (fun _ e => e))); clear o7 r7 l7 T6 B6 X6) | (at_builtin; refine append_lay layI _ 24 28 i0 _ 16 Try.underlying24 hi hz0 hz1 hz2 rfl rfl (.tmp 305) (.tmp 309) rfl w.heap.size _ _ rfl (((T7.out).ownI 4 rfl).below (below_alloc1 _ _)) _ _ _ [(⟨0, 5 * m⟩ : It)] rfl (TRow.one (heap_new _ _)) (fun e => by cases e) (by have := Lt.out; unfold maxLen; omega) (by have := Lt.out; omega) (by simp; have := B7.out.size; omega) ?_; intro z8 W8 o8 r8 l8; have T8 : Hid _ := hide (((T7.out).below (below_alloc1 _ _)).pushI 4 rfl o8 r8 l8); have B8 : Hid (Below w.heap.size w W8) := hide ((B7.out.alloc B7.out.size _).grown r8 (by simp; have := B7.out.size; omega) (fun q hq => (((T7.out).ownI 4 rfl).lt q hq).1)); have X8 : Hid _ := hide ((X7.out.below (below_alloc1 _ _)).atI (((T7.out).ownI 4 rfl).below (below_alloc1 _ _)) (But.of_grown r8 (fun _ e => e))); clear o8 r8 l8 T7 B7 X7))
                      go_upto_region 49 with (first | (at_builtin; refine append_lay layN _ 22 3 i1 _ 8 Try.underlying22 hi1 hy0 hy1 hy2 rfl rfl (.tmp 311) (.tmp 313) rfl w.heap.size _ _ rfl (((T8.out).ownN 2 rfl).below (below_alloc1 _ _)) _ _ _ [(m : Int)] rfl (TRow.one (heap_new _ _)) (fun e => by cases e) (by have := Lg.out; unfold maxLen; omega) (by have := Lg.out; omega) (by simp; have := B8.out.size; omega) ?_; intro z9 W9 o9 r9 l9; have T9 : Hid _ := hide (((T8.out).below (below_alloc1 _ _)).pushN 2 rfl o9 r9 l9); have B9 : Hid (Below w.heap.size w W9) := hide ((B8.out.alloc B8.out.size _).grown r9 (by simp; have := B8.out.size; omega) (fun q hq => (((T8.out).ownN 2 rfl).lt q hq).1)); have X9 : Hid _ := hide ((X8.out.below (below_alloc1 _ _)).atN (((T8.out).ownN 2 rfl).below (below_alloc1 _ _)) (But.of_grown r9 (fun _ e => e))); clear o9 r9 l9 T8 B8 X8) | (at_builtin; refine append_lay layN _ 22 3 i1 _ 8 Try.underlying22 hi1 hy0 hy1 hy2 rfl rfl (.tmp 315) (.tmp 318) rfl w.heap.size _ _ rfl (((T9.out).ownN 1 rfl).below (below_alloc1 _ _)) _ _ _ [(-m : Int)] rfl (TRow.one (heap_new _ _)) (fun e => by cases e) (by have := Lh.out; unfold maxLen; omega) (by have := Lh.out; omega) (by simp; have := B9.out.size; omega) ?_; intro z10 W10 o10 r10 l10; have T10 : Hid _ := hide (((T9.out).below (below_alloc1 _ _)).pushN 1 rfl o10 r10 l10); have B10 : Hid (Below w.heap.size w W10) := hide ((B9.out.alloc B9.out.size _).grown r10 (by simp; have := B9.out.size; omega) (fun q hq => (((T9.out).ownN 1 rfl).lt q hq).1)); have X10 : Hid _ := hide ((X9.out.below (below_alloc1 _ _)).atN (((T9.out).ownN 1 rfl).below (below_alloc1 _ _)) (But.of_grown r10 (fun _ e => e))); clear o10 r10 l10 T9 B9 X9))
                      go_wp2_with fail
                      exact ⟨⟨m + 1, by go_num, by omega, by simp only [xI_snoc, xN_snoc, ← List.append_assoc, Int.zero_mul, Int.one_mul, Int.neg_mul]; exact T10.out, X10.out, B10.out⟩, by simp [intOf]; omega⟩
                    · have hmlI : ¬ (m : Int) < 70 := by omega
                      have HM : Hid (m = 70) := hide (by omega)
                      have La : (sItems L ++ xI m 0 1).length = N + 70 := by rw [List.length_append, HSL.out, xI_len, HM.out]
                      obtain ⟨ya, kka, hva, _, _, hka⟩ := (show Own layI 28 wm w.heap.size u9 (sItems L ++ xI m 0 1) from T0.out.fi.own 11 _ rfl).frm (by rw [La]; omega)
                      rw [La] at hva hka
                      subst hva
                      have HLa : Hid _ := hide La
                      have HKa : Hid _ := hide hka
                      clear La hka
                      have Lb : (Bc ++ xI m 0 (-1)).length = N + 70 := by rw [List.length_append, HBl.out, xI_len, HM.out]
                      obtain ⟨yb, kkb, hvb, _, _, hkb⟩ := (show Own layI 28 wm w.heap.size u10 (Bc ++ xI m 0 (-1)) from T0.out.fi.own 10 _ rfl).frm (by rw [Lb]; omega)
                      rw [Lb] at hvb hkb
                      subst hvb
                      have HLb : Hid _ := hide Lb
                      have HKb : Hid _ := hide hkb
                      clear Lb hkb
                      have Lc : ((sItems L).take kd ++ xI m 1 0).length = kd + 70 := by rw [List.length_append, HCK.out, xI_len, HM.out]
                      obtain ⟨yc, kkc, hvc, _, _, hkc⟩ := (show Own layI 28 wm w.heap.size u11 ((sItems L).take kd ++ xI m 1 0) from T0.out.fi.own 9 _ rfl).frm (by rw [Lc]; omega)
                      rw [Lc] at hvc hkc
                      subst hvc
                      have HLc : Hid _ := hide Lc
                      have HKc : Hid _ := hide hkc
                      clear Lc hkc
                      have Ld : (Dc ++ xI m (-1) 0).length = kd + 70 := by rw [List.length_append, HDl.out, xI_len, HM.out]
                      obtain ⟨yd, kkd, hvd, _, _, hkd⟩ := (show Own layI 28 wm w.heap.size u12 (Dc ++ xI m (-1) 0) from T0.out.fi.own 8 _ rfl).frm (by rw [Ld]; omega)
                      rw [Ld] at hvd hkd
                      subst hvd
                      have HLd : Hid _ := hide Ld
                      have HKd : Hid _ := hide hkd
                      clear Ld hkd
                      have Le : (Oe ++ xI m 0 2).length = (N + N) + 70 := by rw [List.length_append, HOE.out, xI_len, HM.out]
                      obtain ⟨ye, kke, hve, _, _, hke⟩ := (show Own layI 28 wm w.heap.size u13 (Oe ++ xI m 0 2) from T0.out.fi.own 7 _ rfl).frm (by rw [Le]; omega)
                      rw [Le] at hve hke
                      subst hve
                      have HLe : Hid _ := hide Le
                      have HKe : Hid _ := hide hke
                      clear Le hke
                      have Lf : (Fc ++ xI m 0 3).length = N + 70 := by rw [List.length_append, HFl.out, xI_len, HM.out]
                      obtain ⟨yf, kkf, hvf, _, _, hkf⟩ := (show Own layI 28 wm w.heap.size u14 (Fc ++ xI m 0 3) from T0.out.fi.own 6 _ rfl).frm (by rw [Lf]; omega)
                      rw [Lf] at hvf hkf
                      subst hvf
                      have HLf : Hid _ := hide Lf
                      have HKf : Hid _ := hide hkf
                      clear Lf hkf
                      have Ls : (sItems L ++ xI m 0 4).length = N + 70 := by rw [List.length_append, HSL.out, xI_len, HM.out]
                      obtain ⟨ys, kks, hvs, _, _, hks⟩ := (show Own layI 28 wm w.heap.size u19 (sItems L ++ xI m 0 4) from T0.out.fi.own 5 _ rfl).frm (by rw [Ls]; omega)
                      rw [Ls] at hvs hks
                      subst hvs
                      have HLs : Hid _ := hide Ls
                      have HKs : Hid _ := hide hks
                      clear Ls hks
                      have Lt : (Tc ++ xI m 0 5).length = N + 70 := by rw [List.length_append, HTl.out, xI_len, HM.out]
                      obtain ⟨yt, kkt, hvt, _, _, hkt⟩ := (show Own layI 28 wm w.heap.size u20 (Tc ++ xI m 0 5) from T0.out.fi.own 4 _ rfl).frm (by rw [Lt]; omega)
                      rw [Lt] at hvt hkt
                      subst hvt
                      have HLt : Hid _ := hide Lt
                      have HKt : Hid _ := hide hkt
                      clear Lt hkt
                      have Lg : (inOrder K ++ xN m 1).length = N + 70 := by rw [List.length_append, HIK.out, xN_len, HM.out]
                      obtain ⟨yg, kkg, hvg, _, _, hkg⟩ := (show Own layN 3 wm w.heap.size u15 (inOrder K ++ xN m 1) from T0.out.fn.own 2 _ rfl).frm (by rw [Lg]; omega)
                      rw [Lg] at hvg hkg
                      subst hvg
                      have HLg : Hid _ := hide Lg
                      have HKg : Hid _ := hide hkg
                      clear Lg hkg
                      have Lh : (Hc ++ xN m (-1)).length = N + 70 := by rw [List.length_append, HHl.out, xN_len, HM.out]
                      obtain ⟨yh, kkh, hvh, _, _, hkh⟩ := (show Own layN 3 wm w.heap.size u16 (Hc ++ xN m (-1)) from T0.out.fn.own 1 _ rfl).frm (by rw [Lh]; omega)
                      rw [Lh] at hvh hkh
                      subst hvh
                      have HLh : Hid _ := hide Lh
                      have HKh : Hid _ := hide hkh
                      clear Lh hkh
                      go_wp2_with fail
                      clear hm70 hml hmlI
                      refine loop6_any (Fit.of _ rfl rfl) N kd (N + N) ya kka yb kkb yc kkc yd kkd ye kke yf kkf ys kks yt kkt yg kkg yh kkh (by omega) (by omega) (by omega) rfl rfl rfl rfl rfl rfl rfl rfl rfl rfl rfl (fun r hr => by
                        have G := (show Own layI 28 _ w.heap.size (.slice (some ⟨ya, 0, none⟩) (N + 70) kka) (sItems L ++ xI m 0 1) from T0.out.fi.own 11 _ rfl).cell (xI_get 0 1 (sItems L) N HSL.out (show r < m by have := HM.out; omega)) 1 rfl
                        simpa only [layI, layN, Nat.mul_one, Nat.add_zero, Int.one_mul, Int.neg_mul] using G) (fun r hr => by
                        have G := (show Own layI 28 _ w.heap.size (.slice (some ⟨yb, 0, none⟩) (N + 70) kkb) (Bc ++ xI m 0 (-1)) from T0.out.fi.own 10 _ rfl).cell (xI_get 0 (-1) (Bc) N HBl.out (show r < m by have := HM.out; omega)) 1 rfl
                        simpa only [layI, layN, Nat.mul_one, Nat.add_zero, Int.one_mul, Int.neg_mul] using G) (fun r hr => by
                        have G := (show Own layI 28 _ w.heap.size (.slice (some ⟨yc, 0, none⟩) (kd + 70) kkc) ((sItems L).take kd ++ xI m 1 0) from T0.out.fi.own 9 _ rfl).cell (xI_get 1 0 ((sItems L).take kd) kd HCK.out (show r < m by have := HM.out; omega)) 0 rfl
                        simpa only [layI, layN, Nat.mul_one, Nat.add_zero, Int.one_mul, Int.neg_mul] using G) (fun r hr => by
                        have G := (show Own layI 28 _ w.heap.size (.slice (some ⟨yd, 0, none⟩) (kd + 70) kkd) (Dc ++ xI m (-1) 0) from T0.out.fi.own 8 _ rfl).cell (xI_get (-1) 0 (Dc) kd HDl.out (show r < m by have := HM.out; omega)) 0 rfl
                        simpa only [layI, layN, Nat.mul_one, Nat.add_zero, Int.one_mul, Int.neg_mul] using G) (fun r hr => by
                        have G := (show Own layI 28 _ w.heap.size (.slice (some ⟨ye, 0, none⟩) ((N + N) + 70) kke) (Oe ++ xI m 0 2) from T0.out.fi.own 7 _ rfl).cell (xI_get 0 2 (Oe) (N + N) HOE.out (show r < m by have := HM.out; omega)) 1 rfl
                        simpa only [layI, layN, Nat.mul_one, Nat.add_zero, Int.one_mul, Int.neg_mul] using G) (fun r hr => by
                        have G := (show Own layI 28 _ w.heap.size (.slice (some ⟨yf, 0, none⟩) (N + 70) kkf) (Fc ++ xI m 0 3) from T0.out.fi.own 6 _ rfl).cell (xI_get 0 3 (Fc) N HFl.out (show r < m by have := HM.out; omega)) 1 rfl
                        simpa only [layI, layN, Nat.mul_one, Nat.add_zero, Int.one_mul, Int.neg_mul] using G) (fun r hr => by
                        have G := (show Own layI 28 _ w.heap.size (.slice (some ⟨ys, 0, none⟩) (N + 70) kks) (sItems L ++ xI m 0 4) from T0.out.fi.own 5 _ rfl).cell (xI_get 0 4 (sItems L) N HSL.out (show r < m by have := HM.out; omega)) 1 rfl
                        simpa only [layI, layN, Nat.mul_one, Nat.add_zero, Int.one_mul, Int.neg_mul] using G) (fun r hr => by
                        have G := (show Own layI 28 _ w.heap.size (.slice (some ⟨yt, 0, none⟩) (N + 70) kkt) (Tc ++ xI m 0 5) from T0.out.fi.own 4 _ rfl).cell (xI_get 0 5 (Tc) N HTl.out (show r < m by have := HM.out; omega)) 1 rfl
                        simpa only [layI, layN, Nat.mul_one, Nat.add_zero, Int.one_mul, Int.neg_mul] using G) (fun r hr => by
                        have G := (show Own layN 3 _ w.heap.size (.slice (some ⟨yg, 0, none⟩) (N + 70) kkg) (inOrder K ++ xN m 1) from T0.out.fn.own 2 _ rfl).cell (xN_get 1 (inOrder K) N HIK.out (show r < m by have := HM.out; omega)) 0 rfl
                        simpa only [layI, layN, Nat.mul_one, Nat.add_zero, Int.one_mul, Int.neg_mul] using G) (fun r hr => by
                        have G := (show Own layN 3 _ w.heap.size (.slice (some ⟨yh, 0, none⟩) (N + 70) kkh) (Hc ++ xN m (-1)) from T0.out.fn.own 1 _ rfl).cell (xN_get (-1) (Hc) N HHl.out (show r < m by have := HM.out; omega)) 0 rfl
                        simpa only [layI, layN, Nat.mul_one, Nat.add_zero, Int.one_mul, Int.neg_mul] using G) ?_
                      intro A9 ρ9 hF9 ag9
                      rename ∀ (a : Act) (w : World), Code.wp Try.prog _ _ a w → _ => hk
                      refine hk A9 wm ?_
                      clear hk
                      refine end58_any hF9 N kd (N + N) ya kka yc kkc ye kke ys kks yg kkg aka akc ake aks akg cka ckc cke cks ckg (.pointer (some ⟨w12.heap.size, 0, none⟩)) ((ag9 9 (by decide)).trans rfl) ((ag9 11 (by decide)).trans rfl) ((ag9 13 (by decide)).trans rfl) ((ag9 19 (by decide)).trans rfl) ((ag9 15 (by decide)).trans rfl) ((ag9 21 (by decide)).trans rfl) ((ag9 22 (by decide)).trans rfl) ((ag9 23 (by decide)).trans rfl) ((ag9 24 (by decide)).trans rfl) ((ag9 25 (by decide)).trans rfl) ((ag9 17 (by decide)).trans rfl) (by have := HKa.out; omega) (by have := HKc.out; omega) (by have := HKe.out; omega) (by have := HKs.out; omega) (by have := HKg.out; omega) (fun Y hY => ?_) (fun Y hY => ?_) (fun Y hY => ?_) (fun Y hY => ?_) (fun Y hY => ?_) (fun Y hY => ?_) (fun A' ρ' w' hF' h4 hb => ?_)
                      · have T9 := T0.out.below hY
                        have h9 := ((T9.ownI 11 rfl).row HLa.out).cut N (by omega)
                        rw [List.take_left' HSL.out] at h9
                        exact sameI (some ⟨ya, 0, none⟩) aka N kka cka (sItems L) Y h9 (T9.rowI 3 rfl HSL.out) (by omega)
                      · have T9 := T0.out.below hY
                        have h9 := ((T9.ownI 9 rfl).row HLc.out).cut kd (by omega)
                        rw [List.take_left' HCK.out] at h9
                        exact sameI (some ⟨yc, 0, none⟩) akc kd kkc ckc ((sItems L).take kd) Y h9 (T9.rowI 2 rfl HCK.out) (by omega)
                      · have T9 := T0.out.below hY
                        have h9 := ((T9.ownI 7 rfl).row HLe.out).cut (N + N) (by omega)
                        rw [List.take_left' HOE.out] at h9
                        exact sameI (some ⟨ye, 0, none⟩) ake (N + N) kke cke Oe Y h9 (T9.rowI 1 rfl HOE.out) (by omega)
                      · have T9 := T0.out.below hY
                        have h9 := ((T9.ownI 5 rfl).row HLs.out).cut N (by omega)
                        rw [List.take_left' HSL.out] at h9
                        exact sameI (some ⟨ys, 0, none⟩) aks N kks cks (sItems L) Y h9 (T9.rowI 0 rfl HSL.out) (by omega)
                      · have T9 := T0.out.below hY
                        have h9 := ((T9.ownN 2 rfl).row HLg.out).cut N (by omega)
                        rw [List.take_left' HIK.out] at h9
                        exact sameNW (some ⟨yg, 0, none⟩) akg N kkg ckg (inOrder K) Y h9 (T9.rowN 0 rfl HIK.out) (by omega)
                      · refine (HSX.out Y (X0.out.below hY)).mono ?_
                        rintro e6 V6 ⟨gx, rfl, _, o6, d6⟩
                        exact ⟨_, rfl, d6, sameI (some ⟨gx, 0, none⟩) aks N N cks (sItems L) V6 (o6.row HSL.out) (((T0.out.below hY).below d6).rowI 0 rfl HSL.out) (by omega)⟩
                      · exact bodyPost_ret (v := .bool true) (by rw [results_tmp Try.results5, show A'.tmps.getD 4 undef = ρ' 4 from hF'.eval (by decide), h4]) hF'.df ⟨rfl, B0.out.trans (hb.mono B0.out.size)⟩
end Go.Proofs.Ytdmlehbamdcjcab
