/-
  The document's order of records: by halves, merged.
-/
import Derived.Test.YtdmlehbamdcjcaaHpHR
import Derived.Test.YtdmlehbamdcjcaaHpW
import Derived.Test.YtdmlehbamdcjcaaMgM
namespace Go.Proofs.Ytdmlehbamdcjcaa
open Go.RowKit
set_option maxRecDepth 8000 in
theorem srec_short (w : World) (a : Option Addr) (N c : Nat) (L : List Rc) (s : Int) (hr : TRow layR w a N L) (h0 : a = none → N = 0 ∧ c = 0) (hN : N ≤ 1) :
    Calls Try.prog 18 #[.slice a N c] w fun r w' => ∃ v T, r = .returned v ∧ Own layR 47 w' w.heap.size v (T.map Prod.fst) ∧ T.Perm (tg L s) ∧ Srt (fst bfR) T ∧ Below w.heap.size w w' := by
  obtain ⟨i0, hi, hz0, hz1, hz2⟩ := info_parts Try.infoTR
  have HR : Hid _ := hide hr
  have HN : Hid _ := hide h0
  have hlen := hr.len
  have HS : Hid (Srt (fst bfR) (tg L s)) := hide (by
    match L, hlen with
    | [], _ => exact .nil
    | [x], _ => exact List.pairwise_singleton ..
    | x :: y :: l, h => simp at h; omega)
  have HL : Hid _ := hide hlen
  have hNd : decide ((N : Int) ≤ 1) = true := decide_eq_true (by omega)
  have hNe : decide (N ≤ 1) = true := decide_eq_true hN
  clear hr h0 hlen
  go_enter Try.func18, Try.ntmps18
  go_wp2_with (at_builtin; refine append_lay layR _ 42 47 i0 _ 40 Try.underlying42 hi hz0 hz1 hz2 rfl rfl (.tmp 12) (.tmp 13) rfl w.heap.size _ [] rfl (Own.nil _ _ _ _) _ _ _ L rfl HR.out HN.out (by simp [maxLen]; omega) (by simp; omega) (Nat.le_refl _) ?_; intro v2 w2 hown2 hgr2 hl2)
  go_ret
  exact ⟨v2, tg L s, rfl, by rw [tg_fst]; exact hown2, .refl _, HS.out, (Below.refl _ _).grown hgr2 (Nat.le_refl _) (fun k hk => by cases hk)⟩
theorem ordR1 : Ord (fst bfR) := fst_ord fun a : Rc => a.stamp
theorem sep_low {T2 : List (Rc × Int)} {k : Nat} {x y : Rc × Int} (hs : Srt (fst bfR) T2) (hy : T2[k]? = some y) (hle : fst bfR y x = false) : ∀ r ∈ T2.drop k, fst bfR r x = false :=
  fun r hr => ordR1.neg _ _ _ (srt_drop ordR1 hs hy r hr) hle
set_option maxRecDepth 8000 in
set_option maxHeartbeats 6400000 in
theorem srec_long (w : World) (b off N c : Nat) (L : List Rc) (s : Int) (hr : TRow layR w (some ⟨b, off, none⟩) N L) (hc : N ≤ c) (hN : 2 ≤ N) (hl : (N : Int) ≤ 3518437208883)
    (ih : ∀ (M : Nat), M < N → ∀ (w : World) (a : Option Addr) (c : Nat) (L : List Rc) (s : Int), TRow layR w a M L → (a = none → M = 0 ∧ c = 0) → (∀ ad, a = some ad → ∃ b off, ad = ⟨b, off, none⟩) → M ≤ c →
      Calls Try.prog 18 #[.slice a M c] w fun r w' => ∃ v T, r = .returned v ∧ Own layR 47 w' w.heap.size v (T.map Prod.fst) ∧ T.Perm (tg L s) ∧ Srt (fst bfR) T ∧ Below w.heap.size w w') :
    Calls Try.prog 18 #[.slice (some ⟨b, off, none⟩) N c] w fun r w' => ∃ v T, r = .returned v ∧ Own layR 47 w' w.heap.size v (T.map Prod.fst) ∧ T.Perm (tg L s) ∧ Srt (fst bfR) T ∧ Below w.heap.size w w' := by
  obtain ⟨i0, hi, hz0, hz1, hz2⟩ := info_parts Try.infoTR
  obtain ⟨h, hh⟩ : ∃ h, h = N / 2 := ⟨_, rfl⟩
  have hh1 : 1 ≤ h := by omega
  have hh2 : h < N := by omega
  have hhI : ((N : Int)).tdiv 2 = (h : Int) := by rw [Int.tdiv_eq_ediv_of_nonneg (by omega)]; omega
  have hhJ : (N : Int) / 2 = (h : Int) := by omega
  have hch : ¬ c = h := by omega
  have hNd : decide ((N : Int) ≤ 1) = false := decide_eq_false (by omega)
  have hNe : decide (N ≤ 1) = false := decide_eq_false (by omega)
  have hhc : (h : Int) ≤ (c : Int) := by omega
  have hhn : (h : Int) ≤ (N : Int) := by omega
  have hhN : h ≤ N := by omega
  have C1 := ih h hh2 w (some ⟨b, off, none⟩) c (L.take h) s (hr.cut h (by omega)) (fun e => by cases e) (fun ad e => ⟨b, off, by injection e with e; exact e.symm⟩) (by omega)
  have HR : Hid _ := hide hr
  have HLN : Hid _ := hide hr.len
  have IH : Hid _ := hide ih
  have HH : Hid _ := hide hh
  clear hr ih hh
  go_enter Try.func18, Try.ntmps18
  go_wp2_with fail
  (try rw [hhI])
  (try rw [hhJ])
  refine C1.mono ?_
  rintro r w1 ⟨v1, T1, rfl, O1, P1, S1, B1⟩
  clear C1
  have C2 := IH.out (N - h) (by omega) w1 (some ⟨b, off + h * 5, none⟩) (c - h) (L.drop h) (s + h) ((HR.out.below B1).drop h (by omega)) (fun e => by cases e) (fun ad e => ⟨b, off + h * 5, by injection e with e; exact e.symm⟩) (by omega)
  have hT1 : T1.length = h := by rw [P1.length_eq, tg_len, List.length_take, HLN.out]; omega
  obtain ⟨g1, c1, hv1, hg1b, hg1l, _⟩ := O1.frm (by rw [List.length_map, hT1]; omega)
  rw [List.length_map, hT1] at hv1
  subst hv1
  have HO1 : Hid _ := hide O1
  have HP1 : Hid _ := hide P1
  have HS1 : Hid _ := hide S1
  have HB1 : Hid _ := hide B1
  have HT1 : Hid _ := hide hT1
  clear O1 P1 S1 B1 hT1
  go_wp2_with fail
  (try rw [hhI])
  (try rw [hhJ])
  refine C2.mono ?_
  rintro r w2 ⟨v2, T2, rfl, O2, P2, S2, B2⟩
  clear C2
  have hT2 : T2.length = N - h := by rw [P2.length_eq, tg_len, List.length_drop, HLN.out]
  obtain ⟨g2, c2, hv2, hg2b, hg2l, _⟩ := O2.frm (by rw [List.length_map, hT2]; omega)
  rw [List.length_map, hT2] at hv2
  subst hv2
  have HO1b : Hid _ := hide (HO1.out.below B2)
  have HO2 : Hid _ := hide O2
  have HP2 : Hid _ := hide P2
  have HS2 : Hid _ := hide S2
  have HB2 : Hid _ := hide (Below.on HB1.out B2)
  have HT2 : Hid _ := hide hT2
  have hg1w : g1 < w2.heap.size := by have := B2.size; omega
  obtain ⟨n2, hn2⟩ : ∃ n2, n2 = N - h := ⟨_, rfl⟩
  have HN2 : Hid _ := hide hn2
  have hnN : h + n2 = N := by omega
  rw [← hn2] at hT2
  have HT2' : Hid _ := hide hT2
  rw [← hn2]
  have hO2' := O2
  rw [← hn2] at hO2'
  have HO2' : Hid _ := hide hO2'
  have HSEP : Hid (∀ x ∈ T1, ∀ y ∈ T2, x.2 < y.2) := hide (fun x hx y hy => by
    have h1 := (tg_ge _ _ x (HP1.out.mem_iff.mp hx)).2
    have h2 := (tg_ge _ _ y (P2.mem_iff.mp hy)).1
    rw [List.length_take, HLN.out] at h1
    omega)
  clear O2 P2 S2 B2 hT2 hO2' hn2 HO2 hhI hhJ hhc hhn hch hNd hNe hhN HT2
  go_wp2_with fail
  go_loopw [6, 7, 8] (fun so si sk wr => ∃ (O : List (Rc × Int)) (i k : Nat), Own layR 47 wr w2.heap.size so (O.map Prod.fst) ∧ si = .int .i64 i ∧ sk = .int .i64 k ∧ i ≤ h ∧ k ≤ n2 ∧ Mg (fst bfR) T1 T2 O i k ∧ Below w2.heap.size w2 wr) (fun _ si sk _ => (h - (intOf si).toNat) + (n2 - (intOf sk).toNat))
  case atStart =>
    exact ⟨[], 0, 0, Own.nil _ _ _ _, rfl, rfl, Nat.zero_le _, Nat.zero_le _, Mg.zero _ _ _, Below.refl _ _⟩
  case round =>
    obtain ⟨O, i, k, hO, rfl, rfl, hih, hkn, hmg, hb⟩ := hrel
    have HOr : Hid _ := hide hO
    have HMg : Hid _ := hide hmg
    have HBr : Hid _ := hide hb
    have HOL : Hid ((O.map Prod.fst).length = i + k) := hide (by rw [List.length_map, hmg.len (by rw [HT1.out]; exact hih) (by rw [HT2'.out]; exact hkn)])
    have HW1 : Hid _ := hide (HO1b.out.below hb)
    have HW2 : Hid _ := hide (HO2'.out.below hb)
    have hg1r : g1 < wr.heap.size := by have := hb.size; omega
    have hg2r : g2 < wr.heap.size := by have := hb.size; omega
    have hik : (i : Int) + k ≤ 3518437208883 := by omega
    clear hO hmg hb
    by_cases hi1 : i < h
    · have hi1I : (i : Int) < (h : Int) := by omega
      obtain ⟨e1, he1⟩ : ∃ e, T1[i]? = some e := ⟨_, List.getElem?_eq_getElem (by rw [HT1.out]; exact hi1)⟩
      have HX1 : Hid _ := hide he1
      have hf1 : (T1.map Prod.fst)[i]? = some e1.1 := by rw [List.getElem?_map, he1]; rfl
      have x0 := HW1.out.cell hf1 0 rfl
      have x1 := HW1.out.cell hf1 1 rfl
      have x2 := HW1.out.cell hf1 2 rfl
      have x3 := HW1.out.cell hf1 3 rfl
      have x4 := HW1.out.cell hf1 4 rfl
      obtain ⟨⟨a0, a1, a2, a3, a4⟩, ua⟩ := e1
      simp only [layR, Nat.add_zero] at x0 x1 x2 x3 x4
      clear he1 hf1
      by_cases hk1 : k < n2
      · have hk1I : (k : Int) < (n2 : Int) := by omega
        have hkb : (k == n2) = false := by simp; omega
        have hkbI : ((k : Int) == (n2 : Int)) = false := by simp; omega
        obtain ⟨e2, he2⟩ : ∃ e, T2[k]? = some e := ⟨_, List.getElem?_eq_getElem (by rw [HT2'.out]; exact hk1)⟩
        have HX2 : Hid _ := hide he2
        have hf2 : (T2.map Prod.fst)[k]? = some e2.1 := by rw [List.getElem?_map, he2]; rfl
        have y0 := HW2.out.cell hf2 0 rfl
        have y1 := HW2.out.cell hf2 1 rfl
        have y2 := HW2.out.cell hf2 2 rfl
        have y3 := HW2.out.cell hf2 3 rfl
        have y4 := HW2.out.cell hf2 4 rfl
        obtain ⟨⟨b0, b1, b2, b3, b4⟩, ub⟩ := e2
        simp only [layR, Nat.add_zero] at y0 y1 y2 y3 y4
        have HLT : Hid (ua < ub) := hide (HSEP.out _ (List.mem_of_getElem? HX1.out) _ (List.mem_of_getElem? HX2.out))
        clear he2 hf2
        by_cases hle : a0 ≤ b0
        · have hled : decide (a0 ≤ b0) = true := decide_eq_true hle
          have REM : Hid (∀ r ∈ T2.drop k, fst bfR r (⟨a0, a1, a2, a3, a4⟩, ua) = false) := hide (sep_low HS2.out HX2.out (by
            unfold fst bfR
            have := HLT.out
            rw [if_neg (by dsimp only; omega)]
            exact decide_eq_false (by dsimp only; omega)))
          go_wp2_with fail
          go_quiet (fail)
          clear y0 y1 y2 y3 y4
          obtain ⟨w5, hw5⟩ : ∃ w5, w5 = wr.drewN nq := ⟨_, rfl⟩
          have b5 : Below wr.heap.size wr w5 := by rw [hw5]; exact below_drewN (Below.refl _ _) _
          rw [← hw5]
          clear hw5
          have HB5 : Hid _ := hide (HBr.out.trans (b5.mono HBr.out.size))
          have O5 : Hid _ := hide (HOr.out.below b5)
          obtain ⟨ao, co, hvo, _, _⟩ := own_form HOr.out
          subst hvo
          have z0 : w5.cell? ⟨g1, i * 5, none⟩ = some (.int .i64 a0) := (b5.cell (p := ⟨g1, i * 5, none⟩) hg1r).trans x0
          have z1 : w5.cell? ⟨g1, i * 5 + 1, none⟩ = some (.int .i64 a1) := (b5.cell (p := ⟨g1, i * 5 + 1, none⟩) hg1r).trans x1
          have z2 : w5.cell? ⟨g1, i * 5 + 2, none⟩ = some (.int .u64 a2) := (b5.cell (p := ⟨g1, i * 5 + 2, none⟩) hg1r).trans x2
          have z3 : w5.cell? ⟨g1, i * 5 + 3, none⟩ = some (.int .u64 a3) := (b5.cell (p := ⟨g1, i * 5 + 3, none⟩) hg1r).trans x3
          have z4 : w5.cell? ⟨g1, i * 5 + 4, none⟩ = some (.int .i64 a4) := (b5.cell (p := ⟨g1, i * 5 + 4, none⟩) hg1r).trans x4
          have hs5 := b5.size
          clear b5 x0 x1 x2 x3 x4
          go_wp2_with (at_builtin; refine append_lay layR _ 42 47 i0 _ 40 Try.underlying42 hi hz0 hz1 hz2 rfl rfl (.tmp 60) (.tmp 65) rfl w2.heap.size _ _ rfl (O5.out.below (below_alloc1 _ _)) _ _ _ [⟨a0, a1, a2, a3, a4⟩] rfl (TRow.one (heap_new _ _)) (fun e => by cases e) (by rw [HOL.out]; simp [maxLen]; omega) (by rw [HOL.out]; omega) (by simp; have := HBr.out.size; omega) ?_; intro v6 w6 hown6 hgr6 hl6)
          have HO6 : Hid (Own layR 47 w6 w2.heap.size v6 ((O ++ [((⟨a0, a1, a2, a3, a4⟩, ua) : Rc × Int)]).map Prod.fst)) := hide (by rw [List.map_append]; exact hown6)
          have HB6 : Hid (Below w2.heap.size w2 w6) := hide ((HB5.out.alloc HB5.out.size _).grown hgr6 (by simp; have := HB5.out.size; omega) (fun q hq => (O5.out.lt q hq).1))
          clear hown6 hgr6 z0 z1 z2 z3 z4
          refine ⟨⟨O ++ [((⟨a0, a1, a2, a3, a4⟩, ua) : Rc × Int)], i + 1, k, HO6.out, by go_num, by go_num, by omega, by omega, HMg.out.left ordR1 HS1.out HX1.out REM.out, HB6.out⟩, by simp [intOf]; omega⟩
        · have hled : decide (a0 ≤ b0) = false := decide_eq_false hle
          have REM : Hid (∀ r ∈ T1.drop i, fst bfR r (⟨b0, b1, b2, b3, b4⟩, ub) = false) := hide (sep_low HS1.out HX1.out (by
            unfold fst bfR
            have := HLT.out
            rw [if_pos (by dsimp only; omega)]
            simp; omega))
          go_wp2_with fail
          go_quiet (fail)
          clear x0 x1 x2 x3 x4
          obtain ⟨w5, hw5⟩ : ∃ w5, w5 = wr.drewN nq := ⟨_, rfl⟩
          have b5 : Below wr.heap.size wr w5 := by rw [hw5]; exact below_drewN (Below.refl _ _) _
          rw [← hw5]
          clear hw5
          have HB5 : Hid _ := hide (HBr.out.trans (b5.mono HBr.out.size))
          have O5 : Hid _ := hide (HOr.out.below b5)
          obtain ⟨ao, co, hvo, _, _⟩ := own_form HOr.out
          subst hvo
          have z0 : w5.cell? ⟨g2, k * 5, none⟩ = some (.int .i64 b0) := (b5.cell (p := ⟨g2, k * 5, none⟩) hg2r).trans y0
          have z1 : w5.cell? ⟨g2, k * 5 + 1, none⟩ = some (.int .i64 b1) := (b5.cell (p := ⟨g2, k * 5 + 1, none⟩) hg2r).trans y1
          have z2 : w5.cell? ⟨g2, k * 5 + 2, none⟩ = some (.int .u64 b2) := (b5.cell (p := ⟨g2, k * 5 + 2, none⟩) hg2r).trans y2
          have z3 : w5.cell? ⟨g2, k * 5 + 3, none⟩ = some (.int .u64 b3) := (b5.cell (p := ⟨g2, k * 5 + 3, none⟩) hg2r).trans y3
          have z4 : w5.cell? ⟨g2, k * 5 + 4, none⟩ = some (.int .i64 b4) := (b5.cell (p := ⟨g2, k * 5 + 4, none⟩) hg2r).trans y4
          have hs5 := b5.size
          clear b5 
          go_wp2_with (at_builtin; refine append_lay layR _ 42 47 i0 _ 40 Try.underlying42 hi hz0 hz1 hz2 rfl rfl (.tmp 69) (.tmp 74) rfl w2.heap.size _ _ rfl (O5.out.below (below_alloc1 _ _)) _ _ _ [⟨b0, b1, b2, b3, b4⟩] rfl (TRow.one (heap_new _ _)) (fun e => by cases e) (by rw [HOL.out]; simp [maxLen]; omega) (by rw [HOL.out]; omega) (by simp; have := HBr.out.size; omega) ?_; intro v6 w6 hown6 hgr6 hl6)
          have HO6 : Hid (Own layR 47 w6 w2.heap.size v6 ((O ++ [((⟨b0, b1, b2, b3, b4⟩, ub) : Rc × Int)]).map Prod.fst)) := hide (by rw [List.map_append]; exact hown6)
          have HB6 : Hid (Below w2.heap.size w2 w6) := hide ((HB5.out.alloc HB5.out.size _).grown hgr6 (by simp; have := HB5.out.size; omega) (fun q hq => (O5.out.lt q hq).1))
          clear hown6 hgr6 z0 z1 z2 z3 z4
          refine ⟨⟨O ++ [((⟨b0, b1, b2, b3, b4⟩, ub) : Rc × Int)], i, k + 1, HO6.out, by go_num, by go_num, by omega, by omega, HMg.out.right ordR1 HS2.out HX2.out REM.out, HB6.out⟩, by simp [intOf]; omega⟩
      · have hke : k = n2 := by omega
        have hkb : (k == n2) = true := by simp; omega
        have hkbI : ((k : Int) == (n2 : Int)) = true := by simp; omega
        have REM : Hid (∀ r ∈ T2.drop k, fst bfR r (⟨a0, a1, a2, a3, a4⟩, ua) = false) := hide (fun r hr => by rw [List.drop_of_length_le (by rw [HT2'.out]; omega)] at hr; simp at hr)
        clear hke
        go_wp2_with fail
        go_quiet (fail)
        obtain ⟨w5, hw5⟩ : ∃ w5, w5 = wr.drewN nq := ⟨_, rfl⟩
        have b5 : Below wr.heap.size wr w5 := by rw [hw5]; exact below_drewN (Below.refl _ _) _
        rw [← hw5]
        clear hw5
        have HB5 : Hid _ := hide (HBr.out.trans (b5.mono HBr.out.size))
        have O5 : Hid _ := hide (HOr.out.below b5)
        obtain ⟨ao, co, hvo, _, _⟩ := own_form HOr.out
        subst hvo
        have z0 : w5.cell? ⟨g1, i * 5, none⟩ = some (.int .i64 a0) := (b5.cell (p := ⟨g1, i * 5, none⟩) hg1r).trans x0
        have z1 : w5.cell? ⟨g1, i * 5 + 1, none⟩ = some (.int .i64 a1) := (b5.cell (p := ⟨g1, i * 5 + 1, none⟩) hg1r).trans x1
        have z2 : w5.cell? ⟨g1, i * 5 + 2, none⟩ = some (.int .u64 a2) := (b5.cell (p := ⟨g1, i * 5 + 2, none⟩) hg1r).trans x2
        have z3 : w5.cell? ⟨g1, i * 5 + 3, none⟩ = some (.int .u64 a3) := (b5.cell (p := ⟨g1, i * 5 + 3, none⟩) hg1r).trans x3
        have z4 : w5.cell? ⟨g1, i * 5 + 4, none⟩ = some (.int .i64 a4) := (b5.cell (p := ⟨g1, i * 5 + 4, none⟩) hg1r).trans x4
        have hs5 := b5.size
        clear b5 x0 x1 x2 x3 x4
        go_wp2_with (at_builtin; refine append_lay layR _ 42 47 i0 _ 40 Try.underlying42 hi hz0 hz1 hz2 rfl rfl (.tmp 60) (.tmp 65) rfl w2.heap.size _ _ rfl (O5.out.below (below_alloc1 _ _)) _ _ _ [⟨a0, a1, a2, a3, a4⟩] rfl (TRow.one (heap_new _ _)) (fun e => by cases e) (by rw [HOL.out]; simp [maxLen]; omega) (by rw [HOL.out]; omega) (by simp; have := HBr.out.size; omega) ?_; intro v6 w6 hown6 hgr6 hl6)
        have HO6 : Hid (Own layR 47 w6 w2.heap.size v6 ((O ++ [((⟨a0, a1, a2, a3, a4⟩, ua) : Rc × Int)]).map Prod.fst)) := hide (by rw [List.map_append]; exact hown6)
        have HB6 : Hid (Below w2.heap.size w2 w6) := hide ((HB5.out.alloc HB5.out.size _).grown hgr6 (by simp; have := HB5.out.size; omega) (fun q hq => (O5.out.lt q hq).1))
        clear hown6 hgr6 z0 z1 z2 z3 z4
        refine ⟨⟨O ++ [((⟨a0, a1, a2, a3, a4⟩, ua) : Rc × Int)], i + 1, k, HO6.out, by go_num, by go_num, by omega, by omega, HMg.out.left ordR1 HS1.out HX1.out REM.out, HB6.out⟩, by simp [intOf]; omega⟩
    · have hid : decide ((i : Int) < (h : Int)) = false := decide_eq_false (by omega)
      have hidN : decide (i < h) = false := decide_eq_false hi1
      by_cases hk1 : k < n2
      · have hk1I : (k : Int) < (n2 : Int) := by omega
        have hkb : (k == n2) = false := by simp; omega
        have hkbI : ((k : Int) == (n2 : Int)) = false := by simp; omega
        obtain ⟨e2, he2⟩ : ∃ e, T2[k]? = some e := ⟨_, List.getElem?_eq_getElem (by rw [HT2'.out]; exact hk1)⟩
        have HX2 : Hid _ := hide he2
        have hf2 : (T2.map Prod.fst)[k]? = some e2.1 := by rw [List.getElem?_map, he2]; rfl
        have y0 := HW2.out.cell hf2 0 rfl
        have y1 := HW2.out.cell hf2 1 rfl
        have y2 := HW2.out.cell hf2 2 rfl
        have y3 := HW2.out.cell hf2 3 rfl
        have y4 := HW2.out.cell hf2 4 rfl
        obtain ⟨⟨b0, b1, b2, b3, b4⟩, ub⟩ := e2
        simp only [layR, Nat.add_zero] at y0 y1 y2 y3 y4
        clear he2 hf2
        have REM : Hid (∀ r ∈ T1.drop i, fst bfR r (⟨b0, b1, b2, b3, b4⟩, ub) = false) := hide (fun r hr => by rw [List.drop_of_length_le (by rw [HT1.out]; omega)] at hr; simp at hr)
        go_wp2_with fail
        go_quiet (fail)
        obtain ⟨w5, hw5⟩ : ∃ w5, w5 = wr.drewN nq := ⟨_, rfl⟩
        have b5 : Below wr.heap.size wr w5 := by rw [hw5]; exact below_drewN (Below.refl _ _) _
        rw [← hw5]
        clear hw5
        have HB5 : Hid _ := hide (HBr.out.trans (b5.mono HBr.out.size))
        have O5 : Hid _ := hide (HOr.out.below b5)
        obtain ⟨ao, co, hvo, _, _⟩ := own_form HOr.out
        subst hvo
        have z0 : w5.cell? ⟨g2, k * 5, none⟩ = some (.int .i64 b0) := (b5.cell (p := ⟨g2, k * 5, none⟩) hg2r).trans y0
        have z1 : w5.cell? ⟨g2, k * 5 + 1, none⟩ = some (.int .i64 b1) := (b5.cell (p := ⟨g2, k * 5 + 1, none⟩) hg2r).trans y1
        have z2 : w5.cell? ⟨g2, k * 5 + 2, none⟩ = some (.int .u64 b2) := (b5.cell (p := ⟨g2, k * 5 + 2, none⟩) hg2r).trans y2
        have z3 : w5.cell? ⟨g2, k * 5 + 3, none⟩ = some (.int .u64 b3) := (b5.cell (p := ⟨g2, k * 5 + 3, none⟩) hg2r).trans y3
        have z4 : w5.cell? ⟨g2, k * 5 + 4, none⟩ = some (.int .i64 b4) := (b5.cell (p := ⟨g2, k * 5 + 4, none⟩) hg2r).trans y4
        have hs5 := b5.size
        clear b5 
        go_wp2_with (at_builtin; refine append_lay layR _ 42 47 i0 _ 40 Try.underlying42 hi hz0 hz1 hz2 rfl rfl (.tmp 69) (.tmp 74) rfl w2.heap.size _ _ rfl (O5.out.below (below_alloc1 _ _)) _ _ _ [⟨b0, b1, b2, b3, b4⟩] rfl (TRow.one (heap_new _ _)) (fun e => by cases e) (by rw [HOL.out]; simp [maxLen]; omega) (by rw [HOL.out]; omega) (by simp; have := HBr.out.size; omega) ?_; intro v6 w6 hown6 hgr6 hl6)
        have HO6 : Hid (Own layR 47 w6 w2.heap.size v6 ((O ++ [((⟨b0, b1, b2, b3, b4⟩, ub) : Rc × Int)]).map Prod.fst)) := hide (by rw [List.map_append]; exact hown6)
        have HB6 : Hid (Below w2.heap.size w2 w6) := hide ((HB5.out.alloc HB5.out.size _).grown hgr6 (by simp; have := HB5.out.size; omega) (fun q hq => (O5.out.lt q hq).1))
        clear hown6 hgr6 z0 z1 z2 z3 z4
        refine ⟨⟨O ++ [((⟨b0, b1, b2, b3, b4⟩, ub) : Rc × Int)], i, k + 1, HO6.out, by go_num, by go_num, by omega, by omega, HMg.out.right ordR1 HS2.out HX2.out REM.out, HB6.out⟩, by simp [intOf]; omega⟩
      · have hkd : decide ((k : Int) < (n2 : Int)) = false := decide_eq_false (by omega)
        have hkdN : decide (k < n2) = false := decide_eq_false hk1
        go_wp2_with fail
        go_ret
        have hie : i = T1.length := by rw [HT1.out]; omega
        have hke : k = T2.length := by rw [HT2'.out]; omega
        have h9 := HMg.out
        rw [hie, hke] at h9
        obtain ⟨q1, q2⟩ := h9.done
        refine ⟨_, O, rfl, HOr.out.mono (by have := HB2.out.size; omega), ?_, q2, HB2.out.trans (HBr.out.mono HB2.out.size)⟩
        refine q1.trans ((HP1.out.append HP2.out).trans ?_)
        have h8 := tg_append (L.take h) (L.drop h) s
        rw [List.take_append_drop, List.length_take, HLN.out, Nat.min_eq_left (by omega)] at h8
        rw [h8]
theorem srec_any : ∀ (N : Nat) (w : World) (a : Option Addr) (c : Nat) (L : List Rc) (s : Int), TRow layR w a N L → (a = none → N = 0 ∧ c = 0) → (∀ ad, a = some ad → ∃ b off, ad = ⟨b, off, none⟩) → N ≤ c → (N : Int) ≤ 3518437208883 →
      Calls Try.prog 18 #[.slice a N c] w fun r w' => ∃ v T, r = .returned v ∧ Own layR 47 w' w.heap.size v (T.map Prod.fst) ∧ T.Perm (tg L s) ∧ Srt (fst bfR) T ∧ Below w.heap.size w w' := by
  intro N
  induction N using Nat.strongRecOn with
  | _ N ih =>
    intro w a c L s hr h0 ha hc hl
    by_cases hN : N ≤ 1
    · exact srec_short w a N c L s hr h0 hN
    · cases a with
      | none => exact absurd (h0 rfl).1 (by omega)
      | some ad =>
        obtain ⟨b, off, rfl⟩ := ha ad rfl
        exact srec_long w b off N c L s hr hc (by omega) hl (fun M hM w a c L s h1 h2 h3 h4 => ih M hM w a c L s h1 h2 h3 h4 (by omega))
end Go.Proofs.Ytdmlehbamdcjcaa
