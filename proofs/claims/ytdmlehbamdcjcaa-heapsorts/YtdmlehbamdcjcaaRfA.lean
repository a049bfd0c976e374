/-
  The document's list: a thing is put behind all that it is not ahead of.
-/
import Derived.Test.YtdmlehbamdcjcaaHpHI
import Derived.Test.YtdmlehbamdcjcaaHpW
import Derived.Lib.SliceRun
namespace Go.Proofs.Ytdmlehbamdcjcaa
open Go.RowKit
set_option maxRecDepth 8000 in
set_option maxHeartbeats 3200000 in
theorem rput0 (w : World) (x : It) :
    Calls Try.prog 49 #[.slice none 0 0, .agg #[.int .i64 x.k, .int .i64 x.t]] w fun r w' => ∃ v, r = .returned v ∧ Own layI 27 w' w.heap.size v [x] ∧ Below w.heap.size w w' := by
  obtain ⟨i0, hi, hz0, hz1, hz2⟩ := info_parts Try.infoTI
  obtain ⟨xk, xt⟩ := x
  obtain ⟨w1, hw1⟩ : ∃ w1, w1 = w.alloc (.cells #[.int .i64 xk, .int .i64 xt] 27) := ⟨_, rfl⟩
  have b1 : Below w.heap.size w w1 := by rw [hw1]; exact below_alloc1 _ _
  have r1 : w1.heap[w.heap.size]? = some (.cells #[.int .i64 xk, .int .i64 xt] 27 (0, 0)) := by rw [hw1]; exact heap_new _ _
  have hs1 : w.heap.size < w1.heap.size := by rw [hw1]; simp
  have HW1 : Hid _ := hide hw1
  have HB1 : Hid _ := hide b1
  have HR1 : Hid _ := hide r1
  clear hw1 b1 r1
  go_enter Try.func49, Try.ntmps49
  go_wp2_with fail
  rw [← HW1.out]
  go_loopw [5] (fun si wr => si = .int .i64 0 ∧ Below w1.heap.size w1 wr) (fun _ _ => 0)
  case atStart => exact ⟨rfl, Below.refl _ _⟩
  case round =>
    obtain ⟨rfl, hb⟩ := hrel
    have HB : Hid _ := hide hb
    clear hb
    go_wp2_with fail
    go_quiet (fail)
    obtain ⟨w2, hw2⟩ : ∃ w2, w2 = wr.drewN nq := ⟨_, rfl⟩
    have b2 : Below w1.heap.size w1 w2 := by rw [hw2]; exact below_drewN HB.out _
    rw [← hw2]
    clear hw2
    have HB2 : Hid _ := hide (HB1.out.trans (b2.mono (by omega)))
    have r2 := (b2.block w.heap.size hs1).trans HR1.out
    have y0 : w2.cell? ⟨w.heap.size, 0, none⟩ = some (.int .i64 xk) := cell_at r2 rfl
    have y1 : w2.cell? ⟨w.heap.size, 1, none⟩ = some (.int .i64 xt) := cell_at r2 rfl
    have HR2b : Hid _ := hide r2
    have hs2 := b2.size
    clear r2 b2
    go_upto_region 6 with (at_builtin; refine append_lay layI w2 23 27 i0 _ 16 Try.underlying23 hi hz0 hz1 hz2 rfl rfl (.tmp 24) (.tmp 27) rfl w.heap.size _ [] rfl (Own.nil _ _ _ _) _ _ _ [] rfl (TRow.nil _ _ _) (fun _ => ⟨rfl, rfl⟩) (by simp) (by simp) (by omega) ?_; intro v3 w3 hown3 hgr3 hl3)
    have b3 : Below w2.heap.size w2 w3 := (Below.refl _ _).grown hgr3 (Nat.le_refl _) (fun q hq => by cases hq)
    have r3 := (b3.block w.heap.size (by omega)).trans HR2b.out
    have z0 : w3.cell? ⟨w.heap.size, 0, none⟩ = some (.int .i64 xk) := cell_at r3 rfl
    have z1 : w3.cell? ⟨w.heap.size, 1, none⟩ = some (.int .i64 xt) := cell_at r3 rfl
    have hs3 := b3.size
    have HB3 : Hid _ := hide (HB2.out.trans (b3.mono (by omega)))
    have HO3 : Hid (Own layI 27 w3 w.heap.size v3 ([])) := hide (by simpa using hown3)
    obtain ⟨a3, c3, hv3, _, _⟩ := own_form hown3
    have HL3 : Hid (([] : List It).length = 0) := hide (by rfl)
    subst hv3
    clear hown3 hgr3 r3 b3 y0 y1
    go_upto_region 7 with (at_builtin; refine append_lay layI _ 23 27 i0 _ 16 Try.underlying23 hi hz0 hz1 hz2 rfl rfl (.tmp 29) (.tmp 31) rfl w.heap.size _ ([]) rfl (HO3.out.below (below_alloc1 _ _)) _ _ _ [⟨xk, xt⟩] rfl (TRow.one (heap_new _ _)) (fun e => by cases e) (by rw [HL3.out]; unfold maxLen; omega) (by rw [HL3.out]; omega) (by simp; omega) ?_; intro v4 w4 hown4 hgr4 hl4)
    have HB4 : Hid (Below w.heap.size w w4) := hide ((HB3.out.alloc (by omega) _).grown hgr4 (by simp; omega) (fun q hq => (HO3.out.lt q hq).1))
    have hs4 : w3.heap.size < w4.heap.size := by have := hgr4.size; simp at this; omega
    have HO4 : Hid _ := hide hown4
    obtain ⟨a4, c4, hv4, _, _⟩ := own_form hown4
    have HL4 : Hid ((([] : List It) ++ [(⟨xk, xt⟩ : It)]).length = 0 + 1) := hide (by rw [List.length_append, HL3.out]; rfl)
    subst hv4
    clear hown4 hgr4 z0 z1
    go_wp2_with (at_builtin; refine append_lay layI _ 23 27 i0 _ 16 Try.underlying23 hi hz0 hz1 hz2 rfl rfl (.tmp 33) (.tmp 36) rfl w.heap.size _ _ rfl HO4.out _ _ _ [] rfl (TRow.nil _ _ _) (fun _ => ⟨rfl, rfl⟩) (by simp [maxLen]) (by simp) (by omega) ?_; intro v5 w5 hown5 hgr5 hl5)
    have HB5 : Hid (Below w.heap.size w w5) := hide (HB4.out.grown hgr5 (by omega) (fun q hq => (HO4.out.lt q hq).1))
    have HO5 : Hid _ := hide hown5
    clear hown5 hgr5
    go_wp2_with fail
    go_ret
    refine ⟨v5, rfl, ?_, HB5.out⟩
    have h9 := HO5.out
    exact h9
set_option maxRecDepth 8000 in
set_option maxHeartbeats 3200000 in
theorem rput1 (w : World) (b off n c : Nat) (L : List It) (x : It) (hr : TRow layI w (some ⟨b, off, none⟩) n L) (hc : n ≤ c) (hs : Srt bfI L) (hl : (n : Int) + 1 ≤ 8796093022208) :
    Calls Try.prog 49 #[.slice (some ⟨b, off, none⟩) n c, .agg #[.int .i64 x.k, .int .i64 x.t]] w fun r w' => ∃ v, r = .returned v ∧ Own layI 27 w' w.heap.size v (ins bfI x L) ∧ Below w.heap.size w w' := by
  obtain ⟨i0, hi, hz0, hz1, hz2⟩ := info_parts Try.infoTI
  obtain ⟨xk, xt⟩ := x
  obtain ⟨w1, hw1⟩ : ∃ w1, w1 = w.alloc (.cells #[.int .i64 xk, .int .i64 xt] 27) := ⟨_, rfl⟩
  have b1 : Below w.heap.size w w1 := by rw [hw1]; exact below_alloc1 _ _
  have r1 : w1.heap[w.heap.size]? = some (.cells #[.int .i64 xk, .int .i64 xt] 27 (0, 0)) := by rw [hw1]; exact heap_new _ _
  have hs1 : w.heap.size < w1.heap.size := by rw [hw1]; simp
  have HW1 : Hid _ := hide hw1
  have HB1 : Hid _ := hide b1
  have HR1 : Hid _ := hide r1
  have HR : Hid _ := hide hr
  have HLN : Hid _ := hide hr.len
  have HS : Hid _ := hide hs
  clear hw1 hr hs b1 r1
  go_enter Try.func49, Try.ntmps49
  go_wp2_with fail
  rw [← HW1.out]
  go_loopw [5] (fun si wr => ∃ (k : Nat), si = .int .i64 k ∧ k ≤ n ∧ (∀ i y, k ≤ i → L[i]? = some y → bfI ⟨xk, xt⟩ y = true) ∧ Below w1.heap.size w1 wr) (fun si _ => (intOf si).toNat)
  case atStart =>
    exact ⟨n, rfl, Nat.le_refl _, fun i y hi hy => by have h1 := get_lt hy; have h2 := HLN.out; omega, Below.refl _ _⟩
  case round =>
    obtain ⟨k, rfl, hk, hup, hb⟩ := hrel
    have HUP : Hid _ := hide hup
    have HB : Hid _ := hide hb
    have r2 := (hb.block w.heap.size hs1).trans HR1.out
    have x0 : wr.cell? ⟨w.heap.size, 0, none⟩ = some (.int .i64 xk) := cell_at r2 rfl
    clear hup hb r2
    by_cases hk0 : k = 0
    · subst hk0
      have HLO : Hid (∀ i a, i < 0 → L[i]? = some a → bfI ⟨xk, xt⟩ a = false) := hide (fun i a hi => by omega)
      go_wp2_with fail
      go_quiet (fail)
      clear x0
      obtain ⟨w2, hw2⟩ : ∃ w2, w2 = wr.drewN nq := ⟨_, rfl⟩
      have b2 : Below w1.heap.size w1 w2 := by rw [hw2]; exact below_drewN HB.out _
      rw [← hw2]
      clear hw2
      have HB2 : Hid _ := hide (HB1.out.trans (b2.mono (by omega)))
      have r2 := (b2.block w.heap.size hs1).trans HR1.out
      have y0 : w2.cell? ⟨w.heap.size, 0, none⟩ = some (.int .i64 xk) := cell_at r2 rfl
      have y1 : w2.cell? ⟨w.heap.size, 1, none⟩ = some (.int .i64 xt) := cell_at r2 rfl
      have HR2b : Hid _ := hide r2
      have hs2 := b2.size
      clear r2 b2
      have HT1 : Hid _ := hide ((HR.out.below HB2.out).cut 0 hk)
      have HT2 : Hid _ := hide ((HR.out.below HB2.out).drop 0 hk)
      have hkc : (0 : Nat) ≤ c := by omega
      have hkI : (0 : Int) ≤ (c : Int) := by omega
      have hkn : (0 : Int) ≤ (n : Int) := by omega
      go_upto_region 6 with (at_builtin; refine append_lay layI w2 23 27 i0 _ 16 Try.underlying23 hi hz0 hz1 hz2 rfl rfl (.tmp 24) (.tmp 27) rfl w.heap.size _ [] rfl (Own.nil _ _ _ _) _ _ _ (L.take 0) rfl HT1.out (fun e => by cases e) (by simp [maxLen] <;> omega) (by simp <;> omega) (by omega) ?_; intro v3 w3 hown3 hgr3 hl3)
      have b3 : Below w2.heap.size w2 w3 := (Below.refl _ _).grown hgr3 (Nat.le_refl _) (fun q hq => by cases hq)
      have r3 := (b3.block w.heap.size (by omega)).trans HR2b.out
      have z0 : w3.cell? ⟨w.heap.size, 0, none⟩ = some (.int .i64 xk) := cell_at r3 rfl
      have z1 : w3.cell? ⟨w.heap.size, 1, none⟩ = some (.int .i64 xt) := cell_at r3 rfl
      have hs3 := b3.size
      have HB3 : Hid _ := hide (HB2.out.trans (b3.mono (by omega)))
      have HO3 : Hid (Own layI 27 w3 w.heap.size v3 (L.take 0)) := hide (by simpa using hown3)
      obtain ⟨a3, c3, hv3, _, _⟩ := own_form hown3
      have HL3 : Hid ((L.take 0 : List It).length = 0) := hide (by rw [List.length_take, HLN.out]; omega)
      subst hv3
      clear hown3 hgr3 r3 b3 y0 y1
      go_upto_region 7 with (at_builtin; refine append_lay layI _ 23 27 i0 _ 16 Try.underlying23 hi hz0 hz1 hz2 rfl rfl (.tmp 29) (.tmp 31) rfl w.heap.size _ (L.take 0) rfl (HO3.out.below (below_alloc1 _ _)) _ _ _ [⟨xk, xt⟩] rfl (TRow.one (heap_new _ _)) (fun e => by cases e) (by rw [HL3.out]; unfold maxLen; omega) (by rw [HL3.out]; omega) (by simp; omega) ?_; intro v4 w4 hown4 hgr4 hl4)
      have HB4 : Hid (Below w.heap.size w w4) := hide ((HB3.out.alloc (by omega) _).grown hgr4 (by simp; omega) (fun q hq => (HO3.out.lt q hq).1))
      have hs4 : w3.heap.size < w4.heap.size := by have := hgr4.size; simp at this; omega
      have HO4 : Hid _ := hide hown4
      obtain ⟨a4, c4, hv4, _, _⟩ := own_form hown4
      have HL4 : Hid (((L.take 0 : List It) ++ [(⟨xk, xt⟩ : It)]).length = 0 + 1) := hide (by rw [List.length_append, HL3.out]; rfl)
      subst hv4
      clear hown4 hgr4 z0 z1
      have HT3 : Hid _ := hide (((HR.out.below HB4.out)).drop 0 hk)
      go_wp2_with (at_builtin; refine append_lay layI _ 23 27 i0 _ 16 Try.underlying23 hi hz0 hz1 hz2 rfl rfl (.tmp 33) (.tmp 36) rfl w.heap.size _ _ rfl HO4.out _ _ _ (L.drop 0) rfl HT3.out (fun e => by cases e) (by rw [HL4.out]; unfold maxLen; omega) (by rw [HL4.out]; omega) (by omega) ?_; intro v5 w5 hown5 hgr5 hl5)
      have HB5 : Hid (Below w.heap.size w w5) := hide (HB4.out.grown hgr5 (by omega) (fun q hq => (HO4.out.lt q hq).1))
      have HO5 : Hid _ := hide hown5
      clear hown5 hgr5
      go_wp2_with fail
      go_ret
      refine ⟨v5, rfl, ?_, HB5.out⟩
      have h9 := HO5.out
      rw [List.append_assoc, List.singleton_append] at h9
      rw [ins_at (k := 0) (by rw [HLN.out]; exact hk) HLO.out (fun y hy => HUP.out 0 y (Nat.le_refl _) hy)]
      exact h9
    · obtain ⟨j, HJ⟩ : ∃ j, Hid (k = j + 1) := ⟨k - 1, hide (by omega)⟩
      have hj : j < n := by have := HJ.out; omega
      obtain ⟨y, hy⟩ : ∃ y, L[j]? = some y := ⟨_, List.getElem?_eq_getElem (by rw [HLN.out]; exact hj)⟩
      obtain ⟨b', off', he, hbl, hcc⟩ := HR.out.at (by omega)
      cases he
      have u0 := (HB.out.cell (p := ⟨b, off + j * 2, none⟩) (by have := HB1.out.size; dsimp only; omega)).trans ((HB1.out.cell (p := ⟨b, off + j * 2, none⟩) hbl).trans (hcc j y hy 0 _ rfl))
      have HY : Hid _ := hide hy
      obtain ⟨yk, yt⟩ := y
      have hwr : IntKind.i64.wrap ((k : Int) - 1) = (j : Int) := by have := HJ.out; rw [IntKind.wrap_i64]; omega
      have hjI : (k : Int) - 1 = (j : Int) := by have := HJ.out; omega
      have hjp : 0 < k := by omega
      have hjd : decide (0 < k) = true := decide_eq_true hjp
      clear hy hcc
      by_cases hxy : xk < yk
      · go_wp2_with fail
        go_quiet (fail)
        go_wp2_with fail
        refine ⟨⟨j, by first | rfl | (congr 1; omega), by omega, fun i z hi hz => ?_, below_drewN HB.out _⟩, by have := HJ.out; simp [intOf]; omega⟩
        by_cases hij : i = j
        · subst hij
          rw [HY.out] at hz
          rw [← Option.some.inj hz]
          exact decide_eq_true hxy
        · exact HUP.out i z (by have := HJ.out; omega) hz
      · have HLO : Hid (∀ i a, i < k → L[i]? = some a → bfI ⟨xk, xt⟩ a = false) := hide (fun i a hi ha => by
          by_cases hij : i = j
          · subst hij; rw [HY.out] at ha; rw [← Option.some.inj ha]; exact decide_eq_false hxy
          · have h1 := get_lt HY.out
            have h2 : bfI ⟨yk, yt⟩ a = false := by
              have h3 := List.pairwise_iff_getElem.mp HS.out i j (get_lt ha) h1 (by have := HJ.out; omega)
              rw [List.getElem?_eq_getElem (get_lt ha)] at ha
              have h4 := HY.out
              rw [List.getElem?_eq_getElem h1] at h4
              rw [← Option.some.inj ha, ← Option.some.inj h4]; exact h3
            have h5 : ¬ yk < a.k := of_decide_eq_false h2
            exact decide_eq_false (show ¬ xk < a.k by omega))
        have hxd : decide (xk < yk) = false := decide_eq_false hxy
        go_wp2_with fail
        go_quiet (fail)
        clear x0 u0 hwr hjI hk0 hj hbl HY HJ
        obtain ⟨w2, hw2⟩ : ∃ w2, w2 = wr.drewN nq := ⟨_, rfl⟩
        have b2 : Below w1.heap.size w1 w2 := by rw [hw2]; exact below_drewN HB.out _
        rw [← hw2]
        clear hw2
        have HB2 : Hid _ := hide (HB1.out.trans (b2.mono (by omega)))
        have r2 := (b2.block w.heap.size hs1).trans HR1.out
        have y0 : w2.cell? ⟨w.heap.size, 0, none⟩ = some (.int .i64 xk) := cell_at r2 rfl
        have y1 : w2.cell? ⟨w.heap.size, 1, none⟩ = some (.int .i64 xt) := cell_at r2 rfl
        have HR2b : Hid _ := hide r2
        have hs2 := b2.size
        clear r2 b2
        have HT1 : Hid _ := hide ((HR.out.below HB2.out).cut k hk)
        have HT2 : Hid _ := hide ((HR.out.below HB2.out).drop k hk)
        have hkc : k ≤ c := by omega
        have hkI : (k : Int) ≤ (c : Int) := by omega
        have hkn : (k : Int) ≤ (n : Int) := by omega
        go_upto_region 6 with (at_builtin; refine append_lay layI w2 23 27 i0 _ 16 Try.underlying23 hi hz0 hz1 hz2 rfl rfl (.tmp 24) (.tmp 27) rfl w.heap.size _ [] rfl (Own.nil _ _ _ _) _ _ _ (L.take k) rfl HT1.out (fun e => by cases e) (by simp [maxLen] <;> omega) (by simp <;> omega) (by omega) ?_; intro v3 w3 hown3 hgr3 hl3)
        have b3 : Below w2.heap.size w2 w3 := (Below.refl _ _).grown hgr3 (Nat.le_refl _) (fun q hq => by cases hq)
        have r3 := (b3.block w.heap.size (by omega)).trans HR2b.out
        have z0 : w3.cell? ⟨w.heap.size, 0, none⟩ = some (.int .i64 xk) := cell_at r3 rfl
        have z1 : w3.cell? ⟨w.heap.size, 1, none⟩ = some (.int .i64 xt) := cell_at r3 rfl
        have hs3 := b3.size
        have HB3 : Hid _ := hide (HB2.out.trans (b3.mono (by omega)))
        have HO3 : Hid (Own layI 27 w3 w.heap.size v3 (L.take k)) := hide (by simpa using hown3)
        obtain ⟨a3, c3, hv3, _, _⟩ := own_form hown3
        have HL3 : Hid ((L.take k : List It).length = k) := hide (by rw [List.length_take, HLN.out]; omega)
        subst hv3
        clear hown3 hgr3 r3 b3 y0 y1
        go_upto_region 7 with (at_builtin; refine append_lay layI _ 23 27 i0 _ 16 Try.underlying23 hi hz0 hz1 hz2 rfl rfl (.tmp 29) (.tmp 31) rfl w.heap.size _ (L.take k) rfl (HO3.out.below (below_alloc1 _ _)) _ _ _ [⟨xk, xt⟩] rfl (TRow.one (heap_new _ _)) (fun e => by cases e) (by rw [HL3.out]; unfold maxLen; omega) (by rw [HL3.out]; omega) (by simp; omega) ?_; intro v4 w4 hown4 hgr4 hl4)
        have HB4 : Hid (Below w.heap.size w w4) := hide ((HB3.out.alloc (by omega) _).grown hgr4 (by simp; omega) (fun q hq => (HO3.out.lt q hq).1))
        have hs4 : w3.heap.size < w4.heap.size := by have := hgr4.size; simp at this; omega
        have HO4 : Hid _ := hide hown4
        obtain ⟨a4, c4, hv4, _, _⟩ := own_form hown4
        have HL4 : Hid (((L.take k : List It) ++ [(⟨xk, xt⟩ : It)]).length = k + 1) := hide (by rw [List.length_append, HL3.out]; rfl)
        subst hv4
        clear hown4 hgr4 z0 z1
        by_cases hck : k = c
        · have hnk : n = k := by omega
          subst hck
          subst hnk
          have HT3 : Hid (TRow layI w4 (some ⟨b, off, none⟩) 0 (L.drop n)) := hide ⟨by rw [List.length_drop, HLN.out]; omega, .inl rfl⟩
          go_wp2_with (at_builtin; refine append_lay layI _ 23 27 i0 _ 16 Try.underlying23 hi hz0 hz1 hz2 rfl rfl (.tmp 33) (.tmp 36) rfl w.heap.size _ _ rfl HO4.out _ _ _ (L.drop n) rfl HT3.out (fun e => by cases e) (by rw [HL4.out]; unfold maxLen; omega) (by rw [HL4.out]; omega) (by omega) ?_; intro v5 w5 hown5 hgr5 hl5)
          have HB5 : Hid (Below w.heap.size w w5) := hide (HB4.out.grown hgr5 (by omega) (fun q hq => (HO4.out.lt q hq).1))
          have HO5 : Hid _ := hide hown5
          clear hown5 hgr5
          go_wp2_with fail
          go_ret
          refine ⟨v5, rfl, ?_, HB5.out⟩
          have h9 := HO5.out
          rw [List.append_assoc, List.singleton_append] at h9
          rw [ins_at (k := n) (by rw [HLN.out]; exact hk) HLO.out (fun y hy => HUP.out n y (Nat.le_refl _) hy)]
          exact h9
        · have HT3 : Hid _ := hide (((HR.out.below HB4.out)).drop k hk)
          go_wp2_with (at_builtin; refine append_lay layI _ 23 27 i0 _ 16 Try.underlying23 hi hz0 hz1 hz2 rfl rfl (.tmp 33) (.tmp 36) rfl w.heap.size _ _ rfl HO4.out _ _ _ (L.drop k) rfl HT3.out (fun e => by cases e) (by rw [HL4.out]; unfold maxLen; omega) (by rw [HL4.out]; omega) (by omega) ?_; intro v5 w5 hown5 hgr5 hl5)
          have HB5 : Hid (Below w.heap.size w w5) := hide (HB4.out.grown hgr5 (by omega) (fun q hq => (HO4.out.lt q hq).1))
          have HO5 : Hid _ := hide hown5
          clear hown5 hgr5
          go_wp2_with fail
          go_ret
          refine ⟨v5, rfl, ?_, HB5.out⟩
          have h9 := HO5.out
          rw [List.append_assoc, List.singleton_append] at h9
          rw [ins_at (k := k) (by rw [HLN.out]; exact hk) HLO.out (fun y hy => HUP.out k y (Nat.le_refl _) hy)]
          exact h9
end Go.Proofs.Ytdmlehbamdcjcaa
