/-
  The document's Ints.
-/
import Derived.Test.YtdmlehbamdcjcaaIntB
import Derived.Test.YtdmlehbamdcjcaaMgM
namespace Go.Proofs.Ytdmlehbamdcjcaa
open Go.RowKit
def ltN (a b : Int) : Bool := decide (a < b)
theorem ordN : Ord ltN := ⟨fun a b h => by unfold ltN at *; simp at *; omega, fun a b c h1 h2 => by unfold ltN at *; simp at *; omega⟩
theorem inOrder_isort (L : List Int) : inOrder L = isort ltN L := by
  refine srt_one ordN ((inOrder_perm L).trans (isort_perm _ _).symm) ?_ (isort_srt ordN _) (fun x y _ _ h1 h2 => by unfold ltN at *; simp at *; omega)
  exact (inOrder_srt L).imp (fun {a b} h => by unfold ltN; simp; omega)
set_option maxRecDepth 8000 in
set_option maxHeartbeats 6400000 in
theorem r9ints (w : World) (a : Option Addr) (N c : Nat) (L : List Int) (hr : TRow layN w a N L) (hN : (N : Int) ≤ 17592186044416) :
    Calls Try.prog 31 #[.slice a N c] w fun r w' => ∃ v, r = .returned v ∧ Own layN 3 w' w.heap.size v (isort ltN L) ∧ Below w.heap.size w w' := by
  obtain ⟨i0, hi, hz0, hz1, hz2⟩ := info_parts Try.info3
  have HR : Hid _ := hide hr
  have HLN : Hid _ := hide hr.len
  clear hr
  go_enter Try.func31, Try.ntmps31
  go_wp2_with fail
  go_loopw [3, 4] (fun sl si wr => ∃ k : Nat, si = .int .i64 k ∧ k ≤ N ∧ (k = 0 → sl = .slice none 0 0) ∧ Own layN 3 wr w.heap.size sl (isort ltN (L.take k)) ∧ Below w.heap.size w wr) (fun _ si _ => N - (intOf si).toNat)
  case atStart => exact ⟨0, rfl, Nat.zero_le _, fun _ => rfl, Own.nil _ _ _ _, Below.refl _ _⟩
  case round =>
    obtain ⟨k, rfl, hk, hnil, ho, hb⟩ := hrel
    have HO' : Hid _ := hide ho
    have HB : Hid _ := hide hb
    by_cases hlt : k < N
    · have hltI : (k : Int) < (N : Int) := by omega
      obtain ⟨x, hx⟩ : ∃ x, L[k]? = some x := ⟨_, List.getElem?_eq_getElem (by rw [HLN.out]; exact hlt)⟩
      obtain ⟨bL, oL, rfl, hbL, hc⟩ := (HR.out.below hb).at (by omega)
      have x0 := hc k x hx 0 _ rfl
      simp only [layN, Nat.mul_one, Nat.add_zero] at x0
      have hlk : (isort ltN (L.take k)).length = k := by rw [(isort_perm _ _).length_eq, List.length_take, HLN.out]; omega
      have HX : Hid _ := hide hx
      rename World => Wk
      by_cases hk0 : k = 0
      · subst hk0
        have hS : isort ltN (L.take 0) = [] := rfl
        have HS0 : Hid _ := hide hS
        have hvv := hnil rfl
        subst hvv
        have HO : Hid _ := hide ho
        clear ho hb hc hx hlk hS HO' hnil
        go_wp2_with fail
        go_loopw [5] (fun si wr => si = .int .i64 0 ∧ Below Wk.heap.size Wk wr) (fun _ _ => 0)
        case atStart => exact ⟨rfl, Below.refl _ _⟩
        case round =>
          obtain ⟨rfl, hbi⟩ := hrel
          have HBi : Hid _ := hide hbi
          clear hbi
          go_wp2_with fail
          go_quiet (fail)
          obtain ⟨w2, hw2⟩ : ∃ w2, w2 = wr.drewN nq := ⟨_, rfl⟩
          have b2 : Below Wk.heap.size Wk w2 := by rw [hw2]; exact below_drewN HBi.out _
          rw [← hw2]
          clear hw2
          have HB2 : Hid _ := hide b2
          have hs2 := b2.size
          have y0 : w2.cell? ⟨bL, oL, none⟩ = some (.int .i64 x) := (b2.cell (p := ⟨bL, oL, none⟩) hbL).trans x0
          clear b2
          go_upto_region 10 with (at_builtin; refine append_lay layN w2 31 3 i0 _ 8 Try.underlying31 hi hz0 hz1 hz2 rfl rfl (.tmp 31) (.tmp 34) rfl Wk.heap.size _ [] rfl (Own.nil _ _ _ _) _ _ _ [] rfl (TRow.nil _ _ _) (fun _ => ⟨rfl, rfl⟩) (by simp) (by simp) (by omega) ?_; intro v3 w3 hown3 hgr3 hl3)
          have b3 : Below w2.heap.size w2 w3 := (Below.refl _ _).grown hgr3 (Nat.le_refl _) (fun q hq => by cases hq)
          have z0 : w3.cell? ⟨bL, oL, none⟩ = some (.int .i64 x) := (b3.cell (p := ⟨bL, oL, none⟩) (by dsimp only; omega)).trans y0
          have hs3 := b3.size
          have HB3 : Hid _ := hide (HB2.out.trans (b3.mono hs2))
          have HO3 : Hid (Own layN 3 w3 Wk.heap.size v3 []) := hide (by simpa using hown3)
          obtain ⟨a3, c3, hv3, _, _⟩ := own_form hown3
          have HL3 : Hid (([] : List Int).length = 0) := hide (by rfl)
          subst hv3
          clear hown3 hgr3 b3 y0 hl3
          go_upto_region 11 with (at_builtin; refine append_lay layN _ 31 3 i0 _ 8 Try.underlying31 hi hz0 hz1 hz2 rfl rfl (.tmp 36) (.tmp 41) rfl Wk.heap.size _ [] rfl (HO3.out.below (below_alloc1 _ _)) _ _ _ [x] rfl (TRow.one (heap_new _ _)) (fun e => by cases e) (by rw [HL3.out]; unfold maxLen; omega) (by rw [HL3.out]; omega) (by simp; omega) ?_; intro v4 w4 hown4 hgr4 hl4)
          have HB4 : Hid (Below Wk.heap.size Wk w4) := hide ((HB3.out.alloc (by omega) _).grown hgr4 (by simp; omega) (fun q hq => (HO3.out.lt q hq).1))
          have HO4 : Hid _ := hide hown4
          obtain ⟨a4, c4, hv4, _, _⟩ := own_form hown4
          have HL4 : Hid ((([] : List Int) ++ [x]).length = 0 + 1) := hide (by rw [List.length_append, HL3.out]; rfl)
          subst hv4
          clear hown4 hgr4 z0 hl4
          go_wp2_with (at_builtin; refine append_lay layN _ 31 3 i0 _ 8 Try.underlying31 hi hz0 hz1 hz2 rfl rfl (.tmp 43) (.tmp 46) rfl Wk.heap.size _ _ rfl HO4.out _ _ _ [] rfl (TRow.nil _ _ _) (fun _ => ⟨rfl, rfl⟩) (by simp [maxLen]) (by simp) HB4.out.size ?_; intro v5 w5 hown5 hgr5 hl5)
          have B5 : Below Wk.heap.size Wk w5 := HB4.out.grown hgr5 HB4.out.size (fun q hq => (HO4.out.lt q hq).1)
          refine ⟨⟨0 + 1, by go_num, by omega, (fun e => by omega), ?_, HB.out.trans (B5.mono HB.out.size)⟩, by simp [intOf]; omega⟩
          rw [take_snoc HX.out, isort_snoc]
          have hS0 : isort ltN (L.take 0) = [] := HS0.out
          rw [hS0]
          exact hown5.mono HB.out.size
      · obtain ⟨gs, cv, hvv, _, hgl, hcv⟩ := ho.frm (by rw [hlk]; omega)
        rw [hlk] at hvv hcv
        subst hvv
        obtain ⟨S, hSE⟩ : ∃ S, S = isort ltN (L.take k) := ⟨_, rfl⟩
        rw [← hSE] at ho hlk
        have HO : Hid _ := hide ho
        have HSL : Hid _ := hide hlk
        have HSE : Hid _ := hide hSE
        have HSS : Hid (Srt ltN S) := hide (by rw [hSE]; exact isort_srt ordN _)
        clear ho hb hc hx hlk hSE HO' hnil
        go_wp2_with fail
        go_loopw [5] (fun si wr => ∃ j : Nat, si = .int .i64 j ∧ j ≤ k ∧ (∀ (i : Nat) y, j ≤ i → S[i]? = some y → ltN x y = true) ∧ Below Wk.heap.size Wk wr) (fun si _ => (intOf si).toNat)
        case atStart => exact ⟨k, rfl, Nat.le_refl _, fun i y hi hy => by have h1 := get_lt hy; have h2 := HSL.out; omega, Below.refl _ _⟩
        case round =>
          obtain ⟨j, rfl, hjk, hup, hbi⟩ := hrel
          have HUP : Hid _ := hide hup
          have HBi : Hid _ := hide hbi
          clear hup hbi
          by_cases hj0 : j = 0
          · subst hj0
            have HLO : Hid (∀ (i : Nat) a, i < 0 → S[i]? = some a → ltN x a = false) := hide (fun i a hi => by omega)
            go_wp2_with fail
            go_quiet (fail)
            obtain ⟨w2, hw2⟩ : ∃ w2, w2 = wr.drewN nq := ⟨_, rfl⟩
            have b2 : Below Wk.heap.size Wk w2 := by rw [hw2]; exact below_drewN HBi.out _
            rw [← hw2]
            clear hw2
            have HB2 : Hid _ := hide b2
            have hs2 := b2.size
            have y0 : w2.cell? ⟨bL, oL + k, none⟩ = some (.int .i64 x) := (b2.cell (p := ⟨bL, oL + k, none⟩) hbL).trans x0
            clear b2
            have HT1 : Hid _ := hide (((HO.out.below HB2.out).row HSL.out).cut 0 hjk)
            have hjc : ((0 : Nat) : Int) ≤ (cv : Int) := by omega
            have hjn : ((0 : Nat) : Int) ≤ (k : Int) := by omega
            go_upto_region 10 with (at_builtin; refine append_lay layN w2 31 3 i0 _ 8 Try.underlying31 hi hz0 hz1 hz2 rfl rfl (.tmp 31) (.tmp 34) rfl Wk.heap.size _ [] rfl (Own.nil _ _ _ _) _ _ _ (S.take 0) rfl HT1.out (fun e => by cases e) (by simp [maxLen] <;> omega) (by simp <;> omega) (by omega) ?_; intro v3 w3 hown3 hgr3 hl3)
            have b3 : Below w2.heap.size w2 w3 := (Below.refl _ _).grown hgr3 (Nat.le_refl _) (fun q hq => by cases hq)
            have z0 : w3.cell? ⟨bL, oL + k, none⟩ = some (.int .i64 x) := (b3.cell (p := ⟨bL, oL + k, none⟩) (by dsimp only; omega)).trans y0
            have hs3 := b3.size
            have HB3 : Hid _ := hide (HB2.out.trans (b3.mono hs2))
            have HO3 : Hid (Own layN 3 w3 Wk.heap.size v3 (S.take 0)) := hide (by simpa using hown3)
            obtain ⟨a3, c3, hv3, _, _⟩ := own_form hown3
            have HL3 : Hid (((S.take 0) : List Int).length = 0) := hide (by rw [List.length_take, HSL.out]; omega)
            subst hv3
            clear hown3 hgr3 b3 y0 hl3
            go_upto_region 11 with (at_builtin; refine append_lay layN _ 31 3 i0 _ 8 Try.underlying31 hi hz0 hz1 hz2 rfl rfl (.tmp 36) (.tmp 41) rfl Wk.heap.size _ (S.take 0) rfl (HO3.out.below (below_alloc1 _ _)) _ _ _ [x] rfl (TRow.one (heap_new _ _)) (fun e => by cases e) (by rw [HL3.out]; unfold maxLen; omega) (by rw [HL3.out]; omega) (by simp; omega) ?_; intro v4 w4 hown4 hgr4 hl4)
            have HB4 : Hid (Below Wk.heap.size Wk w4) := hide ((HB3.out.alloc (by omega) _).grown hgr4 (by simp; omega) (fun q hq => (HO3.out.lt q hq).1))
            have HO4 : Hid _ := hide hown4
            obtain ⟨a4, c4, hv4, _, _⟩ := own_form hown4
            have HL4 : Hid ((((S.take 0) : List Int) ++ [x]).length = 0 + 1) := hide (by rw [List.length_append, HL3.out]; rfl)
            subst hv4
            clear hown4 hgr4 z0 hl4
            have HT3 : Hid _ := hide (((HO.out.below HB4.out).row HSL.out).drop 0 (Nat.zero_le _))
            go_wp2_with (at_builtin; refine append_lay layN _ 31 3 i0 _ 8 Try.underlying31 hi hz0 hz1 hz2 rfl rfl (.tmp 43) (.tmp 46) rfl Wk.heap.size _ _ rfl HO4.out _ _ _ (S.drop 0) rfl HT3.out (fun e => by cases e) (by rw [HL4.out]; unfold maxLen; omega) (by rw [HL4.out]; omega) HB4.out.size ?_; intro v5 w5 hown5 hgr5 hl5)
            have B5 : Below Wk.heap.size Wk w5 := HB4.out.grown hgr5 HB4.out.size (fun q hq => (HO4.out.lt q hq).1)
            refine ⟨⟨k + 1, by go_num, by omega, (fun e => by omega), ?_, HB.out.trans (B5.mono HB.out.size)⟩, by simp [intOf]; omega⟩
            rw [take_snoc HX.out, isort_snoc]
            rw [← HSE.out]
            have h9 := hown5
            rw [List.append_assoc, List.singleton_append] at h9
            rw [ins_at (k := 0) (by rw [HSL.out]; omega) HLO.out (fun y hy => HUP.out 0 y (Nat.le_refl _) hy)]
            exact h9.mono HB.out.size
          · obtain ⟨p, HJ⟩ : ∃ p, Hid (j = p + 1) := ⟨j - 1, hide (by omega)⟩
            have hp : p < k := by have := HJ.out; omega
            obtain ⟨y, hy⟩ : ∃ y, S[p]? = some y := ⟨_, List.getElem?_eq_getElem (by rw [HSL.out]; exact hp)⟩
            have u0 := (HO.out.below HBi.out).cell hy 0 rfl
            simp only [layN, Nat.mul_one, Nat.add_zero] at u0
            have t0 : wr.cell? ⟨bL, oL + k, none⟩ = some (.int .i64 x) := (HBi.out.cell (p := ⟨bL, oL + k, none⟩) hbL).trans x0
            have HY : Hid _ := hide hy
            have hwr : IntKind.i64.wrap ((j : Int) - 1) = (p : Int) := by have := HJ.out; rw [IntKind.wrap_i64]; omega
            have hjI : (j : Int) - 1 = (p : Int) := by have := HJ.out; omega
            have hjp : 0 < j := by omega
            have hjd : decide (0 < j) = true := decide_eq_true hjp
            clear hy
            by_cases hxy : x < y
            · have hxd : decide (x < y) = true := decide_eq_true hxy
              go_wp2_with fail
              go_quiet (fail)
              go_wp2_with fail
              refine ⟨⟨p, by first | rfl | (congr 1; omega), by omega, fun i z hi hz => ?_, below_drewN HBi.out _⟩, by have := HJ.out; simp [intOf]; omega⟩
              by_cases hij : i = p
              · subst hij
                rw [HY.out] at hz
                rw [← Option.some.inj hz]
                exact decide_eq_true hxy
              · exact HUP.out i z (by have := HJ.out; omega) hz
            · have HLO : Hid (∀ (i : Nat) a, i < j → S[i]? = some a → ltN x a = false) := hide (fun i a hi ha => by
                have h1 := get_lt HY.out
                have h2 : a ≤ y := by
                  by_cases hij : i = p
                  · subst hij; rw [HY.out] at ha; rw [Option.some.inj ha]; exact Int.le_refl _
                  · have h3 := List.pairwise_iff_getElem.mp HSS.out i p (get_lt ha) h1 (by have := HJ.out; omega)
                    rw [List.getElem?_eq_getElem (get_lt ha)] at ha
                    have h4 := HY.out
                    rw [List.getElem?_eq_getElem h1] at h4
                    have h5 : ¬ y < a := by rw [← Option.some.inj ha, ← Option.some.inj h4]; exact of_decide_eq_false h3
                    omega
                exact decide_eq_false (by omega))
              have hxd : decide (x < y) = false := decide_eq_false hxy
              go_wp2_with fail
              go_quiet (fail)
              clear u0 t0 hwr hjI hj0 hp HY HJ
              obtain ⟨w2, hw2⟩ : ∃ w2, w2 = wr.drewN nq := ⟨_, rfl⟩
              have b2 : Below Wk.heap.size Wk w2 := by rw [hw2]; exact below_drewN HBi.out _
              rw [← hw2]
              clear hw2
              have HB2 : Hid _ := hide b2
              have hs2 := b2.size
              have y0 : w2.cell? ⟨bL, oL + k, none⟩ = some (.int .i64 x) := (b2.cell (p := ⟨bL, oL + k, none⟩) hbL).trans x0
              clear b2
              have HT1 : Hid _ := hide (((HO.out.below HB2.out).row HSL.out).cut j hjk)
              have hjc : ((j : Nat) : Int) ≤ (cv : Int) := by omega
              have hjn : ((j : Nat) : Int) ≤ (k : Int) := by omega
              go_upto_region 10 with (at_builtin; refine append_lay layN w2 31 3 i0 _ 8 Try.underlying31 hi hz0 hz1 hz2 rfl rfl (.tmp 31) (.tmp 34) rfl Wk.heap.size _ [] rfl (Own.nil _ _ _ _) _ _ _ (S.take j) rfl HT1.out (fun e => by cases e) (by simp [maxLen] <;> omega) (by simp <;> omega) (by omega) ?_; intro v3 w3 hown3 hgr3 hl3)
              have b3 : Below w2.heap.size w2 w3 := (Below.refl _ _).grown hgr3 (Nat.le_refl _) (fun q hq => by cases hq)
              have z0 : w3.cell? ⟨bL, oL + k, none⟩ = some (.int .i64 x) := (b3.cell (p := ⟨bL, oL + k, none⟩) (by dsimp only; omega)).trans y0
              have hs3 := b3.size
              have HB3 : Hid _ := hide (HB2.out.trans (b3.mono hs2))
              have HO3 : Hid (Own layN 3 w3 Wk.heap.size v3 (S.take j)) := hide (by simpa using hown3)
              obtain ⟨a3, c3, hv3, _, _⟩ := own_form hown3
              have HL3 : Hid (((S.take j) : List Int).length = j) := hide (by rw [List.length_take, HSL.out]; omega)
              subst hv3
              clear hown3 hgr3 b3 y0 hl3
              go_upto_region 11 with (at_builtin; refine append_lay layN _ 31 3 i0 _ 8 Try.underlying31 hi hz0 hz1 hz2 rfl rfl (.tmp 36) (.tmp 41) rfl Wk.heap.size _ (S.take j) rfl (HO3.out.below (below_alloc1 _ _)) _ _ _ [x] rfl (TRow.one (heap_new _ _)) (fun e => by cases e) (by rw [HL3.out]; unfold maxLen; omega) (by rw [HL3.out]; omega) (by simp; omega) ?_; intro v4 w4 hown4 hgr4 hl4)
              have HB4 : Hid (Below Wk.heap.size Wk w4) := hide ((HB3.out.alloc (by omega) _).grown hgr4 (by simp; omega) (fun q hq => (HO3.out.lt q hq).1))
              have HO4 : Hid _ := hide hown4
              obtain ⟨a4, c4, hv4, _, _⟩ := own_form hown4
              have HL4 : Hid ((((S.take j) : List Int) ++ [x]).length = j + 1) := hide (by rw [List.length_append, HL3.out]; rfl)
              subst hv4
              clear hown4 hgr4 z0 hl4
              by_cases hck : j = cv
              · have hkk : k = j := by omega
                subst hck
                subst hkk
                have HT3 : Hid (TRow layN w4 (some ⟨gs, 0, none⟩) 0 (S.drop k)) := hide ⟨by rw [List.length_drop, HSL.out]; omega, .inl rfl⟩
                go_wp2_with (at_builtin; refine append_lay layN _ 31 3 i0 _ 8 Try.underlying31 hi hz0 hz1 hz2 rfl rfl (.tmp 43) (.tmp 46) rfl Wk.heap.size _ _ rfl HO4.out _ _ _ (S.drop k) rfl HT3.out (fun e => by cases e) (by rw [HL4.out]; unfold maxLen; omega) (by rw [HL4.out]; omega) HB4.out.size ?_; intro v5 w5 hown5 hgr5 hl5)
                have B5 : Below Wk.heap.size Wk w5 := HB4.out.grown hgr5 HB4.out.size (fun q hq => (HO4.out.lt q hq).1)
                refine ⟨⟨k + 1, by go_num, by omega, (fun e => by omega), ?_, HB.out.trans (B5.mono HB.out.size)⟩, by simp [intOf]; omega⟩
                rw [take_snoc HX.out, isort_snoc]
                rw [← HSE.out]
                have h9 := hown5
                rw [List.append_assoc, List.singleton_append] at h9
                rw [ins_at (k := k) (by rw [HSL.out]; omega) HLO.out (fun y hy => HUP.out k y (Nat.le_refl _) hy)]
                exact h9.mono HB.out.size
              · have HT3 : Hid (TRow layN w4 (some ⟨gs, j, none⟩) (k - j) (S.drop j)) := hide (by have h9 := ((HO.out.below HB4.out).row HSL.out).drop j hjk; rw [show 0 + j * layN.z = j by simp [layN]] at h9; exact h9)
                go_wp2_with (at_builtin; refine append_lay layN _ 31 3 i0 _ 8 Try.underlying31 hi hz0 hz1 hz2 rfl rfl (.tmp 43) (.tmp 46) rfl Wk.heap.size _ _ rfl HO4.out _ _ _ (S.drop j) rfl HT3.out (fun e => by cases e) (by rw [HL4.out]; unfold maxLen; omega) (by rw [HL4.out]; omega) HB4.out.size ?_; intro v5 w5 hown5 hgr5 hl5)
                have B5 : Below Wk.heap.size Wk w5 := HB4.out.grown hgr5 HB4.out.size (fun q hq => (HO4.out.lt q hq).1)
                refine ⟨⟨k + 1, by go_num, by omega, (fun e => by omega), ?_, HB.out.trans (B5.mono HB.out.size)⟩, by simp [intOf]; omega⟩
                rw [take_snoc HX.out, isort_snoc]
                rw [← HSE.out]
                have h9 := hown5
                rw [List.append_assoc, List.singleton_append] at h9
                rw [ins_at (k := j) (by rw [HSL.out]; omega) HLO.out (fun y hy => HUP.out j y (Nat.le_refl _) hy)]
                exact h9.mono HB.out.size
    · clear ho hb
      go_wp2_with fail
      go_ret
      refine ⟨_, rfl, ?_, HB.out⟩
      have h9 := HO'.out
      rw [List.take_of_length_le (by rw [HLN.out]; omega)] at h9
      exact h9
end Go.Proofs.Ytdmlehbamdcjcaa
