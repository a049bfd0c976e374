/-
  Line: the program's and the document's.
-/
import Derived.Test.YtbflkdbimgakpaaDoorDuJ
namespace Go.Proofs.YtbflkdbimgakpaaDoor
open Go.RowKit Go.Maps Go.Shelf
set_option linter.unusedVariables false
/-- What Line answers. -/
noncomputable def lnV (g k o a : Int) (ls : List ByteArray) : Value := if E6.chk g k o a ls = 0 then .tuple #[.string ⟨(linE g k.toNat o.toNat a.toNat ls).toArray⟩, .int .i64 0] else .tuple #[.string ⟨#[]⟩, .int .i64 (E6.chk g k o a ls)]
theorem chk_good {g k o a : Int} {ls : List ByteArray} (h : E6.chk g k o a ls = 0) : (1 ≤ k ∧ k ≤ 22) ∧ 0 ≤ g ∧ g < 65536 ∧ ls.length ≤ 16 ∧ ∀ s ∈ ls, s.size ≤ 65536 := by
  unfold E6.chk at h
  by_cases h1 : 1 ≤ k ∧ k ≤ 22
  · rw [if_pos h1] at h
    by_cases h2 : g < 0 ∨ 65536 ≤ g
    · rw [if_pos h2] at h; exact absurd h (by decide)
    · rw [if_neg h2] at h
      by_cases h3 : E6.objB k.toNat o a = true
      · rw [if_pos h3] at h
        by_cases h4 : E6.argB k.toNat a = true
        · rw [if_pos h4] at h
          by_cases h5 : E6.stkB ls = true
          · have hl : ls.length ≤ 16 := by
              rcases Nat.lt_or_ge 16 ls.length with h6 | h6
              · rw [E6.stkB_deep rfl h6] at h5; cases h5
              · exact h6
            rw [E6.stkB_all rfl hl, List.all_eq_true] at h5
            exact ⟨h1, by omega, by omega, hl, fun s hs => of_decide_eq_true (h5 s hs)⟩
          · rw [if_neg h5] at h; exact absurd h (by decide)
        · rw [if_neg h4] at h; exact absurd h (by decide)
      · rw [if_neg h3] at h; exact absurd h (by decide)
  · rw [if_neg h1] at h; exact absurd h (by decide)
set_option maxRecDepth 8000 in
set_option maxHeartbeats 4000000 in
theorem line_any (g k o a : Int) (sa : Option Addr) (n sc : Nat) (ls : List ByteArray) (w : World) (hK : Dk w) (hr : E6.SRow w sa n ls) (hn : (n : Int) ≤ 9223372036854775806) (ho : 0 ≤ o ∧ o ≤ 18446744073709551615) (ha : 0 ≤ a ∧ a ≤ 18446744073709551615) :
    Calls Tryd.prog 7 #[.agg #[.int .i64 g, .int .i64 k, .int .u64 o, .int .u64 a, .slice sa n sc]] w fun e w' => e = .returned (lnV g k o a ls) ∧ Below w.heap.size w w' := by
  obtain ⟨W, hW⟩ : ∃ W, W = w.alloc (.cells #[.int .i64 g, .int .i64 k, .int .u64 o, .int .u64 a, .slice sa n sc] 25) := ⟨_, rfl⟩
  have hbW : Below w.heap.size w W := by rw [hW]; exact below_alloc1 _ _
  have hsW := hbW.size
  have hbx : W.heap[w.heap.size]? = some (.cells #[.int .i64 g, .int .i64 k, .int .u64 o, .int .u64 a, .slice sa n sc] 25 (0, 0)) := by rw [hW]; exact heap_new _ _
  have hlt : w.heap.size < W.heap.size := (Array.getElem?_eq_some_iff.1 hbx).1
  have hKW := hK.below hbW hK.big
  have HCk := hide (E6.check_any g k o a sa n sc ls W hKW.kr (hr.bel hbW) hn)
  have HBx := hide (fun (X : World) (h : Below W.heap.size W X) => (h.block _ hlt).trans hbx)
  have HbW := hide hbW
  have HW := hide hW
  obtain ⟨V, hV⟩ : ∃ V, lnV g k o a ls = V := ⟨_, rfl⟩
  rw [hV]
  have HV := hide hV
  obtain ⟨F, hF⟩ : ∃ F, E6.chk g k o a ls = F := ⟨_, rfl⟩
  rw [hF] at HCk
  by_cases h0 : F = 0
  · obtain ⟨⟨k1, k2⟩, g0, g1, hl, hs⟩ := chk_good (hF.trans h0)
    have hVe : V = .tuple #[.string ⟨(linE g k.toNat o.toNat a.toNat ls).toArray⟩, .int .i64 0] := by rw [← hV, lnV, if_pos (hF.trans h0)]
    subst h0
    have HA := hide (fun (X : World) (h : Below W.heap.size W X) => aline_any X.heap.size (.slice none 0 0) [] g k.toNat o.toNat a.toNat sa n sc ls X (hKW.below h hKW.big) (Nat.le_trans hKW.big h.size) g0 g1 (by omega) (by omega) (by omega) (by omega) (by rw [← hr.len]; exact hl) hr.len hs (fun Y hY => ((hr.bel hbW).bel h).bel (hY)) (Own.nil _ _ _ _) (by simp) (Nat.le_refl _))
    rw [show ((k.toNat : Nat) : Int) = k by omega, show ((o.toNat : Nat) : Int) = o by omega, show ((a.toNat : Nat) : Int) = a by omega] at HA
    obtain ⟨S, hS⟩ : ∃ S, linE g k.toNat o.toNat a.toNat ls = S := ⟨_, rfl⟩
    rw [hS] at HA hVe
    have HVe := hide hVe
    clear hW hbx hlt hKW hbW hsW hK hr hF hV HV k1 k2 g0 g1 hl hs ho ha hS hVe
    go_enter Tryd.func7, Tryd.ntmps7
    go_wp2_with fail
    rw [← HW.out]
    refine HCk.out.mono ?_
    rintro x w1 ⟨rfl, hb1⟩
    have HB1 := hide hb1
    have hbx1 := HBx.out w1 hb1
    have c0 := cell_at hbx1 (i := 0) rfl
    have c1 := cell_at hbx1 (i := 1) rfl
    have c2 := cell_at hbx1 (i := 2) rfl
    have c3 := cell_at hbx1 (i := 3) rfl
    have c4 := cell_at hbx1 (i := 4) rfl
    have HA1 := hide (HA.out w1 hb1)
    clear hbx1 hb1 HCk HA
    go_wp2_with fail
    refine HA1.out.mono ?_
    rintro x w2 ⟨v2, rfl, o2, f2⟩
    have hcv := conv_own o2
    rw [List.nil_append] at hcv
    have HB2 := hide (HbW.out.trans ((HB1.out.trans (f2.bel.mono HB1.out.size)).mono HbW.out.size))
    clear o2 f2 HA1 c0 c1 c2 c3 c4
    go_wp2
    go_ret2
    exact ⟨by rw [HVe.out]; rfl, HB2.out⟩
  · have hb : (F != 0) = true := by simp [h0]
    have HVe : Hid (V = .tuple #[.string ⟨#[]⟩, .int .i64 F]) := hide (by rw [← hV, lnV, if_neg (by rw [hF]; exact h0), hF])
    clear hW hbx hlt hKW hbW hsW hK hr hF hV HV h0 ho ha
    go_enter Tryd.func7, Tryd.ntmps7
    go_wp2_with fail
    rw [← HW.out]
    refine HCk.out.mono ?_
    rintro x w1 ⟨rfl, hb1⟩
    have HB1 := hide (HbW.out.trans (hb1.mono HbW.out.size))
    clear hb1 HCk
    go_wp2
    go_ret2
    exact ⟨by rw [HVe.out]; rfl, HB1.out⟩
set_option maxRecDepth 8000 in
set_option maxHeartbeats 4000000 in
theorem rline_any (g k o a : Int) (sa : Option Addr) (n sc : Nat) (ls : List ByteArray) (w : World) (hK : Dk w) (hr : E6.SRow w sa n ls) (hn : (n : Int) ≤ 9223372036854775806) (ho : 0 ≤ o ∧ o ≤ 18446744073709551615) (ha : 0 ≤ a ∧ a ≤ 18446744073709551615) :
    Calls Tryd.prog 8 #[.agg #[.int .i64 g, .int .i64 k, .int .u64 o, .int .u64 a, .slice sa n sc]] w fun e w' => e = .returned (lnV g k o a ls) ∧ Below w.heap.size w w' := by
  obtain ⟨W, hW⟩ : ∃ W, W = w.alloc (.cells #[.int .i64 g, .int .i64 k, .int .u64 o, .int .u64 a, .slice sa n sc] 25) := ⟨_, rfl⟩
  have hbW : Below w.heap.size w W := by rw [hW]; exact below_alloc1 _ _
  have hsW := hbW.size
  have hbx : W.heap[w.heap.size]? = some (.cells #[.int .i64 g, .int .i64 k, .int .u64 o, .int .u64 a, .slice sa n sc] 25 (0, 0)) := by rw [hW]; exact heap_new _ _
  have hlt : w.heap.size < W.heap.size := (Array.getElem?_eq_some_iff.1 hbx).1
  have hKW := hK.below hbW hK.big
  have HCk := hide (E6.rcheck_any g k o a sa n sc ls W (hr.bel hbW) hn ho ha)
  have HBx := hide (fun (X : World) (h : Below W.heap.size W X) => (h.block _ hlt).trans hbx)
  have HbW := hide hbW
  have HW := hide hW
  obtain ⟨V, hV⟩ : ∃ V, lnV g k o a ls = V := ⟨_, rfl⟩
  rw [hV]
  obtain ⟨F, hF⟩ : ∃ F, E6.chk g k o a ls = F := ⟨_, rfl⟩
  rw [hF] at HCk
  by_cases h0 : F = 0
  · obtain ⟨⟨k1, k2⟩, g0, g1, hl, hs⟩ := chk_good (hF.trans h0)
    have hVe : V = .tuple #[.string ⟨(linE g k.toNat o.toNat a.toNat ls).toArray⟩, .int .i64 0] := by rw [← hV, lnV, if_pos (hF.trans h0)]
    subst h0
    have HA := hide (fun (X : World) (h : Below W.heap.size W X) => rshown_any g k.toNat o.toNat a.toNat sa n sc ls X (hKW.below h hKW.big) g0 g1 (by omega) (by omega) (by omega) (by omega) (by rw [← hr.len]; exact hl) hs ((hr.bel hbW).bel h))
    rw [show ((k.toNat : Nat) : Int) = k by omega, show ((o.toNat : Nat) : Int) = o by omega, show ((a.toNat : Nat) : Int) = a by omega] at HA
    obtain ⟨S, hS⟩ : ∃ S, linE g k.toNat o.toNat a.toNat ls = S := ⟨_, rfl⟩
    rw [hS] at HA hVe
    have HVe := hide hVe
    clear hW hbx hlt hKW hbW hsW hK hr hF hV k1 k2 g0 g1 hl hs ho ha hS hVe
    go_enter Tryd.func8, Tryd.ntmps8
    go_wp2_with fail
    rw [← HW.out]
    refine HCk.out.mono ?_
    rintro x w1 ⟨rfl, hb1⟩
    have HB1 := hide hb1
    have hbx1 := HBx.out w1 hb1
    have c0 := cell_at hbx1 (i := 0) rfl
    have c1 := cell_at hbx1 (i := 1) rfl
    have c2 := cell_at hbx1 (i := 2) rfl
    have c3 := cell_at hbx1 (i := 3) rfl
    have c4 := cell_at hbx1 (i := 4) rfl
    have HA1 := hide (HA.out w1 hb1)
    clear hbx1 hb1 HCk HA
    go_wp2_with fail
    refine HA1.out.mono ?_
    rintro x w2 ⟨rfl, b2⟩
    have HB2 := hide (HbW.out.trans ((HB1.out.trans (b2.mono HB1.out.size)).mono HbW.out.size))
    clear b2 HA1 c0 c1 c2 c3 c4
    go_wp2
    go_ret2
    exact ⟨by rw [HVe.out]; rfl, HB2.out⟩
  · have hb : (F != 0) = true := by simp [h0]
    have HVe : Hid (V = .tuple #[.string ⟨#[]⟩, .int .i64 F]) := hide (by rw [← hV, lnV, if_neg (by rw [hF]; exact h0), hF])
    clear hW hbx hlt hKW hbW hsW hK hr hF hV h0 ho ha
    go_enter Tryd.func8, Tryd.ntmps8
    go_wp2_with fail
    rw [← HW.out]
    refine HCk.out.mono ?_
    rintro x w1 ⟨rfl, hb1⟩
    have HB1 := hide (HbW.out.trans (hb1.mono HbW.out.size))
    clear hb1 HCk
    go_wp2
    go_ret2
    exact ⟨by rw [HVe.out]; rfl, HB1.out⟩
end Go.Proofs.YtbflkdbimgakpaaDoor
