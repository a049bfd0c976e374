/-
  The law's made: a trace with a number for each event.
-/
import Derived.Test.YtdlpffbeladgaabLwC
namespace Go.Proofs.Ytdlpffbeladgaab
open Go.RowKit
/-- A trace of events that are a goroutine's, in memory of its own, with a number for each. -/
structure Made (w : World) (base : Nat) (v u : Value) (es : List Vt) (is : List Int) : Prop where
  ev : Own layV 30 w base v es
  ids : Own layN 3 w base u is
  len : is.length = es.length
  g : ∀ e ∈ es, 0 ≤ e.g ∧ e.g < 65536
theorem Made.below {w w' : World} {base : Nat} {v u : Value} {es : List Vt} {is : List Int} (h : Made w base v u es is) (hb : Below w.heap.size w w') : Made w' base v u es is :=
  ⟨h.ev.below hb, h.ids.below hb, h.len, h.g⟩
set_option maxRecDepth 8000 in
set_option maxHeartbeats 6400000 in
theorem made_any (w : World) (a b : Option Addr) (n c m d : Nat) (es : List Vt) (is : List Int) (hr : TRow layV w a n es) (hi : TRow layN w b m is) (hS : ∀ e ∈ es, Stk w e) (hn : (n : Int) ≤ 9000000000000000000) (hm : (m : Int) ≤ 9000000000000000000) :
    Calls Try.prog 4 #[.slice a n c, .slice b m d] w fun r w' => ∃ v u fs js, r = .returned (.tuple #[v, u]) ∧ Made w' w.heap.size v u fs js ∧ fs.length ≤ 1048576 ∧ (∀ e ∈ fs, Stk w' e) ∧ Below w.heap.size w w' := by
  obtain ⟨i0, hi0, hz0, hz1, hz2⟩ := info_parts Try.infoV
  obtain ⟨i1, hi1, hy0, hy1, hy2⟩ := info_parts Try.infoN
  have HR : Hid _ := hide hr
  have HI : Hid _ := hide hi
  have HL : Hid _ := hide hr.len
  have HLi : Hid _ := hide hi.len
  have HS : Hid _ := hide hS
  clear hr hi hS
  go_enter Try.func4, Try.ntmps4
  go_wp2_with fail
  go_loopw [6, 7, 8] (fun v u i wr => ∃ (k : Nat) (fs : List Vt) (js : List Int), i = .int .i64 k ∧ k ≤ n ∧ (k : Int) ≤ 1048576 ∧ Hid (fs.length = k) ∧ Hid (Made wr w.heap.size v u fs js) ∧ Hid (∀ e ∈ fs, Stk w e) ∧ Hid (Below w.heap.size w wr)) (fun _ _ i _ => n - numV i)
  case atStart => exact ⟨0, [], [], rfl, Nat.zero_le _, by omega, hide rfl, hide ⟨Own.nil _ _ _ _, Own.nil _ _ _ _, rfl, fun e he => by simp at he⟩, hide (fun e he => by simp at he), hide (Below.refl _ _)⟩
  case round =>
    obtain ⟨k, fs, js, rfl, hk, hkI, HF, HMd, HSt, HB⟩ := hrel
    obtain ⟨va, vc, hvv, -, -⟩ := own_form HMd.out.ev
    rw [HF.out] at hvv
    subst hvv
    obtain ⟨ua, uc, huu, -, -⟩ := own_form HMd.out.ids
    rw [HMd.out.len, HF.out] at huu
    subst huu
    by_cases hlt : k < n
    · have hltI : (k : Int) < (n : Int) := by omega
      by_cases hM : (k : Int) < 1048576
      · obtain ⟨e, he⟩ : ∃ r, es[k]? = some r := ⟨es[k]'(by rw [HL.out]; exact hlt), List.getElem?_eq_getElem _⟩
        obtain ⟨b1, o1, rfl, hb1, hc1⟩ := (HR.out.below HB.out).at (by omega)
        have hst := HS.out e (List.mem_of_getElem? he)
        have x0 := hc1 k e he 0 _ rfl
        have x1 := hc1 k e he 1 _ rfl
        have x2 := hc1 k e he 2 _ rfl
        have x3 := hc1 k e he 3 _ rfl
        have x4 := hc1 k e he 4 _ rfl
        simp only [layV, Nat.add_zero] at x0 x1 x2 x3 x4
        clear hc1 he
        obtain ⟨eg, ek, eo, ea, sa, sn, sc⟩ := e
        dsimp only at x0 x1 x2 x3 x4
        obtain ⟨w3, hw3⟩ : ∃ w3, w3 = wr.alloc (.cells #[.int .i64 eg, .int .i64 ek, .int .u64 eo, .int .u64 ea, .slice sa sn sc] 30) := ⟨_, rfl⟩
        have b3 : Below wr.heap.size wr w3 := by rw [hw3]; exact below_alloc1 _ _
        have s3 : wr.heap.size < w3.heap.size := by rw [hw3]; simp
        have r3 : w3.heap[wr.heap.size]? = some (.cells #[.int .i64 eg, .int .i64 ek, .int .u64 eo, .int .u64 ea, .slice sa sn sc] 30 (0, 0)) := by rw [hw3]; exact heap_new _ _
        have z0 : w3.cell? ⟨wr.heap.size, 0, none⟩ = some (.int .i64 eg) := cell_at r3 rfl
        have HST : Hid _ := hide hst
        have HW3 : Hid _ := hide hw3
        have HB3 : Hid _ := hide b3
        have HR3 : Hid _ := hide r3
        have hwr : w.heap.size ≤ wr.heap.size := HB.out.size
        clear hw3 b3 r3 hst
        go_wp2_with fail
        rw [← HW3.out]
        refine (within_any eg 65536 w3 (by omega) (by omega)).mono ?_
        rintro r w9 ⟨⟨g, rfl, hg0, hg1⟩, rfl⟩
        obtain ⟨w4, hw4⟩ : ∃ w4, w4 = w9.setCell ⟨wr.heap.size, 0, none⟩ (.int .i64 g) := ⟨_, rfl⟩
        have r4 : w4.heap[wr.heap.size]? = some (.cells #[.int .i64 g, .int .i64 ek, .int .u64 eo, .int .u64 ea, .slice sa sn sc] 30 (0, 0)) := by rw [hw4]; exact set1_heap _ HR3.out
        have b4 : Below wr.heap.size wr w4 := by rw [hw4]; exact HB3.out.setCell (p := ⟨wr.heap.size, 0, none⟩) (Nat.le_refl _) _
        have s4 : wr.heap.size < w4.heap.size := (Array.getElem?_eq_some_iff.1 r4).1
        have fz := frz HR3.out 0
        have q0 : w4.cell? ⟨wr.heap.size, 0, none⟩ = some (.int .i64 g) := cell_at r4 rfl
        have q1 : w4.cell? ⟨wr.heap.size, 1, none⟩ = some (.int .i64 ek) := cell_at r4 rfl
        have q2 : w4.cell? ⟨wr.heap.size, 2, none⟩ = some (.int .u64 eo) := cell_at r4 rfl
        have q3 : w4.cell? ⟨wr.heap.size, 3, none⟩ = some (.int .u64 ea) := cell_at r4 rfl
        have q4 : w4.cell? ⟨wr.heap.size, 4, none⟩ = some (.slice sa sn sc) := cell_at r4 rfl
        have HB4 : Hid _ := hide b4
        have HW4 : Hid _ := hide hw4
        clear hw4 r4 b4
        go_upto_region 8 with fail
        rw [← HW4.out]
        go_upto_region 9 with (at_builtin; refine append_lay layV _ 22 30 i0 _ 56 Try.underlying22 hi0 hz0 hz1 hz2 rfl rfl (.tmp 29) (.tmp 31) rfl w.heap.size (.slice va k vc) fs rfl (HMd.out.ev.below (HB4.out.alloc HB4.out.size _)) _ _ _ [(⟨g, ek, eo, ea, ⟨sa, sn, sc⟩⟩ : Vt)] rfl (TRow.one (heap_new _ _)) (fun e => by cases e) (by rw [HF.out]; unfold maxLen; omega) (by rw [HF.out]; omega) (by simp; omega) ?_; intro v5 w5 o5 g5 l5)
        have b5 : But (fun q => (Value.slice va k vc).ownBlock = some q) wr w5 := ((But.of_below HB4.out).alloc _).grown g5 (fun _ _ e9 => e9)
        have hs5 := b5.size
        have HO5 : Hid _ := hide o5
        have HU5 : Hid (Own layN 3 w5 w.heap.size (.slice ua k uc) js) := hide (HMd.out.ids.but b5 (fun q hq e9 => by
          obtain ⟨c1, e1⟩ := own_ty HMd.out.ids hq
          obtain ⟨c2, e2⟩ := own_ty HMd.out.ev e9
          rw [e1] at e2
          simp at e2))
        have B5 : Hid (Below w.heap.size w w5) := hide (HB.out.trans (b5.below hwr (fun q hq => (HMd.out.ev.lt q hq).1)))
        have HG5 : Hid (∀ e ∈ fs ++ [(⟨g, ek, eo, ea, ⟨sa, sn, sc⟩⟩ : Vt)], 0 ≤ e.g ∧ e.g < 65536) := hide (fun e he => by
          rcases List.mem_append.1 he with h9 | h9
          · exact HMd.out.g e h9
          · simp at h9; subst h9; exact ⟨hg0, hg1⟩)
        have HS5 : Hid (∀ e ∈ fs ++ [(⟨g, ek, eo, ea, ⟨sa, sn, sc⟩⟩ : Vt)], Stk w e) := hide (fun e he => by
          rcases List.mem_append.1 he with h9 | h9
          · exact HSt.out e h9
          · simp at h9; subst h9; exact HST.out)
        have HX5 : Hid _ := hide b5
        obtain ⟨v5a, v5c, hv5, -, -⟩ := own_form o5
        have hl5 : (fs ++ [(⟨g, ek, eo, ea, ⟨sa, sn, sc⟩⟩ : Vt)]).length = k + 1 := by simp [HF.out]
        rw [hl5] at hv5
        subst hv5
        have HL5 : Hid _ := hide hl5
        clear o5 g5 l5 b5 q0 q1 q2 q3 q4 z0 fz hl5 x0 x1 x2 x3 x4
        by_cases hkm : k < m
        · have hkmI : (k : Int) < (m : Int) := by omega
          obtain ⟨id, hid⟩ : ∃ r, is[k]? = some r := ⟨is[k]'(by rw [HLi.out]; exact hkm), List.getElem?_eq_getElem _⟩
          obtain ⟨b2, o2, rfl, hb2, hc2⟩ := (HI.out.below B5.out).at (by omega)
          have y0 := hc2 k id hid 0 _ rfl
          simp only [layN, Nat.add_zero, Nat.mul_one] at y0
          clear hc2 hid
          go_wp2_with (at_builtin; refine append_lay layN _ 23 3 i1 _ 8 Try.underlying23 hi1 hy0 hy1 hy2 rfl rfl (.tmp 42) (.tmp 44) rfl w.heap.size (.slice ua k uc) js rfl (HU5.out.below (below_alloc1 _ _)) _ _ _ [(id : Int)] rfl (TRow.one (heap_new _ _)) (fun e => by cases e) (by rw [HMd.out.len, HF.out]; unfold maxLen; omega) (by rw [HMd.out.len, HF.out]; omega) (by simp; omega) ?_; intro v6 w6 o6 g6 l6)
          have b6 : But (fun q => (Value.slice ua k uc).ownBlock = some q) w5 w6 := ((But.refl _ _).alloc _).grown g6 (fun _ _ e9 => e9)
          have HM6 : Hid (Made w6 w.heap.size (.slice v5a (k + 1) v5c) v6 (fs ++ [(⟨g, ek, eo, ea, ⟨sa, sn, sc⟩⟩ : Vt)]) (js ++ [id])) := hide (by
            refine ⟨HO5.out.but b6 (fun q hq e9 => ?_), o6, by rw [List.length_append, HMd.out.len, HF.out, HL5.out]; rfl, HG5.out⟩
            · obtain ⟨c1, e1⟩ := own_ty HO5.out hq
              obtain ⟨c2, e2⟩ := own_ty HU5.out e9
              rw [e1] at e2
              simp at e2)
          have HB6 : Hid (Below w.heap.size w w6) := hide (B5.out.trans (b6.below (Nat.le_trans hwr hs5) (fun q hq => (HMd.out.ids.lt q hq).1)))
          clear o6 g6 l6 b6
          go_wp2
          exact ⟨⟨k + 1, _, _, by go_num, by omega, by omega, HL5, HM6, HS5, HB6⟩, by simp [numV]; omega⟩
        · have hkmI : ¬ (k : Int) < (m : Int) := by omega
          go_wp2_with (at_builtin; refine append_lay layN _ 23 3 i1 _ 8 Try.underlying23 hi1 hy0 hy1 hy2 rfl rfl (.tmp 42) (.tmp 44) rfl w.heap.size (.slice ua k uc) js rfl (HU5.out.below (below_alloc1 _ _)) _ _ _ [((k : Int) : Int)] rfl (TRow.one (heap_new _ _)) (fun e => by cases e) (by rw [HMd.out.len, HF.out]; unfold maxLen; omega) (by rw [HMd.out.len, HF.out]; omega) (by simp; omega) ?_; intro v6 w6 o6 g6 l6)
          have b6 : But (fun q => (Value.slice ua k uc).ownBlock = some q) w5 w6 := ((But.refl _ _).alloc _).grown g6 (fun _ _ e9 => e9)
          have HM6 : Hid (Made w6 w.heap.size (.slice v5a (k + 1) v5c) v6 (fs ++ [(⟨g, ek, eo, ea, ⟨sa, sn, sc⟩⟩ : Vt)]) (js ++ [(k : Int)])) := hide (by
            refine ⟨HO5.out.but b6 (fun q hq e9 => ?_), o6, by rw [List.length_append, HMd.out.len, HF.out, HL5.out]; rfl, HG5.out⟩
            · obtain ⟨c1, e1⟩ := own_ty HO5.out hq
              obtain ⟨c2, e2⟩ := own_ty HU5.out e9
              rw [e1] at e2
              simp at e2)
          have HB6 : Hid (Below w.heap.size w w6) := hide (B5.out.trans (b6.below (Nat.le_trans hwr hs5) (fun q hq => (HMd.out.ids.lt q hq).1)))
          clear o6 g6 l6 b6
          go_wp2
          exact ⟨⟨k + 1, _, _, by go_num, by omega, by omega, HL5, HM6, HS5, HB6⟩, by simp [numV]; omega⟩
      · go_wp2
        go_ret2
        exact ⟨_, _, rfl, fs, ⟨js, HMd.out⟩, by rw [HF.out]; omega, fun e he => (HSt.out e he).below HB.out, HB.out⟩
    · have hltI : ¬ (k : Int) < (n : Int) := by omega
      go_wp2
      go_ret2
      exact ⟨_, _, rfl, fs, ⟨js, HMd.out⟩, by rw [HF.out]; omega, fun e he => (HSt.out e he).below HB.out, HB.out⟩
end Go.Proofs.Ytdlpffbeladgaab
