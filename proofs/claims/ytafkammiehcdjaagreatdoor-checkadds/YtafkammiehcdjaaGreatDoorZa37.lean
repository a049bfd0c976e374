import Derived.Test.YtafkammiehcdjaaGreatDoorZa36
import Derived.Test.YtafkammiehcdjaaGreatDoorZa26
/-
  The document's Add, the walk.
-/
namespace Go.Proofs.YtafkammiehcdjaaGreatDoor
open Go.RowKit Go.Maps Go.Shelf
set_option linter.unusedVariables false
/-- What Add leaves of the document's checker. -/
def Left (w wr w' : World) (rb : Nat) (vt : Value) (qs : List E6.Ev) (M : CS) (e : E6.Ev) : Prop := ∃ vt' qs', Rf w w' rb vt' qs' ∧ But (fun k => k = rb ∨ vt.ownBlock = some k) wr w' ∧ (∀ k, vt'.ownBlock = some k → vt.ownBlock = some k ∨ wr.heap.size ≤ k) ∧ ((M.addS e.chk (me e) = M ∧ qs' = qs) ∨ (e.chk = 0 ∧ M.why (me e) = 0 ∧ M.addS e.chk (me e) = M.next (me e) ∧ qs' = qs ++ [bare e]))
theorem Left.same {w wr w2 : World} {rb : Nat} {vt : Value} {qs : List E6.Ev} {M : CS} {e : E6.Ev} (h : Rf w w2 rb vt qs) (hb : Below wr.heap.size wr w2) (he : M.addS e.chk (me e) = M) : Left w wr w2 rb vt qs M e := ⟨vt, qs, h, But.of_below hb, fun k hk => .inl hk, .inl ⟨he, rfl⟩⟩
set_option maxRecDepth 8000 in
set_option maxHeartbeats 16000000 in
theorem rAdd_any {w wr : World} {rb : Nat} {vt : Value} {qs : List E6.Ev} {M : CS} (h : Rf w wr rb vt qs) (hq : ∀ f ∈ qs, Eb f.g f.k f.o f.a) (hR : Rch (qs.map me) M) (ht : M.taken = qs.length) (htk : M.taken ≤ 1048576) (e : E6.Ev) (hok : e.ok) (hs : E6.SRow wr e.sa e.ls.length e.ls) :
    Calls Tryz.prog 44 #[.pointer (some ⟨rb, 0, none⟩), .agg #[.int .i64 e.g, .int .i64 e.k, .int .u64 e.o, .int .u64 e.a, .slice e.sa e.ls.length e.sc]] wr fun r w' => r = .returned (.tuple #[.int .i64 (M.addY e.chk (me e)), .int .i64 (M.addE e.chk)]) ∧ Left w wr w' rb vt qs M e := by
  obtain ⟨W, hW⟩ : ∃ W, W = wr.alloc (.cells #[.int .i64 e.g, .int .i64 e.k, .int .u64 e.o, .int .u64 e.a, .slice e.sa e.ls.length e.sc] 36) := ⟨_, rfl⟩
  have hb : Below wr.heap.size wr W := by rw [hW]; exact below_alloc1 wr _
  have hE : W.heap[wr.heap.size]? = some (.cells (evC e.g e.k e.o e.a (.slice e.sa e.ls.length e.sc)) 36 (0, 0)) := by rw [hW]; exact heap_new _ _
  obtain ⟨p0, p1, p2, p3, p4⟩ := evc0 hE
  have hlW := lt_of_heap hE
  have HBx : Hid (∀ X, Below W.heap.size W X → X.cell? ⟨wr.heap.size, 0, none⟩ = some (.int .i64 e.g) ∧ X.cell? ⟨wr.heap.size, 1, none⟩ = some (.int .i64 e.k) ∧ X.cell? ⟨wr.heap.size, 2, none⟩ = some (.int .u64 e.o) ∧ X.cell? ⟨wr.heap.size, 3, none⟩ = some (.int .u64 e.a) ∧ X.cell? ⟨wr.heap.size, 4, none⟩ = some (.slice e.sa e.ls.length e.sc) ∧ wr.heap.size < X.heap.size) := hide (fun X hX => ⟨E6.cell_bel p0 hX, E6.cell_bel p1 hX, E6.cell_bel p2 hX, E6.cell_bel p3 hX, E6.cell_bel p4 hX, Nat.lt_of_lt_of_le hlW hX.size⟩)
  have HRf := hide (h.on hb)
  have HR0 := hide h
  have HRW := hide (HRf.out.on (Below.refl _ _))
  have HC := hide (E6.rcheck_any e.g e.k e.o e.a e.sa e.ls.length e.sc e.ls W (E6.SRow.bel hs hb) (by have := hok.len; omega) hok.ho hok.ha)
  obtain ⟨ck, hck⟩ : ∃ ck, ck = E6.chk e.g e.k e.o e.a e.ls := ⟨_, rfl⟩
  have HCk : Hid (e.chk = ck) := hide hck.symm
  rw [← hck] at HC
  rw [HCk.out]
  obtain ⟨AY, hAY⟩ : ∃ AY, AY = M.addY ck (me e) := ⟨_, rfl⟩
  obtain ⟨AE, hAE⟩ : ∃ AE, AE = M.addE ck := ⟨_, rfl⟩
  rw [← hAY, ← hAE]
  have HAY := hide hAY
  have HAE := hide hAE
  clear hAY hAE
  have HW := hide hW
  have HBW := hide hb
  have HQ := hide hq
  have HR := hide hR
  have HT := hide ht
  have HTk := hide htk
  have HOk := hide hok
  clear hq hR ht htk hs hb hW hE h hck hok
  go_enter Tryz.func44, Tryz.ntmps44
  go_wp2_with fail
  rw [← HW.out]
  clear HW
  have HNe : Hid (¬ (wr.heap.size = rb ∨ vt.ownBlock = some wr.heap.size)) := hide (fun q => by
    rcases q with q | q
    · have := lt_of_heap HR0.out.wc; omega
    · have := (HR0.out.ot.lt _ q).2; omega)
  clear HR0
  generalize wr.heap.size = eb at HNe HBx p0 p1 p2 p3 p4 hlW ⊢
  go_wp2_with fail
  refine HC.out.mono ?_
  rintro r w2 ⟨rfl, hb2⟩
  have HR2 := hide (HRf.out.on hb2)
  have HB2 := hide hb2
  have HB0 := hide (HBW.out.trans (hb2.mono HBW.out.size))
  obtain ⟨q0, q1, q2, q3, q4, ql⟩ := HBx.out w2 hb2
  clear HC hb2 p0 p1 p2 p3 p4
  by_cases hc0 : ck = 0
  · subst hc0
    obtain ⟨ta, tc, hvt, hrow, htc⟩ := HR2.out.row
    subst hvt
    have y0 : w2.cell? ⟨rb, 0, none⟩ = some (.slice ta qs.length tc) := cell_at HR2.out.wc rfl
    have yl := lt_of_heap HR2.out.wc
    by_cases hfull : M.taken = 1048576
    · obtain ⟨z1, z2, z3⟩ := add_full hfull (me e)
      have HA1 : Hid (AY = 0) := hide (HAY.out.trans z1)
      have HA2 : Hid (AE = 3) := hide (HAE.out.trans z2)
      have hd1 : decide ((1048576 : Int) ≤ (qs.length : Int)) = true := decide_eq_true (by have := HT.out; omega)
      have hd2 : decide (1048576 ≤ qs.length) = true := decide_eq_true (by have := HT.out; omega)
      have HLf := hide (Left.same HR2.out HB0.out (e := e) (M := M) (by rw [HCk.out]; exact z3))
      clear z1 z2 z3 hrow
      go_wp2
      go_ret2
      exact ⟨by rw [HA1.out, HA2.out]; rfl, HLf.out⟩
    · obtain ⟨z1, z2, z3⟩ := add_why hfull (me e)
      have HA2 : Hid (AE = 0) := hide (HAE.out.trans z2)
      have hlt : (qs.length : Int) < 1048576 := by have := HT.out; have := HTk.out; omega
      have hd1 : decide ((1048576 : Int) ≤ (qs.length : Int)) = false := decide_eq_false (by omega)
      have hd2 : decide (1048576 ≤ qs.length) = false := decide_eq_false (by omega)
      have hgd := gdm_of HCk.out HOk.out
      have HRe := hide (rreason_any ta qs.length tc qs w2.drew (hrow.bel (Below.refl _ _).drew) (by omega) HQ.out (by omega) HR.out.mde e.g e.o e.a (.slice e.sa e.ls.length e.sc) e.k hgd.2)
      unfold evC at HRe
      have HWy := hide (HR.out.why hgd.1)
      obtain ⟨Y, hY⟩ : ∃ Y, Y = rsn (qs.map me) ⟨e.g, e.k, e.o, e.a⟩ := ⟨_, rfl⟩
      rw [← hY] at HRe
      have hYw : M.why (me e) = Y := by rw [HWy.out, hY]; rfl
      have HA1 : Hid (AY = Y) := hide ((HAY.out.trans z1).trans hYw)
      have HZ3 : Hid (M.addS 0 (me e) = if Y ≠ 0 then M else M.next (me e)) := hide (by rw [z3, hYw])
      have HYw := hide hYw
      have HSx : Hid (∀ X, Below w2.heap.size w2 X → X.cell? ⟨rb, 0, none⟩ = some (.slice ta qs.length tc) ∧ X.cell? ⟨eb, 0, none⟩ = some (.int .i64 e.g) ∧ X.cell? ⟨eb, 1, none⟩ = some (.int .i64 e.k) ∧ X.cell? ⟨eb, 2, none⟩ = some (.int .u64 e.o) ∧ X.cell? ⟨eb, 3, none⟩ = some (.int .u64 e.a) ∧ X.cell? ⟨eb, 4, none⟩ = some (.slice e.sa e.ls.length e.sc)) := hide (fun X hX => ⟨E6.cell_bel y0 hX, E6.cell_bel q0 hX, E6.cell_bel q1 hX, E6.cell_bel q2 hX, E6.cell_bel q3 hX, E6.cell_bel q4 hX⟩)
      have HX0 := hide (Below.refl w2.heap.size w2)
      have HX1 := hide ((Below.refl w2.heap.size w2).drew)
      clear z1 z2 z3 hgd hY hYw HWy hrow
      go_wp2_with fail
      go_region_held3 (fun X => X.cell? ⟨rb, 0, none⟩ = some (.slice ta qs.length tc) ∧ X.cell? ⟨eb, 0, none⟩ = some (.int .i64 e.g) ∧ X.cell? ⟨eb, 1, none⟩ = some (.int .i64 e.k) ∧ X.cell? ⟨eb, 2, none⟩ = some (.int .u64 e.o) ∧ X.cell? ⟨eb, 3, none⟩ = some (.int .u64 e.a) ∧ X.cell? ⟨eb, 4, none⟩ = some (.slice e.sa e.ls.length e.sc))
        (first | with_reducible exact HSx.out _ HX0.out | with_reducible exact HSx.out _ HX1.out | with_reducible exact HSx.out _ HX7.out)
        (first | (go_at_call 42; go_must (refine HRe.out.mono ?_; rintro e9 w7 ⟨rfl, h7⟩; have HX7 : Hid (Below w2.heap.size w2 w7) := hide (HX1.out.trans (h7.mono HX1.out.size)); clear h7)))
      have HR7 := hide (HR2.out.on HX7.out)
      clear HRe HX0 HX1 q0 q1 q2 q3 q4 y0
      by_cases hY0 : Y = 0
      · subst hY0
        have HLs : Hid (M.addS e.chk (me e) = M.next (me e)) := hide (by rw [HCk.out, HZ3.out, if_neg (fun q => q rfl)])
        obtain ⟨y0, q0, q1, q2, q3, q4⟩ := HSx.out w7 HX7.out
        have yl7 := lt_of_heap HR7.out.wc
        have yf : w7.frozen? ⟨rb, 0, none⟩ = false := frozen_of_row w7 rb 0 _ _ HR7.out.wc
        have ql7 : eb < w7.heap.size := Nat.lt_of_lt_of_le ql HX7.out.size
        have HM56 : Hid ((qs.length + 1) * 56 ≤ 140737488355328) := hide (by omega)
        have HEv : Hid (∀ X, But (fun k => k = rb ∨ (Value.slice ta qs.length tc).ownBlock = some k) w7 X → X.cell? ⟨eb, 0, none⟩ = some (.int .i64 e.g) ∧ X.cell? ⟨eb, 1, none⟩ = some (.int .i64 e.k) ∧ X.cell? ⟨eb, 2, none⟩ = some (.int .u64 e.o) ∧ X.cell? ⟨eb, 3, none⟩ = some (.int .u64 e.a)) := hide (by
          have hne : ¬ (eb = rb ∨ (Value.slice ta qs.length tc).ownBlock = some eb) := HNe.out
          intro X hX
          exact ⟨cell_but q0 hX hne, cell_but q1 hX hne, cell_but q2 hX hne, cell_but q3 hX hne⟩)
        have HOT : Hid ((w7.alloc (.cells #[.int .i64 e.g, .int .i64 e.k, .int .u64 e.o, .int .u64 e.a, .slice none 0 0] 36)).drew.ownsRow w.heap.size 36 5 (.slice ta qs.length tc) qs.length (E6.ecells qs)) := hide (own_but (S := fun _ => False) HR7.out.ot (But.of_below ((below_alloc1 w7 (.cells #[.int .i64 e.g, .int .i64 e.k, .int .u64 e.o, .int .u64 e.a, .slice none 0 0] 36)).drew)) (fun _ _ e => e))
        have HSA := hide (HR7.out.on ((below_alloc1 w7 (.cells #[.int .i64 e.g, .int .i64 e.k, .int .u64 e.o, .int .u64 e.a, .slice none 0 0] 36)).drew))
        have HBA : Hid (But (fun k => k = rb ∨ (Value.slice ta qs.length tc).ownBlock = some k) w7 (w7.alloc (.cells #[.int .i64 e.g, .int .i64 e.k, .int .u64 e.o, .int .u64 e.a, .slice none 0 0] 36)).drew) := hide (But.of_below ((below_alloc1 w7 (.cells #[.int .i64 e.g, .int .i64 e.k, .int .u64 e.o, .int .u64 e.a, .slice none 0 0] 36)).drew))
        have HBW7 := hide (HB0.out.trans (HX7.out.mono HB0.out.size))
        go_wp2_with fail
        refine wp_region_noPanic ?_
        refine wp_region_held_drew (S := fun X => X.cell? ⟨eb, 0, none⟩ = some (.int .i64 e.g) ∧ X.cell? ⟨eb, 1, none⟩ = some (.int .i64 e.k) ∧ X.cell? ⟨eb, 2, none⟩ = some (.int .u64 e.o) ∧ X.cell? ⟨eb, 3, none⟩ = some (.int .u64 e.a)) (by kernel_rfl) (HEv.out _ (But.refl _ _).drew) (fun hHeld => ?_)
        refine wpAnyH_take (i := 0) (oi := _) (v := ?v0_1) rfl (by kernel_rfl) (by kernel_rfl) (by kernel_rfl) (fun _ _ _ h => h) (Or.inl ⟨by rfl, ?y0_1⟩) (by assumption) ?r0_1
        case y0_1 => (intro w' hSw; (try dsimp only at hSw); go_simp; try with_reducible rfl)
        refine wpAnyH_take (i := 1) (oi := _) (v := ?v1_2) rfl (by kernel_rfl) (by kernel_rfl) (by kernel_rfl) (fun _ _ _ h => h) (Or.inl ⟨by rfl, ?y1_2⟩) (by assumption) ?r1_2
        case y1_2 => (intro w' hSw; (try dsimp only at hSw); go_simp; try with_reducible rfl)
        refine wpAnyH_take (i := 2) (oi := _) (v := ?v2_3) rfl (by kernel_rfl) (by kernel_rfl) (by kernel_rfl) (fun _ _ _ h => h) (Or.inl ⟨by rfl, ?y2_3⟩) (by assumption) ?r2_3
        case y2_3 => (intro w' hSw; (try dsimp only at hSw); go_simp; try with_reducible rfl)
        refine wpAnyH_take (i := 3) (oi := _) (v := ?v3_4) rfl (by kernel_rfl) (by kernel_rfl) (by kernel_rfl) (fun _ _ _ h => h) (Or.inl ⟨by rfl, ?y3_4⟩) (by assumption) ?r3_4
        case y3_4 => (intro w' hSw; (try dsimp only at hSw); go_simp; try with_reducible rfl)
        refine wpAnyH_take (i := 5) (oi := _) (v := ?v5_5) rfl (by kernel_rfl) (by kernel_rfl) (by kernel_rfl) (fun _ _ _ h => h) (Or.inl ⟨by rfl, ?y5_5⟩) (by assumption) ?r5_5
        case y5_5 => (intro w' hSw; (try dsimp only at hSw); go_simp; try with_reducible rfl)
        refine wpAnyH_take (i := 6) (oi := _) (v := ?v6_6) rfl (by kernel_rfl) (by kernel_rfl) (by kernel_rfl) (fun _ _ _ h => h) (Or.inl ⟨by rfl, ?y6_6⟩) (by assumption) ?r6_6
        case y6_6 => (intro w' hSw; (try dsimp only at hSw); go_simp; try with_reducible rfl)
        refine wpAnyH_take (i := 7) (oi := _) (v := ?v7_7) rfl (by kernel_rfl) (by kernel_rfl) (by kernel_rfl) (fun _ _ _ h => h) (Or.inl ⟨by rfl, ?y7_7⟩) (by assumption) ?r7_7
        case y7_7 => (intro w' hSw; (try dsimp only at hSw); go_simp; try with_reducible rfl)
        refine wpAnyH_take (i := 8) (oi := _) (v := ?v8_8) rfl (by kernel_rfl) (by kernel_rfl) (by kernel_rfl) (fun _ _ _ h => h) (Or.inl ⟨by rfl, ?y8_8⟩) (by assumption) ?r8_8
        case y8_8 => (intro w' hSw; (try dsimp only at hSw); go_simp; try with_reducible rfl)
        refine wpAnyH_take (i := 9) (oi := _) (v := ?v9_9) rfl (by kernel_rfl) (by kernel_rfl) (by kernel_rfl) (fun _ _ _ h => h) (Or.inl ⟨by rfl, ?y9_9⟩) (by assumption) ?r9_9
        case y9_9 => (intro w' hSw; (try dsimp only at hSw); go_simp; try with_reducible rfl)
        refine wpAnyH_take (i := 10) (oi := _) (v := ?v10_10) rfl (by kernel_rfl) (by kernel_rfl) (by kernel_rfl) (fun _ _ _ h => h) (Or.inl ⟨by rfl, ?y10_10⟩) (by assumption) ?r10_10
        case y10_10 => (intro w' hSw; (try dsimp only at hSw); go_simp; try with_reducible rfl)
        refine wpAnyH_take (i := 11) (oi := _) (v := ?v11_11) rfl (by kernel_rfl) (by kernel_rfl) (by kernel_rfl) (fun _ _ _ h => h) (Or.inl ⟨by rfl, ?y11_11⟩) (by assumption) ?r11_11
        case y11_11 => (intro w' hSw; (try dsimp only at hSw); go_simp; try with_reducible rfl)
        refine wpAnyH_take (i := 12) (oi := _) (v := ?v12_12) rfl (by kernel_rfl) (by kernel_rfl) (by kernel_rfl) (fun _ _ _ h => h) (Or.inl ⟨by rfl, ?y12_12⟩) (by assumption) ?r12_12
        case y12_12 => (intro w' hSw; (try dsimp only at hSw); go_simp; try with_reducible rfl)
        refine wpAnyH_take (i := 13) (oi := _) (v := ?v13_13) rfl (by kernel_rfl) (by kernel_rfl) (by kernel_rfl) (fun _ _ _ h => h) (Or.inl ⟨by rfl, ?y13_13⟩) (by assumption) ?r13_13
        case y13_13 => (intro w' hSw; (try dsimp only at hSw); go_simp; try with_reducible rfl)
        refine wpAnyH_ready (rs := [4, 14]) (by kernel_rfl) (by simp) ?_
        refine AllReadyH.cons (o := _) rfl (fun KK hKK => ?_) (AllReadyH.cons (o := _) rfl (fun KK hKK => ?_) AllReadyH.nil)
        · go_simp
          refine hKK.out _ _ (HEv.out _ (But.refl _ _).drew) (fun hHeld4 => ?_)
          clear hKK KK
          refine wpAnyH_ready (rs := [14]) (by kernel_rfl) (by simp) ?_
          refine AllReadyH.cons (o := _) rfl (fun KK hKK => ?_) AllReadyH.nil
          go_simp
          refine hKK.out _ _ (HEv.out _ HBA.out) (fun hHeld14 => ?_)
          clear hKK KK
          refine wpAnyH_ready (rs := [15]) (by kernel_rfl) (by simp) ?_
          refine AllReadyH.cons (o := _) rfl (fun KK hKK => ?_) AllReadyH.nil
          refine E6.step_ev rfl (.tmp 34) (.tmp 44) rfl w.heap.size (.slice ta qs.length tc) qs.length qs (by simp [Act.eval]) HOT.out w7.heap.size (bare e) (by simp [Act.eval]) (show E6.EvB _ _ _ _ _ _ _ _ _ from E6.EvB.new) HM56.out (Nat.le_trans HR7.out.bel.size (by simp)) ?_
          intro a3 c3 w8 o2 g2 l2
          have x1 := HSA.out.wc7 g2
          have x2 : w8.cell? ⟨rb, 0, none⟩ = some (.slice ta qs.length tc) := cell_at x1 rfl
          have x3 : w8.frozen? ⟨rb, 0, none⟩ = false := frozen_of_row w8 rb 0 _ _ x1
          have x4 := lt_of_heap x1
          have HG8 : Hid (But (fun k => k = rb ∨ (Value.slice ta qs.length tc).ownBlock = some k) w7 w8) := hide (HBA.out.trans (But.of_grown g2 (fun k e => .inr e)) (fun _ _ e => e))
          have HGS : Hid (But (fun k => k = rb ∨ (Value.slice ta qs.length tc).ownBlock = some k) w7 (w8.setCell ⟨rb, 0, none⟩ (.slice a3 (qs.length + 1) c3))) := hide (HG8.out.setCell ⟨rb, 0, none⟩ (fun _ => .inl rfl) _)
          have HR8 : Hid (Rf w (w8.setCell ⟨rb, 0, none⟩ (.slice a3 (qs.length + 1) c3)) rb (.slice a3 (qs.length + 1) c3) (qs ++ [bare e])) := hide (HSA.out.push (by rw [List.length_append]; exact o2) g2)
          have HL8 : Hid (∀ k, (Value.slice a3 (qs.length + 1) c3).ownBlock = some k → (Value.slice ta qs.length tc).ownBlock = some k ∨ wr.heap.size ≤ k) := hide (fun k hk => by
            rcases l2 with l2 | l2
            · exact .inl (l2 ▸ hk)
            · rw [l2] at hk
              cases hk
              have := HBW7.out.size
              have := HBA.out.size
              exact .inr (by omega))
          clear o2 g2 l2 x1
          refine hKK.out _ _ (HEv.out _ HG8.out) (fun hHeld15 => ?_)
          clear hKK KK
          refine wpAnyH_take (i := 16) (oi := _) (v := ?v16_14) rfl (by kernel_rfl) (by kernel_rfl) (by kernel_rfl) (fun _ _ _ h => h) (Or.inl ⟨by rfl, ?y16_14⟩) (by assumption) ?r16_14
          case y16_14 => (intro w' hSw; (try dsimp only at hSw); go_simp; try with_reducible rfl)
          refine wpAnyH_take (i := 17) (oi := _) (v := ?v17_15) rfl (by kernel_rfl) (by kernel_rfl) (by kernel_rfl) (fun _ _ _ h => h) (Or.inl ⟨by rfl, ?y17_15⟩) (by assumption) ?r17_15
          case y17_15 => (intro w' hSw; (try dsimp only at hSw); go_simp; try with_reducible rfl)
          refine wpAnyH_ready (rs := [18]) (by kernel_rfl) (by simp) ?_
          refine AllReadyH.cons (o := _) rfl (fun KK hKK => ?_) AllReadyH.nil
          go_simp
          refine hKK.out _ _ (HEv.out _ HGS.out) (fun hHeld18 => ?_)
          clear hKK KK
          refine wpAnyH_done (by kernel_rfl) ?_ _
          refine NoPanic.normal ?_
          clear x2 x3 x4 hHeld
          go_wp2
          go_ret2
          exact ⟨by rw [HA1.out, HA2.out]; rfl, _, _, HR8.out, (But.of_below HBW7.out).trans HGS.out (fun _ _ e => e), HL8.out, .inr ⟨HCk.out, HYw.out, HLs.out, rfl⟩⟩
        · go_simp
          refine hKK.out _ _ (HEv.out _ HBA.out) (fun hHeld14 => ?_)
          clear hKK KK
          refine wpAnyH_ready (rs := [4]) (by kernel_rfl) (by simp) ?_
          refine AllReadyH.cons (o := _) rfl (fun KK hKK => ?_) AllReadyH.nil
          go_simp
          refine hKK.out _ _ (HEv.out _ HBA.out) (fun hHeld4 => ?_)
          clear hKK KK
          refine wpAnyH_ready (rs := [15]) (by kernel_rfl) (by simp) ?_
          refine AllReadyH.cons (o := _) rfl (fun KK hKK => ?_) AllReadyH.nil
          refine E6.step_ev rfl (.tmp 34) (.tmp 44) rfl w.heap.size (.slice ta qs.length tc) qs.length qs (by simp [Act.eval]) HOT.out w7.heap.size (bare e) (by simp [Act.eval]) (show E6.EvB _ _ _ _ _ _ _ _ _ from E6.EvB.new) HM56.out (Nat.le_trans HR7.out.bel.size (by simp)) ?_
          intro a3 c3 w8 o2 g2 l2
          have x1 := HSA.out.wc7 g2
          have x2 : w8.cell? ⟨rb, 0, none⟩ = some (.slice ta qs.length tc) := cell_at x1 rfl
          have x3 : w8.frozen? ⟨rb, 0, none⟩ = false := frozen_of_row w8 rb 0 _ _ x1
          have x4 := lt_of_heap x1
          have HG8 : Hid (But (fun k => k = rb ∨ (Value.slice ta qs.length tc).ownBlock = some k) w7 w8) := hide (HBA.out.trans (But.of_grown g2 (fun k e => .inr e)) (fun _ _ e => e))
          have HGS : Hid (But (fun k => k = rb ∨ (Value.slice ta qs.length tc).ownBlock = some k) w7 (w8.setCell ⟨rb, 0, none⟩ (.slice a3 (qs.length + 1) c3))) := hide (HG8.out.setCell ⟨rb, 0, none⟩ (fun _ => .inl rfl) _)
          have HR8 : Hid (Rf w (w8.setCell ⟨rb, 0, none⟩ (.slice a3 (qs.length + 1) c3)) rb (.slice a3 (qs.length + 1) c3) (qs ++ [bare e])) := hide (HSA.out.push (by rw [List.length_append]; exact o2) g2)
          have HL8 : Hid (∀ k, (Value.slice a3 (qs.length + 1) c3).ownBlock = some k → (Value.slice ta qs.length tc).ownBlock = some k ∨ wr.heap.size ≤ k) := hide (fun k hk => by
            rcases l2 with l2 | l2
            · exact .inl (l2 ▸ hk)
            · rw [l2] at hk
              cases hk
              have := HBW7.out.size
              have := HBA.out.size
              exact .inr (by omega))
          clear o2 g2 l2 x1
          refine hKK.out _ _ (HEv.out _ HG8.out) (fun hHeld15 => ?_)
          clear hKK KK
          refine wpAnyH_take (i := 16) (oi := _) (v := ?v16_16) rfl (by kernel_rfl) (by kernel_rfl) (by kernel_rfl) (fun _ _ _ h => h) (Or.inl ⟨by rfl, ?y16_16⟩) (by assumption) ?r16_16
          case y16_16 => (intro w' hSw; (try dsimp only at hSw); go_simp; try with_reducible rfl)
          refine wpAnyH_take (i := 17) (oi := _) (v := ?v17_17) rfl (by kernel_rfl) (by kernel_rfl) (by kernel_rfl) (fun _ _ _ h => h) (Or.inl ⟨by rfl, ?y17_17⟩) (by assumption) ?r17_17
          case y17_17 => (intro w' hSw; (try dsimp only at hSw); go_simp; try with_reducible rfl)
          refine wpAnyH_ready (rs := [18]) (by kernel_rfl) (by simp) ?_
          refine AllReadyH.cons (o := _) rfl (fun KK hKK => ?_) AllReadyH.nil
          go_simp
          refine hKK.out _ _ (HEv.out _ HGS.out) (fun hHeld18 => ?_)
          clear hKK KK
          refine wpAnyH_done (by kernel_rfl) ?_ _
          refine NoPanic.normal ?_
          clear x2 x3 x4 hHeld
          go_wp2
          go_ret2
          exact ⟨by rw [HA1.out, HA2.out]; rfl, _, _, HR8.out, (But.of_below HBW7.out).trans HGS.out (fun _ _ e => e), HL8.out, .inr ⟨HCk.out, HYw.out, HLs.out, rfl⟩⟩
      · have hYb : (Y != 0) = true := bne_t hY0
        have HLf := hide (Left.same HR7.out (HB0.out.trans (HX7.out.mono HB0.out.size)) (e := e) (M := M) (by rw [HCk.out, HZ3.out, if_pos hY0]))
        clear hY0
        go_wp2
        go_ret2
        exact ⟨by rw [HA1.out, HA2.out]; rfl, HLf.out⟩
  · have hcb : (ck != 0) = true := bne_t hc0
    obtain ⟨z1, z2, z3⟩ := add_bad (M := M) hc0 (me e)
    have HA1 : Hid (AY = 0) := hide (HAY.out.trans z1)
    have HA2 : Hid (AE = ck) := hide (HAE.out.trans z2)
    have HLf := hide (Left.same HR2.out HB0.out (e := e) (M := M) (by rw [HCk.out]; exact z3))
    clear z1 z2 z3 hc0
    go_wp2
    go_ret2
    exact ⟨by rw [HA1.out, HA2.out]; rfl, HLf.out⟩
end Go.Proofs.YtafkammiehcdjaaGreatDoor
/-
  What is held, by counts; lists of one's own that a loop makes.
-/
namespace Go.Proofs.YtafkammiehcdjaaGreatDoor
open Go.RowKit Go.Maps
set_option linter.unusedVariables false
section
variable {T : List Me} {M : CS} {x g o : Int}
theorem key_look : ∀ {L : List Ent} {v : Int}, look x L = some v → x ∈ L.map (·.1) := by
  intro L
  induction L with
  | nil => intro v h; cases h
  | cons p L ih =>
    intro v h
    rw [look] at h
    by_cases hp : p.1 = x
    · exact List.mem_cons.2 (.inl hp.symm)
    · rw [if_neg hp] at h; exact List.mem_cons.2 (.inr (ih h))
theorem hv_held (h : 0 < hv M g o) : o ∈ heldK M g := by
  unfold hv at h
  unfold heldK
  cases hg : M.gs g with
  | none => simp [hg] at h
  | some r =>
    cases hq : look o r.held with
    | none => simp [hg, hq] at h
    | some v => exact key_look hq
theorem held_iff (hL : LkL T M) : o ∈ heldK M g ↔ (wrs T g o = true ∨ rds T g o = true) := by
  have he := hL.eq g o
  have hn := hL.nn g o
  rw [wrs_iff, rds_iff]
  constructor
  · intro h
    have h1 := held_hv hL h
    by_cases hw : 0 < wT T g o
    · exact .inl hw
    · exact .inr (by omega)
  · intro h
    refine hv_held ?_
    cases hq : M.toWrite o with
    | true => have := (hL.wr o hq).2 g; omega
    | false => have := hL.fr o hq g; omega
theorem held_w (hL : LkL T M) (h : o ∈ heldK M g) : wrs T g o = M.toWrite o := by
  have h1 := held_hv hL h
  have he := hL.eq g o
  cases hq : M.toWrite o with
  | true =>
    have := (hL.wr o hq).2 g
    exact wrs_iff.2 (by omega)
  | false =>
    have h2 := hL.fr o hq g
    cases hw : wrs T g o with
    | false => rfl
    | true => have := wrs_iff.1 hw; omega
theorem held_ev (hL : LkL T M) (h : o ∈ heldK M g) : ∃ y ∈ T, y.g = g ∧ (3 ≤ y.k ∧ y.k ≤ 6) ∧ y.o = o := by
  rcases (held_iff hL).1 h with h1 | h1
  · have h2 := wrs_iff.1 h1
    unfold wT at h2
    obtain ⟨y, hy, h3, h4, h5⟩ := cnG_mem (T := T) (g := g) (k := 3) (o := o) (by omega)
    exact ⟨y, hy, h3, by omega, h5⟩
  · have h2 := rds_iff.1 h1
    unfold rT at h2
    obtain ⟨y, hy, h3, h4, h5⟩ := cnG_mem (T := T) (g := g) (k := 5) (o := o) (by omega)
    exact ⟨y, hy, h3, by omega, h5⟩
theorem held_ris (hL : LkL T M) (g : Int) : (heldK M g).Pairwise (· < ·) := by
  unfold heldK
  cases hg : M.gs g with
  | none => exact List.Pairwise.nil
  | some r =>
    have h := hL.ris g r hg
    exact List.pairwise_map.2 h
end
/-- In a rising list what lies above its p-th entry is its p-th one or above. -/
theorem ris_at {K : List Int} (hK : K.Pairwise (· < ·)) {p : Nat} {o : Int} (ho : o ∈ K) (hp : p = 0 ∨ ∃ y, K[p - 1]? = some y ∧ y < o) : ∃ q, p ≤ q ∧ K[q]? = some o := by
  obtain ⟨q, hq, he⟩ := List.getElem_of_mem ho
  have hqo : K[q]? = some o := by rw [List.getElem?_eq_getElem hq, he]
  refine ⟨q, ?_, hqo⟩
  rcases hp with hp | ⟨y, hy, hlt⟩
  · omega
  · by_cases hpq : p ≤ q
    · exact hpq
    · exfalso
      obtain ⟨h1, h2⟩ := List.getElem?_eq_some_iff.1 hy
      by_cases hqe : q = p - 1
      · subst hqe; rw [h2] at he; omega
      · have := List.pairwise_iff_getElem.1 hK q (p - 1) hq h1 (by omega)
        rw [he, h2] at this
        omega
theorem ris_le {K : List Int} (hK : K.Pairwise (· < ·)) {p q : Nat} {x y : Int} (hx : K[p]? = some x) (hy : K[q]? = some y) (h : p ≤ q) : x ≤ y := by
  obtain ⟨h1, h2⟩ := List.getElem?_eq_some_iff.1 hx
  obtain ⟨h3, h4⟩ := List.getElem?_eq_some_iff.1 hy
  by_cases he : p = q
  · subst he; rw [h2] at h4; omega
  · have := List.pairwise_iff_getElem.1 hK p q h1 h3 (by omega)
    rw [h2, h4] at this
    omega
theorem ris_lt {K : List Int} (hK : K.Pairwise (· < ·)) {p : Nat} {x y : Int} (hx : K[p]? = some x) (hy : K[p - 1]? = some y) (h : 0 < p) : y < x := by
  obtain ⟨h1, h2⟩ := List.getElem?_eq_some_iff.1 hx
  obtain ⟨h3, h4⟩ := List.getElem?_eq_some_iff.1 hy
  have := List.pairwise_iff_getElem.1 hK (p - 1) p h3 h1 (by omega)
  rw [h2, h4] at this
  exact this
/-- Of the first events the one with the least object above the last. -/
def Cnd (K : List Int) (p : Nat) (G : E6.Ev → Prop) (x : E6.Ev) : Prop := G x ∧ (p = 0 ∨ ∃ y, K[p - 1]? = some y ∧ y < x.o)
structure Bst (es : List E6.Ev) (K : List Int) (p : Nat) (G : E6.Ev → Prop) (j : Nat) (best : Int) : Prop where
  no : best < 0 → best = -1 ∧ ∀ (i : Nat) (x : E6.Ev), i < j → es[i]? = some x → ¬ Cnd K p G x
  yes : ¬ best < 0 → ∃ (i : Nat) (x : E6.Ev), best = (i : Int) ∧ i < j ∧ es[i]? = some x ∧ Cnd K p G x ∧ ∀ (i' : Nat) (x' : E6.Ev), i' < j → es[i']? = some x' → Cnd K p G x' → x.o ≤ x'.o
section
variable {es : List E6.Ev} {K : List Int} {p j : Nat} {G : E6.Ev → Prop} {best : Int} {x : E6.Ev}
theorem Bst.zero : Bst es K p G 0 (-1) := ⟨fun _ => ⟨rfl, fun i x h => by omega⟩, fun h => absurd (by decide : (-1 : Int) < 0) h⟩
theorem Bst.skip (h : Bst es K p G j best) (hx : es[j]? = some x) (hc : ¬ Cnd K p G x) : Bst es K p G (j + 1) best := by
  refine ⟨fun hb => ⟨(h.no hb).1, fun i y hi hy => ?_⟩, fun hb => ?_⟩
  · by_cases he : i = j
    · subst he; rw [hx] at hy; cases hy; exact hc
    · exact (h.no hb).2 i y (by omega) hy
  · obtain ⟨i, y, h1, h2, h3, h4, h5⟩ := h.yes hb
    refine ⟨i, y, h1, by omega, h3, h4, fun i' x' hi' hx' hc' => ?_⟩
    by_cases he : i' = j
    · subst he; rw [hx] at hx'; cases hx'; exact absurd hc' hc
    · exact h5 i' x' (by omega) hx' hc'
theorem Bst.keep (h : Bst es K p G j best) (hx : es[j]? = some x) (hb : ¬ best < 0) (hle : ∀ (i : Nat) (y : E6.Ev), best = (i : Int) → es[i]? = some y → y.o ≤ x.o) : Bst es K p G (j + 1) best := by
  refine ⟨fun hq => absurd hq hb, fun _ => ?_⟩
  obtain ⟨i, y, h1, h2, h3, h4, h5⟩ := h.yes hb
  refine ⟨i, y, h1, by omega, h3, h4, fun i' x' hi' hx' hc' => ?_⟩
  by_cases he : i' = j
  · subst he; rw [hx] at hx'; cases hx'; exact hle i y h1 h3
  · exact h5 i' x' (by omega) hx' hc'
theorem Bst.take (h : Bst es K p G j best) (hx : es[j]? = some x) (hc : Cnd K p G x) (hle : ¬ best < 0 → ∀ (i : Nat) (y : E6.Ev), best = (i : Int) → es[i]? = some y → x.o ≤ y.o) : Bst es K p G (j + 1) (j : Int) := by
  refine ⟨fun hq => by omega, fun _ => ⟨j, x, rfl, by omega, hx, hc, fun i' x' hi' hx' hc' => ?_⟩⟩
  by_cases he : i' = j
  · subst he; rw [hx] at hx'; cases hx'; exact Int.le_refl _
  · by_cases hb : best < 0
    · exact absurd hc' ((h.no hb).2 i' x' (by omega) hx')
    · obtain ⟨i, y, h1, h2, h3, h4, h5⟩ := h.yes hb
      exact Int.le_trans (hle hb i y h1 h3) (h5 i' x' (by omega) hx' hc')
/-- At the end: the p-th entry, or there is none. -/
theorem Bst.done {n : Nat} (h : Bst es K p G n best) (hl : es.length = n) (hK : K.Pairwise (· < ·)) (hp : p ≤ K.length) (hG : ∀ x ∈ es, G x → x.o ∈ K) (hE : ∀ o ∈ K, ∃ x ∈ es, G x ∧ x.o = o) : (best < 0 → p = K.length) ∧ (¬ best < 0 → ∃ (i : Nat) (x : E6.Ev), best = (i : Int) ∧ i < n ∧ es[i]? = some x ∧ K[p]? = some x.o) := by
  have hcan : ∀ o, K[p]? = some o → ∃ (i : Nat) (x : E6.Ev), i < n ∧ es[i]? = some x ∧ Cnd K p G x ∧ x.o = o := fun o ho => by
    obtain ⟨x, hx, hgx, hxo⟩ := hE o (List.mem_of_getElem? ho)
    obtain ⟨i, hi, he⟩ := List.getElem_of_mem hx
    refine ⟨i, x, by omega, by rw [List.getElem?_eq_getElem hi, he], ⟨hgx, ?_⟩, hxo⟩
    by_cases h0 : p = 0
    · exact .inl h0
    · have hlt := (List.getElem?_eq_some_iff.1 ho).1
      have hy : K[p - 1]? = some K[p - 1] := List.getElem?_eq_getElem (by omega)
      exact .inr ⟨_, hy, by rw [hxo]; exact ris_lt hK ho hy (by omega)⟩
  refine ⟨fun hb => ?_, fun hb => ?_⟩
  · by_cases he : p = K.length
    · exact he
    · obtain ⟨i, x, h1, h2, h3, _⟩ := hcan K[p] (List.getElem?_eq_getElem (by omega))
      exact absurd h3 ((h.no hb).2 i x h1 h2)
  · obtain ⟨i, x, h1, h2, h3, h4, h5⟩ := h.yes hb
    obtain ⟨q, hq, hqo⟩ := ris_at hK (hG x (List.mem_of_getElem? h3) h4.1) (p := p) h4.2
    have hql := (List.getElem?_eq_some_iff.1 hqo).1
    have hpo : K[p]? = some K[p] := List.getElem?_eq_getElem (by omega)
    obtain ⟨i2, x2, g1, g2, g3, g4⟩ := hcan _ hpo
    have l1 := h5 i2 x2 g1 g2 g3
    have l2 := ris_le hK hpo hqo hq
    refine ⟨i, x, h1, h2, h3, ?_⟩
    rw [hpo]
    congr 1
    omega
end
end Go.Proofs.YtafkammiehcdjaaGreatDoor
