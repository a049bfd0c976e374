import Derived.Test.YtafkammiehcdjaaGreatDoorZa41
/-
  One step with a pair: a new one; an event.
-/
namespace Go.Proofs.YtafkammiehcdjaaGreatDoor
open Go.RowKit Go.Maps Go.Shelf
set_option linter.unusedVariables false
section
variable {w wr : World} {S : Nat → Prop} {o r : Value} {pb off : Nat} {cs : Array Value} {ty : TypeId}
/-- A new pair. -/
theorem new_pr {W w1 Z : World} {cb : Nat} (hw : Below w.heap.size w W) (hpb : pb < W.heap.size) (hge : w.heap.size ≤ pb) (hr : RSt W w1 cb CS.new) (hZ : Z = ((w1.setCell ⟨pb, off, none⟩ (gPtr cb)).alloc (.cells #[.slice none 0 0] 135)).setCell ⟨pb, off + 1, none⟩ (gPtr w1.heap.size)) {T : Nat → Prop} (hT : ∀ k, W.heap.size ≤ k → k < Z.heap.size → T k) (hTb : ∀ k, T k → w.heap.size ≤ k ∧ k < Z.heap.size) : PrS w Z T cb w1.heap.size CS.new [] := by
  obtain ⟨B, F, h1, h2⟩ := hr.ck
  have hs := hr.bel.size
  have hw1 : Below w.heap.size w w1 := hw.trans (hr.bel.mono hw.size)
  have hB : But (fun k => k = pb) w1 Z := by
    rw [hZ]
    exact ((((But.refl (fun k => k = pb) w1).setCell ⟨pb, off, none⟩ (fun _ => rfl) _).alloc _).setCell ⟨pb, off + 1, none⟩ (fun _ => rfl) _)
  have hsz : Z.heap.size = w1.heap.size + 1 := by rw [hZ]; simp [World.setCell]
  have hwc : Z.heap[w1.heap.size]? = some (.cells #[.slice none 0 0] 135 (0, 0)) := by
    rw [hZ, Below.heap_setCell _ _ _ _ (show w1.heap.size ≠ pb by omega)]
    exact heap_newS (by simp [World.setCell])
  refine ⟨⟨B, F, .slice none 0 0, h1.but (X := fun _ => False) hB (fun k _ ht l hl => ?_) (FEx.refl _ _) (fun k l hl => Nat.lt_of_lt_of_le (h1.lt k l hl) hB.size), fun k hk => ?_, ⟨hwc, Nat.le_trans hw.size hs, World.ownsRow_nil _ _ _ _, fun f hf => (by cases hf), hw1.trans (hB.below hw1.size (fun k e => ?_))⟩, hT _ hs (by omega), ?_, fun k hk => by simp [Value.ownBlock] at hk⟩, new_inv, .new, rfl, by decide, fun f hf => (by cases hf), hTb⟩
  · have e9 : k = pb := ht
    rw [e9, h2 pb hpb] at hl; cases hl
  · have hle : W.heap.size ≤ k := by
      by_cases hl : k < W.heap.size
      · exact absurd (h2 k hl) hk
      · omega
    cases hq : F k with
    | none => exact absurd hq hk
    | some l => exact hT k hle (by have := h1.lt k l hq; omega)
  · have e9 : k = pb := e
    omega
  · cases hq : F w1.heap.size with
    | none => rfl
    | some l => have := h1.lt _ l hq; omega
set_option maxRecDepth 8000 in
set_option maxHeartbeats 8000000 in
theorem step_new (h : Pa w wr S o r pb off cs ty) (wh : Int) (e : E6.Ev) (g : Int) :
    Calls Tryz.prog 22 #[.pointer (some ⟨pb, off, none⟩), .agg #[.int .i64 5, .int .i64 wh, .int .i64 e.g, .int .i64 e.k, .int .u64 e.o, .int .u64 e.a, .slice e.sa e.ls.length e.sc, .int .i64 g]] wr fun z w' => z = .returned (.bool true) ∧ Stp w wr w' S pb off cs ty := by
  obtain ⟨W, hW⟩ : ∃ W, W = wr.alloc (.cells (opC 5 wh e g) 55) := ⟨_, rfl⟩
  have hb : Below wr.heap.size wr W := by rw [hW]; exact below_alloc1 wr _
  have HN := hide (New_any W)
  have HP := hide (h.on hb)
  have H0 := hide h
  have HB := hide hb
  have HW := hide hW
  unfold opC at HW
  clear h hb hW
  go_enter Tryz.func22, Tryz.ntmps22
  go_wp2_with fail
  rw [← HW.out]
  clear HW
  refine HN.out.mono ?_
  rintro z w1 ⟨rfl, hr⟩
  obtain ⟨cb, hcb⟩ : ∃ cb, W.heap.size + 5 = cb := ⟨_, rfl⟩
  rw [hcb] at hr ⊢
  clear hcb HN
  have hP1 := HP.out.on hr.bel
  have q0 := hP1.cell0
  have ql := hP1.lt
  have qf : w1.frozen? ⟨pb, off, none⟩ = false := frz hP1.hp off
  have hW1 : (w1.setCell ⟨pb, off, none⟩ (gPtr cb)).heap[pb]? = some (.cells (cs.setIfInBounds off (gPtr cb)) ty (0, 0)) := set1_heap _ hP1.hp
  obtain ⟨W2, hW2⟩ : ∃ W2, W2 = w1.setCell ⟨pb, off, none⟩ (gPtr cb) := ⟨_, rfl⟩
  have hc1 : (cs.setIfInBounds off (gPtr cb))[off + 1]? = some r := by rw [Array.getElem?_setIfInBounds]; rw [if_neg (by omega)]; exact hP1.c1
  have hc0 : (cs.setIfInBounds off (gPtr cb))[off]? = some (gPtr cb) := by rw [Array.getElem?_setIfInBounds_self_of_lt]; exact (Array.getElem?_eq_some_iff.1 hP1.c0).1
  have hW3 : (W2.alloc (.cells #[.slice none 0 0] 135)).heap[pb]? = some (.cells (cs.setIfInBounds off (gPtr cb)) ty (0, 0)) := by
    rw [Below.heap_alloc _ _ _ (by rw [hW2]; simp [World.setCell]; exact ql), hW2]
    exact hW1
  obtain ⟨W3, hE3⟩ : ∃ W3, W3 = W2.alloc (.cells #[.slice none 0 0] 135) := ⟨_, rfl⟩
  rw [← hE3] at hW3
  have z0 : W3.cell? ⟨pb, off + 1, none⟩ = some r := cell_at hW3 hc1
  have zl := lt_of_heap hW3
  have zf : W3.frozen? ⟨pb, off + 1, none⟩ = false := frz hW3 _
  have hsz : W2.heap.size = w1.heap.size := by rw [hW2]; simp [World.setCell]
  have hZ4 : (W3.setCell ⟨pb, off + 1, none⟩ (gPtr w1.heap.size)).heap[pb]? = some (.cells ((cs.setIfInBounds off (gPtr cb)).setIfInBounds (off + 1) (gPtr w1.heap.size)) ty (0, 0)) := set1_heap _ hW3
  have y0 : (W3.setCell ⟨pb, off + 1, none⟩ (gPtr w1.heap.size)).cell? ⟨pb, off, none⟩ = some (gPtr cb) := cell_at hZ4 (by rw [Array.getElem?_setIfInBounds]; rw [if_neg (by omega)]; exact hc0)
  have hs1 := hr.bel.size
  have hs2 := HB.out.size
  have hB3 : But (fun k => S k ∨ k = pb) wr W3 := by
    rw [hE3, hW2]
    exact ((((But.of_below HB.out).on hr.bel).setCell ⟨pb, off, none⟩ (fun _ => .inr rfl) _).alloc _)
  have hB4 : But (fun k => S k ∨ k = pb) wr (W3.setCell ⟨pb, off + 1, none⟩ (gPtr w1.heap.size)) := hB3.setCell ⟨pb, off + 1, none⟩ (fun _ => .inr rfl) _
  have HS : Hid (Stp w wr (W3.setCell ⟨pb, off + 1, none⟩ (gPtr w1.heap.size)) S pb off cs ty) := hide (H0.out.put hW3 hB3 (.inr ⟨cb, w1.heap.size, CS.new, [], rfl, rfl, new_pr (pb := pb) (off := off) (HP.out.bel) HP.out.lt HP.out.ge hr (by rw [hE3, hW2]) (fun k h1 h2 => .inr ⟨by omega, h2⟩) (nw_bd H0.out.pv.bd H0.out.bel.size hB4.size)⟩))
  have HN2 := hide (rNew_any W2)
  rw [hsz, ← hE3] at HN2
  have HW2 := hide hW2
  generalize w1.heap.size = rb at HN2 HS y0
  unfold gPtr at HN2 HW2 HS y0 ⊢
  clear hP1 hW1 hc1 hc0 hW3 hZ4 hsz hE3 hB3 hB4 hs1 hs2 hr hW2 HP H0 HB
  go_wp2_with fail
  rw [← HW2.out]
  clear HW2
  refine HN2.out.mono ?_
  rintro z w4 ⟨rfl, hw4⟩
  obtain rfl : W3 = w4 := hw4.symm
  clear HN2 q0 ql qf
  go_wp2
  go_ret
  exact ⟨rfl, HS.out⟩
end
end Go.Proofs.YtafkammiehcdjaaGreatDoor
/-
  One step with a pair: an event.
-/
namespace Go.Proofs.YtafkammiehcdjaaGreatDoor
open Go.RowKit Go.Maps Go.Shelf
set_option linter.unusedVariables false
theorem tw_one {W2 w3 : World} {e : E6.Ev} {fs : List E6.Ev} {v : Value} (h : E6.Tw W2 w3 [e] 1 fs v) : ∃ f gb c, fs = [f] ∧ v = .slice (some ⟨gb, 0, none⟩) 1 c ∧ w3.ownsRow W2.heap.size 36 5 (.slice (some ⟨gb, 0, none⟩) 1 c) 1 (E6.ecells [f]) ∧ W2.heap.size ≤ gb ∧ gb < w3.heap.size ∧ e.twin f ∧ f.ls.length ≤ f.sc ∧ (f.sa = none → f.ls.length = 0 ∧ f.sc = 0) ∧ w3.ownsRow W2.heap.size 9 1 (.slice f.sa f.ls.length f.sc) f.ls.length (f.ls.map Value.string) := by
  obtain ⟨f, hf⟩ : ∃ f, fs = [f] := by
    have := h.len
    cases fs with
    | nil => cases this
    | cons f fs => cases fs with
      | nil => exact ⟨f, rfl⟩
      | cons g gs => simp at this
  subst hf
  obtain ⟨gb, c, hv, h1, h2, _⟩ := own_some h.own (by decide)
  subst hv
  obtain ⟨e', h3, h4, h5, h6, h7⟩ := h.each 0 f rfl
  simp at h3
  subst h3
  exact ⟨f, gb, c, rfl, rfl, h.own, h1, h2, h4, h5, h6, h7⟩
/-- While the twin's stack is written over. -/
structure Spl (w wr wq : World) (S S' : Nat → Prop) (o r : Value) (base gb c : Nat) (f : E6.Ev) : Prop where
  pv : PrV w wq S' o r
  bt : But S wr wq
  gv : wq.ownsRow base 36 5 (.slice (some ⟨gb, 0, none⟩) 1 c) 1 (E6.ecells [f])
  os : ∃ xs, wq.ownsRow base 9 1 (.slice f.sa f.ls.length f.sc) f.ls.length xs
section
variable {w wr wq : World} {S S' : Nat → Prop} {o r : Value} {base gb c : Nat} {f : E6.Ev}
theorem Spl.on {w' : World} (h : Spl w wr wq S S' o r base gb c f) (hb : Below wq.heap.size wq w') : Spl w wr w' S S' o r base gb c f := by
  obtain ⟨xs, hx⟩ := h.os
  exact ⟨h.pv.on hb, h.bt.on hb, own_below h.gv hb, xs, own_below hx hb⟩
theorem Spl.put {sb i : Nat} (h : Spl w wr wq S S' o r base gb c f) (hsa : f.sa = some ⟨sb, 0, none⟩) (hw : w.heap.size ≤ wr.heap.size) (hb : wr.heap.size ≤ base) (hS : ¬ S' sb) (u : Value) : Spl w wr (wq.setCell ⟨sb, i, none⟩ u) S S' o r base gb c f := by
  obtain ⟨xs, hx⟩ := h.os
  rw [hsa] at hx
  have hlt := (hx.lt sb rfl).1
  have hne : (Value.slice (some ⟨gb, 0, none⟩) 1 c).ownBlock ≠ some sb := fun e => E6.own_ne hx h.gv (by decide) sb rfl e
  refine ⟨h.pv.but (T := fun k => k = sb) ((But.refl (fun k => k = sb) wq).setCell ⟨sb, i, none⟩ (fun _ => rfl) u) (fun k e => by rw [e]; exact hS) (fun k e => by rw [e]; omega), h.bt.setCell ⟨sb, i, none⟩ (fun hl => absurd hl (by show ¬ sb < wr.heap.size; omega)) u, ownsRow_setCell_other h.gv (a := ⟨sb, i, none⟩) hne u, ?_⟩
  rw [hsa]
  exact ⟨_, (World.ownsRow.stored hx i u).1⟩
end
section
variable {w w0 : World} {S : Nat → Prop} {o r : Value} {pb off : Nat} {cs : Array Value} {ty : TypeId}
set_option maxRecDepth 8000 in
set_option maxHeartbeats 16000000 in
theorem step_add (h : Pa w w0 S o r pb off cs ty) (hK : E6.Kr w) (wh : Int) (e : E6.Ev) (g : Int) (hok : e.ok) (hs : E6.SRow w e.sa e.ls.length e.ls) :
    Calls Tryz.prog 22 #[.pointer (some ⟨pb, off, none⟩), .agg #[.int .i64 1, .int .i64 wh, .int .i64 e.g, .int .i64 e.k, .int .u64 e.o, .int .u64 e.a, .slice e.sa e.ls.length e.sc, .int .i64 g]] w0 fun z w' => z = .returned (.bool true) ∧ Stp w w0 w' S pb off cs ty := by
  obtain ⟨W, hW⟩ : ∃ W, W = w0.alloc (.cells (opC 1 wh e g) 55) := ⟨_, rfl⟩
  have hb : Below w0.heap.size w0 W := by rw [hW]; exact below_alloc1 w0 _
  have hE : W.heap[w0.heap.size]? = some (.cells (opC 1 wh e g) 55 (0, 0)) := by rw [hW]; exact heap_new _ _
  obtain ⟨W2, hW2⟩ : ∃ W2, W2 = W.alloc (.cells #[.int .i64 e.g, .int .i64 e.k, .int .u64 e.o, .int .u64 e.a, .slice e.sa e.ls.length e.sc] 36) := ⟨_, rfl⟩
  have hb2 : Below W.heap.size W W2 := by rw [hW2]; exact below_alloc1 W _
  have hbw2 : Below w.heap.size w W2 := h.bel.trans ((hb.trans (hb2.mono hb.size)).mono h.bel.size)
  have hEB : E6.EvB W2 W.heap.size e.g e.k e.o e.a e.sa e.ls.length e.sc := by rw [hW2]; exact E6.EvB.new
  have hrow : E6.ERow W2 (some ⟨W.heap.size, 0, none⟩) 1 [e] := ⟨rfl, .inr ⟨W.heap.size, 0, rfl, fun i x hx => by
    cases i with
    | zero =>
      simp at hx
      subst hx
      exact ⟨hEB.c0, hEB.c1, hEB.c2, hEB.c3, hEB.c4, E6.SRow.bel hs hbw2⟩
    | succ i => simp at hx⟩⟩
  have HTw := hide (E6.twin_any (some ⟨W.heap.size, 0, none⟩) 1 1 [e] W2 hrow (fun x hx => by cases List.mem_singleton.1 hx; exact hok) (by decide) (fun q => by cases q))
  have HOp := hide (op_cells hE)
  have HB := hide (hb.trans (hb2.mono hb.size))
  have HBW := hide hb2
  have HP := hide h
  have HK := hide hK
  have HO := hide hok
  have HSR := hide hs
  have hel : w0.heap.size < W.heap.size := lt_of_heap hE
  have HEL := hide hel
  have HWW : Hid (W2 = (w0.alloc (.cells (opC 1 wh e g) 55)).alloc (.cells #[.int .i64 e.g, .int .i64 e.k, .int .u64 e.o, .int .u64 e.a, .slice e.sa e.ls.length e.sc] 36)) := hide (by rw [hW2, hW])
  have HWs : Hid (W.heap.size = w0.heap.size + 1) := hide (by rw [hW]; simp)
  unfold opC at HWW
  rw [HWs.out] at HTw
  clear h hK hok hs hb hE hb2 hbw2 hEB hrow hW2 hW hel
  go_enter Tryz.func22, Tryz.ntmps22
  go_wp2_with fail
  rw [← HWW.out]
  clear HWW
  refine HTw.out.mono ?_
  rintro z w3 ⟨fs, v, rfl, htw⟩
  obtain ⟨f, gb, c, rfl, rfl, hrow, hgb, hgl, htwin, hcap, hnil, hstk⟩ := tw_one htw
  have hokf : f.ok := htw.ok (fun x hx => by cases List.mem_singleton.1 hx; exact HO.out) f (List.mem_singleton.2 rfl)
  have hb3 := htw.bel
  clear htw HTw
  have hB3 : Below w0.heap.size w0 w3 := HB.out.trans (hb3.mono HB.out.size)
  have hPX := HP.out.on ((hB3).drew)
  obtain ⟨Y, E, hC1⟩ := hPX.pv.add hPX.bel HK.out e f htwin HO.out hokf HSR.out (E6.SRow.bel (E6.SRow.of_own hstk) ((Below.refl _ _).drew))
  have hSlt : ∀ k, S k → k < w0.heap.size := fun k hk => (HP.out.pv.bd k hk).2
  have hs2 := HB.out.size
  have hngb : ¬ S gb := fun q => by have := hSlt gb q; omega
  have hneb : ¬ S w0.heap.size := fun q => by have := hSlt _ q; omega
  obtain ⟨d0, d1, d2, d3, d4, dl⟩ := row1_cell hrow
  obtain ⟨p0, p1, p2, p3, p4, p5, p6, p7, pl⟩ := HOp.out w3 (HBW.out.trans (hb3.mono HBW.out.size))
  have hP3 := HP.out.on hB3
  have HSx : Hid (∀ X, But S w3 X → X.cell? ⟨pb, off, none⟩ = some o ∧ X.cell? ⟨gb, 0, none⟩ = some (.int .i64 f.g) ∧ X.cell? ⟨gb, 1, none⟩ = some (.int .i64 f.k) ∧ X.cell? ⟨gb, 2, none⟩ = some (.int .u64 f.o) ∧ X.cell? ⟨gb, 3, none⟩ = some (.int .u64 f.a) ∧ X.cell? ⟨gb, 4, none⟩ = some (.slice f.sa f.ls.length f.sc)) := hide (fun X hX => ⟨cell_but hP3.cell0 hX hP3.ns, cell_but d0 hX hngb, cell_but d1 hX hngb, cell_but d2 hX hngb, cell_but d3 hX hngb, cell_but d4 hX hngb⟩)
  have HSy : Hid (∀ X, But S w3 X → X.cell? ⟨pb, off + 1, none⟩ = some r ∧ X.cell? ⟨w0.heap.size, 2, none⟩ = some (.int .i64 e.g) ∧ X.cell? ⟨w0.heap.size, 3, none⟩ = some (.int .i64 e.k) ∧ X.cell? ⟨w0.heap.size, 4, none⟩ = some (.int .u64 e.o) ∧ X.cell? ⟨w0.heap.size, 5, none⟩ = some (.int .u64 e.a) ∧ X.cell? ⟨w0.heap.size, 6, none⟩ = some (.slice e.sa e.ls.length e.sc)) := hide (fun X hX => ⟨cell_but hP3.cell1 hX hP3.ns, cell_but p2 hX hneb, cell_but p3 hX hneb, cell_but p4 hX hneb, cell_but p5 hX hneb, cell_but p6 hX hneb⟩)
  have HC1 := hide hC1
  have HX0 := hide (But.refl S w3)
  have HX1 := hide ((But.refl S w3).drew)
  have HRow := hide hrow
  have HStk := hide hstk
  have HTwin := hide htwin
  have HB3 := hide hB3
  have HSlt := hide hSlt
  have HGb := hide (And.intro hgb hgl)
  have HOf := hide hokf
  clear hrow hstk htwin hB3 hSlt hgb hgl hokf hcap hnil hC1 hPX hngb hneb d0 d1 d2 d3 d4 dl p0 p1 p2 p3 p4 p5 p6 p7 pl hP3 hb3 hs2
  go_wp2_with fail
  go_region_held3 (fun X => X.cell? ⟨pb, off, none⟩ = some o ∧ X.cell? ⟨gb, 0, none⟩ = some (.int .i64 f.g) ∧ X.cell? ⟨gb, 1, none⟩ = some (.int .i64 f.k) ∧ X.cell? ⟨gb, 2, none⟩ = some (.int .u64 f.o) ∧ X.cell? ⟨gb, 3, none⟩ = some (.int .u64 f.a) ∧ X.cell? ⟨gb, 4, none⟩ = some (.slice f.sa f.ls.length f.sc))
    (first | with_reducible exact HSx.out _ HX0.out | with_reducible exact HSx.out _ HX1.out | with_reducible exact HSx.out _ HX2.out)
    (first | (go_at_call 14; go_must (refine HC1.out.mono ?_; rintro e9 X1 ⟨rfl, hB1, hC2⟩; have HX2 : Hid (But S w3 X1) := hide (HX1.out.trans hB1 (fun _ _ e => e)); have HC2 := hide hC2; clear hB1 hC2)))
  have HC3 := hide (HC2.out X1.drew ((Below.refl _ _).drew))
  have HX3 := hide (HX2.out.drew)
  clear HC1 HC2 HX0 HX1
  go_wp2_with fail
  go_region_held3 (fun X => X.cell? ⟨pb, off + 1, none⟩ = some r ∧ X.cell? ⟨w0.heap.size, 2, none⟩ = some (.int .i64 e.g) ∧ X.cell? ⟨w0.heap.size, 3, none⟩ = some (.int .i64 e.k) ∧ X.cell? ⟨w0.heap.size, 4, none⟩ = some (.int .u64 e.o) ∧ X.cell? ⟨w0.heap.size, 5, none⟩ = some (.int .u64 e.a) ∧ X.cell? ⟨w0.heap.size, 6, none⟩ = some (.slice e.sa e.ls.length e.sc))
    (first | with_reducible exact HSy.out _ HX2.out | with_reducible exact HSy.out _ HX3.out | with_reducible exact HSy.out _ HX4.out)
    (first | (go_at_call 44; go_must (refine HC3.out.mono ?_; rintro e9 w5 ⟨rfl, hB1, hpv⟩; have HX4 : Hid (But S w3 w5) := hide (HX3.out.trans hB1 (fun _ _ e => e)); have HPV := hide hpv; clear hB1 hpv)))
  clear HC3 HX2 HX3
  have HPV2 : Hid (PrV w w5 (Nw S w3 w5) o r) := HPV
  clear HPV
  have hs2 := HB.out.size
  have hs3 := HX4.out.size
  have HBw5 : Hid (Below w.heap.size w w5) := hide (HP.out.bel.trans ((HB3.out.mono HP.out.bel.size).trans (HX4.out.below (Nat.le_trans HP.out.bel.size HB3.out.size) (fun k e => (HP.out.pv.bd k e).1))))
  have hstk5 : w5.ownsRow W2.heap.size 9 1 (.slice f.sa f.ls.length f.sc) f.ls.length (f.ls.map Value.string) := own_but HStk.out HX4.out (fun k hk q => by have := HSlt.out k q; have := (HStk.out.lt k hk).1; omega)
  have hrow5 : w5.ownsRow W2.heap.size 36 5 (.slice (some ⟨gb, 0, none⟩) 1 c) 1 (E6.ecells [f]) := own_but HRow.out HX4.out (fun k hk q => by have := HSlt.out k q; have := (HRow.out.lt k hk).1; omega)
  have HSe := hide (sameEvent_any e f w5.drew HTwin.out (E6.SRow.bel (E6.SRow.bel HSR.out HBw5.out) ((Below.refl _ _).drew)) (E6.SRow.bel (E6.SRow.of_own hstk5) ((Below.refl _ _).drew)) (by have := HO.out.len; omega))
  have hbt : But S w0 w5 := (But.of_below HB3.out).trans HX4.out (fun _ _ q => q)
  have HSp : Hid (Spl w w0 w5 S (Nw S w3 w5) o r W2.heap.size gb c f) := hide ⟨HPV2.out, hbt, hrow5, _, hstk5⟩
  have hYY : (Y != Y) = false := by simp
  have hEE : (E != E) = false := by simp
  have HSz : Hid (∀ X, Below w5.heap.size w5 X → X.cell? ⟨gb, 0, none⟩ = some (.int .i64 f.g) ∧ X.cell? ⟨gb, 1, none⟩ = some (.int .i64 f.k) ∧ X.cell? ⟨gb, 2, none⟩ = some (.int .u64 f.o) ∧ X.cell? ⟨gb, 3, none⟩ = some (.int .u64 f.a) ∧ X.cell? ⟨gb, 4, none⟩ = some (.slice f.sa f.ls.length f.sc) ∧ X.cell? ⟨w0.heap.size, 2, none⟩ = some (.int .i64 e.g) ∧ X.cell? ⟨w0.heap.size, 3, none⟩ = some (.int .i64 e.k) ∧ X.cell? ⟨w0.heap.size, 4, none⟩ = some (.int .u64 e.o) ∧ X.cell? ⟨w0.heap.size, 5, none⟩ = some (.int .u64 e.a) ∧ X.cell? ⟨w0.heap.size, 6, none⟩ = some (.slice e.sa e.ls.length e.sc)) := hide (by
    obtain ⟨_, d0, d1, d2, d3, d4⟩ := HSx.out w5 HX4.out
    obtain ⟨_, p2, p3, p4, p5, p6⟩ := HSy.out w5 HX4.out
    intro X hX
    exact ⟨E6.cell_bel d0 hX, E6.cell_bel d1 hX, E6.cell_bel d2 hX, E6.cell_bel d3 hX, E6.cell_bel d4 hX, E6.cell_bel p2 hX, E6.cell_bel p3 hX, E6.cell_bel p4 hX, E6.cell_bel p5 hX, E6.cell_bel p6 hX⟩)
  have HZ0 := hide (Below.refl w5.heap.size w5)
  have HZ1 := hide ((Below.refl w5.heap.size w5).drew)
  clear hstk5 hrow5 hbt hs2 hs3 HPV2
  go_wp2_with fail
  go_region_held3 (fun X => X.cell? ⟨gb, 0, none⟩ = some (.int .i64 f.g) ∧ X.cell? ⟨gb, 1, none⟩ = some (.int .i64 f.k) ∧ X.cell? ⟨gb, 2, none⟩ = some (.int .u64 f.o) ∧ X.cell? ⟨gb, 3, none⟩ = some (.int .u64 f.a) ∧ X.cell? ⟨gb, 4, none⟩ = some (.slice f.sa f.ls.length f.sc) ∧ X.cell? ⟨w0.heap.size, 2, none⟩ = some (.int .i64 e.g) ∧ X.cell? ⟨w0.heap.size, 3, none⟩ = some (.int .i64 e.k) ∧ X.cell? ⟨w0.heap.size, 4, none⟩ = some (.int .u64 e.o) ∧ X.cell? ⟨w0.heap.size, 5, none⟩ = some (.int .u64 e.a) ∧ X.cell? ⟨w0.heap.size, 6, none⟩ = some (.slice e.sa e.ls.length e.sc))
    (first | with_reducible exact HSz.out _ HZ0.out | with_reducible exact HSz.out _ HZ1.out | with_reducible exact HSz.out _ HZ2.out)
    (first | (go_at_call 43; go_must (refine HSe.out.mono ?_; rintro e9 w6 ⟨rfl, hb6⟩; have HZ2 : Hid (Below w5.heap.size w5 w6) := hide (HZ1.out.trans (hb6.mono HZ1.out.size)); clear hb6)))
  have HS6 := hide (HSp.out.on HZ2.out)
  have HLen := hide HOf.out.len
  clear HSp HSe HSz HSx HSy HZ0 HZ1 HX4
  go_wp2
  go_loopw [10] (fun i wq => ∃ j : Nat, j ≤ f.ls.length ∧ i = .int .i64 j ∧ Hid (Spl w w0 wq S (Nw S w3 w5) o r W2.heap.size gb c f)) (fun i _ => f.ls.length - (intOf i).toNat)
  case atStart => exact ⟨0, Nat.zero_le _, rfl, HS6⟩
  case round =>
    clear HS6
    obtain ⟨j, hj, rfl, HJ⟩ := hrel
    obtain ⟨d0, d1, d2, d3, d4, dl⟩ := row1_cell HJ.out.gv
    by_cases hlt : j < f.ls.length
    · have hjI : (j : Int) < f.ls.length := by omega
      have hj0 : (0 : Int) ≤ j := by omega
      have hjl : (j : Int) + 1 ≤ 8796093021952 := by have := HLen.out; omega
      obtain ⟨xs, hxs⟩ := HJ.out.os
      obtain ⟨sb, sc, hsl, hsb, hsbl, _⟩ := own_some hxs (by omega)
      have hsa : f.sa = some ⟨sb, 0, none⟩ := (Value.slice.inj hsl).1
      have hnS : ¬ Nw S w3 w5 sb := fun q => by
        rcases q with q | q
        · have := HSlt.out sb q
          have := HB.out.size
          omega
        · have h1 := (HStk.out.lt sb (by rw [hsa]; rfl)).2
          omega
      have HJ2 : Hid (∀ u, Spl w w0 (wr.setCell ⟨sb, j, none⟩ u) S (Nw S w3 w5) o r W2.heap.size gb c f) := hide (fun u => HJ.out.put hsa HP.out.bel.size HB.out.size hnS u)
      obtain ⟨u0, k1⟩ : ∃ u0, wr.cell? ⟨sb, j, none⟩ = some u0 := by
        rw [hsa] at hxs
        have hl : j < xs.length := by have := hxs.1; omega
        have h9 := World.ownsRow.cells hxs (g := sb) rfl j xs[j] (List.getElem?_eq_getElem hl)
        rw [add_at, Nat.zero_add] at h9
        exact ⟨_, h9⟩
      have f1 : wr.frozen? ⟨sb, j, none⟩ = false := by
        rw [hsa] at hxs
        rcases hxs.2 with ⟨q, _⟩ | ⟨g', cap', cur, q, _, hg, _⟩
        · cases q
        · cases q; exact frozen_of_row wr sb j cur 9 hg
      rw [hsa] at d4
      clear hxs hsl hsa hnS
      go_wp2
      exact ⟨⟨j + 1, by omega, by go_num, hide (HJ2.out _)⟩, by simp [intOf]; omega⟩
    · have hjI : ¬ (j : Int) < f.ls.length := by omega
      have HS9 : Hid (Stp w w0 wr S pb off cs ty) := hide (HP.out.add (HJ.out.pv.more (T := Nw S w0 wr) (fun k hk => by
        have h1 := (HJ.out.pv.bd k hk).2
        rcases hk with hk | hk
        · exact .inl hk
        · exact .inr ⟨Nat.le_trans HB3.out.size hk.1, h1⟩) (nw_bd HP.out.pv.bd HP.out.bel.size HJ.out.bt.size)) HJ.out.bt)
      go_wp2
      go_ret
      exact ⟨rfl, HS9.out⟩
end
end Go.Proofs.YtafkammiehcdjaaGreatDoor
/-
  CheckAdds.
-/
namespace Go.Proofs.YtafkammiehcdjaaGreatDoor
open Go.RowKit Go.Maps Go.Shelf
set_option linter.unusedVariables false
/-- A step that came in. -/
structure COp where
  k : Int
  wh : Int
  e : E6.Ev
  g : Int
def i64r (x : Int) : Prop := -9223372036854775808 ≤ x ∧ x ≤ 9223372036854775807
structure COp.ok (x : COp) : Prop where
  e : x.e.ok
  eg : i64r x.e.g
  g : i64r x.g
structure ORow (w : World) (a : Option Addr) (n : Nat) (xs : List COp) : Prop where
  len : xs.length = n
  cells : n = 0 ∨ ∃ b off, a = some ⟨b, off, none⟩ ∧ ∀ i x, xs[i]? = some x → w.cell? ⟨b, off + i * 8, none⟩ = some (.int .i64 x.k) ∧ w.cell? ⟨b, off + i * 8 + 1, none⟩ = some (.int .i64 x.wh) ∧ w.cell? ⟨b, off + i * 8 + 2, none⟩ = some (.int .i64 x.e.g) ∧ w.cell? ⟨b, off + i * 8 + 3, none⟩ = some (.int .i64 x.e.k) ∧ w.cell? ⟨b, off + i * 8 + 4, none⟩ = some (.int .u64 x.e.o) ∧ w.cell? ⟨b, off + i * 8 + 5, none⟩ = some (.int .u64 x.e.a) ∧ w.cell? ⟨b, off + i * 8 + 6, none⟩ = some (.slice x.e.sa x.e.ls.length x.e.sc) ∧ w.cell? ⟨b, off + i * 8 + 7, none⟩ = some (.int .i64 x.g) ∧ E6.SRow w x.e.sa x.e.ls.length x.e.ls
theorem stepped_any {w wr : World} {S : Nat → Prop} {o r : Value} {pb off : Nat} {cs : Array Value} {ty : TypeId} (h : Pa w wr S o r pb off cs ty) (hK : E6.Kr w) (k wh : Int) (e : E6.Ev) (g : Int) (hok : e.ok) (hg : i64r g) (hs : E6.SRow w e.sa e.ls.length e.ls) :
    Calls Tryz.prog 22 #[.pointer (some ⟨pb, off, none⟩), .agg #[.int .i64 k, .int .i64 wh, .int .i64 e.g, .int .i64 e.k, .int .u64 e.o, .int .u64 e.a, .slice e.sa e.ls.length e.sc, .int .i64 g]] wr fun z w' => z = .returned (.bool true) ∧ Stp w wr w' S pb off cs ty := by
  by_cases h1 : k = 1
  · subst h1; exact step_add h hK wh e g hok hs
  by_cases h2 : k = 2
  · exact step_ask h k wh e g (.inl h2) hg.1 hg.2
  by_cases h3 : k = 3
  · exact step_ask h k wh e g (.inr h3) hg.1 hg.2
  by_cases h4 : k = 4
  · subst h4; exact step_nil h wh e g
  by_cases h5 : k = 5
  · subst h5; exact step_new h wh e g
  exact step_other h k wh e g h1 h2 h3 h4 h5
/-- Two pairs in a row. -/
def Tp (w wr : World) (pb : Nat) : Prop := ∃ o0 r0 o1 r1 S0 S1, wr.heap[pb]? = some (.cells #[o0, r0, o1, r1] 52 (0, 0)) ∧ PrV w wr S0 o0 r0 ∧ PrV w wr S1 o1 r1 ∧ (∀ k, S0 k → ¬ S1 k) ∧ ¬ S0 pb ∧ ¬ S1 pb ∧ w.heap.size ≤ pb ∧ Below w.heap.size w wr
section
variable {w wr : World} {pb : Nat}
theorem Tp.bel (h : Tp w wr pb) : Below w.heap.size w wr := by
  obtain ⟨_, _, _, _, _, _, _, _, _, _, _, _, _, h⟩ := h
  exact h
theorem Tp.lt (h : Tp w wr pb) : pb < wr.heap.size := by
  obtain ⟨_, _, _, _, _, _, h, _⟩ := h
  exact lt_of_heap h
theorem Tp.on {w' : World} (h : Tp w wr pb) (hb : Below wr.heap.size wr w') : Tp w w' pb := by
  obtain ⟨o0, r0, o1, r1, S0, S1, h1, h2, h3, h4, h5, h6, h7, h8⟩ := h
  exact ⟨o0, r0, o1, r1, S0, S1, (hb.block pb (lt_of_heap h1)).trans h1, h2.on hb, h3.on hb, h4, h5, h6, h7, h8.trans (hb.mono h8.size)⟩
theorem Tp.zero (h : Tp w wr pb) : ∃ S o r cs, Pa w wr S o r pb 0 cs 52 ∧ ∀ w', Stp w wr w' S pb 0 cs 52 → Tp w w' pb := by
  obtain ⟨o0, r0, o1, r1, S0, S1, h1, h2, h3, h4, h5, h6, h7, h8⟩ := h
  have hl := lt_of_heap h1
  refine ⟨S0, o0, r0, _, ⟨h2, h8, h1, rfl, rfl, h5, h7⟩, ?_⟩
  rintro w' ⟨o', r', g1, g2, g3⟩
  refine ⟨o', r', o1, r1, Nw S0 wr w', S1, g2, g1, h3.but g3 (fun k e => ?_) (fun k e => ?_), fun k hk => ?_, fun q => ?_, h6, h7, h8.trans (g3.below h8.size (fun k e => ?_))⟩
  · rcases e with e | rfl
    · exact h4 k e
    · exact h6
  · rcases e with e | rfl
    · exact (h2.bd k e).1
    · exact h7
  · rcases hk with hk | hk
    · exact h4 k hk
    · exact fun q => by have := (h3.bd k q).2; omega
  · rcases q with q | q
    · exact h5 q
    · omega
  · rcases e with e | rfl
    · exact (h2.bd k e).1
    · exact h7
theorem Tp.one (h : Tp w wr pb) : ∃ S o r cs, Pa w wr S o r pb 2 cs 52 ∧ ∀ w', Stp w wr w' S pb 2 cs 52 → Tp w w' pb := by
  obtain ⟨o0, r0, o1, r1, S0, S1, h1, h2, h3, h4, h5, h6, h7, h8⟩ := h
  have hl := lt_of_heap h1
  refine ⟨S1, o1, r1, _, ⟨h3, h8, h1, rfl, rfl, h6, h7⟩, ?_⟩
  rintro w' ⟨o', r', g1, g2, g3⟩
  refine ⟨o0, r0, o', r', S0, Nw S1 wr w', g2, h2.but g3 (fun k e => ?_) (fun k e => ?_), g1, fun k hk q => ?_, h5, fun q => ?_, h7, h8.trans (g3.below h8.size (fun k e => ?_))⟩
  · rcases e with e | rfl
    · exact fun q => h4 k q e
    · exact h5
  · rcases e with e | rfl
    · exact (h3.bd k e).1
    · exact h7
  · rcases q with q | q
    · exact h4 k hk q
    · have := (h2.bd k hk).2; omega
  · rcases q with q | q
    · exact h6 q
    · omega
  · rcases e with e | rfl
    · exact (h3.bd k e).1
    · exact h7
theorem Tp.step0 (h : Tp w wr pb) (hK : E6.Kr w) (k wh : Int) (e : E6.Ev) (g : Int) (hok : e.ok) (hg : i64r g) (hs : E6.SRow w e.sa e.ls.length e.ls) :
    Calls Tryz.prog 22 #[.pointer (some ⟨pb, 0, none⟩), .agg #[.int .i64 k, .int .i64 wh, .int .i64 e.g, .int .i64 e.k, .int .u64 e.o, .int .u64 e.a, .slice e.sa e.ls.length e.sc, .int .i64 g]] wr fun z w' => z = .returned (.bool true) ∧ Tp w w' pb := by
  obtain ⟨S, o, r, cs, h1, h2⟩ := h.zero
  exact (stepped_any h1 hK k wh e g hok hg hs).mono (fun z w' q => ⟨q.1, h2 w' q.2⟩)
theorem Tp.step1 (h : Tp w wr pb) (hK : E6.Kr w) (k wh : Int) (e : E6.Ev) (g : Int) (hok : e.ok) (hg : i64r g) (hs : E6.SRow w e.sa e.ls.length e.ls) :
    Calls Tryz.prog 22 #[.pointer (some ⟨pb, 2, none⟩), .agg #[.int .i64 k, .int .i64 wh, .int .i64 e.g, .int .i64 e.k, .int .u64 e.o, .int .u64 e.a, .slice e.sa e.ls.length e.sc, .int .i64 g]] wr fun z w' => z = .returned (.bool true) ∧ Tp w w' pb := by
  obtain ⟨S, o, r, cs, h1, h2⟩ := h.one
  exact (stepped_any h1 hK k wh e g hok hg hs).mono (fun z w' q => ⟨q.1, h2 w' q.2⟩)
theorem Tp.ask0 (h : Tp w wr pb) (g : Int) (hg : i64r g) : Calls Tryz.prog 23 #[.pointer (some ⟨pb, 0, none⟩), .int .i64 g] wr fun z w' => z = .returned (.bool true) ∧ Tp w w' pb := by
  obtain ⟨S, o, r, cs, h1, _⟩ := h.zero
  obtain ⟨K, D, A, hA⟩ := h1.pv.ask
  exact (asked_any hA pb 0 h1.cell0 h1.cell1 g hg.1 hg.2).mono (fun z w' q => ⟨q.1, h.on q.2⟩)
theorem Tp.ask1 (h : Tp w wr pb) (g : Int) (hg : i64r g) : Calls Tryz.prog 23 #[.pointer (some ⟨pb, 2, none⟩), .int .i64 g] wr fun z w' => z = .returned (.bool true) ∧ Tp w w' pb := by
  obtain ⟨S, o, r, cs, h1, _⟩ := h.one
  obtain ⟨K, D, A, hA⟩ := h1.pv.ask
  exact (asked_any hA pb 2 h1.cell0 h1.cell1 g hg.1 hg.2).mono (fun z w' q => ⟨q.1, h.on q.2⟩)
theorem Tp.new (w : World) : Tp w (w.alloc (.cells #[.pointer none, .pointer none, .pointer none, .pointer none] 52)) w.heap.size :=
  ⟨.pointer none, .pointer none, .pointer none, .pointer none, fun _ => False, fun _ => False, heap_new _ _, .inl ⟨rfl, rfl, fun _ q => q.elim⟩, .inl ⟨rfl, rfl, fun _ q => q.elim⟩, fun _ q => q.elim, fun q => q, fun q => q, Nat.le_refl _, below_alloc1 _ _⟩
end
def ev0 : E6.Ev := ⟨0, 0, 0, 0, none, 0, []⟩
theorem ev0_ok : ev0.ok := ⟨by decide, by decide, by decide, fun s hs => (by cases hs), by decide, fun _ => ⟨rfl, rfl⟩⟩
theorem ev0_row (w : World) : E6.SRow w ev0.sa ev0.ls.length ev0.ls := ⟨rfl, .inl rfl⟩
set_option maxRecDepth 8000 in
set_option maxHeartbeats 16000000 in
theorem adds_any (a : Option Addr) (n c : Nat) (xs : List COp) (w : World) (hK : E6.Kr w) (hr : ORow w a n xs) (hok : ∀ x ∈ xs, x.ok) (hn : (n : Int) ≤ 2199023255552) :
    Calls Tryz.prog 7 #[.slice a n c] w fun z w' => z = .returned (.bool true) ∧ Below w.heap.size w w' := by
  have HK := hide hK
  have HR := hide hr
  have HO := hide hok
  obtain ⟨W, hW⟩ : ∃ W, W = w.alloc (.cells #[.pointer none, .pointer none, .pointer none, .pointer none] 52) := ⟨_, rfl⟩
  have HT0 : Hid (Tp w W w.heap.size) := hide (by rw [hW]; exact Tp.new w)
  have HL := hide hr.len
  have HW := hide hW
  clear hK hr hok hW
  go_enter Tryz.func7, Tryz.ntmps7
  go_wp2_with fail
  go_loopw [4] (fun i wr => ∃ j : Nat, j ≤ 2 ∧ i = .int .i64 j ∧ Hid (Tp w wr w.heap.size)) (fun i _ => 2 - (intOf i).toNat)
  case atStart => exact ⟨0, by omega, rfl, by rw [← HW.out]; exact HT0⟩
  case round =>
    clear HT0 HW
    obtain ⟨j, hj, rfl, HT⟩ := hrel
    have pl := HT.out.lt
    by_cases h2 : j < 2
    · by_cases h0 : j = 0
      · subst h0
        have HC := hide (HT.out.step0 HK.out 5 0 ev0 0 ev0_ok ⟨by decide, by decide⟩ (ev0_row w))
        dsimp only [ev0] at HC
        go_wp2_with fail
        refine HC.out.mono ?_
        rintro z w1 ⟨rfl, ht⟩
        have HT1 := hide ht
        clear ht HC HT pl
        go_wp2
        exact ⟨⟨1, by omega, by go_num, HT1⟩, by simp [intOf]⟩
      · obtain rfl : j = 1 := by omega
        have HC := hide (HT.out.step1 HK.out 5 0 ev0 0 ev0_ok ⟨by decide, by decide⟩ (ev0_row w))
        dsimp only [ev0] at HC
        go_wp2_with fail
        refine HC.out.mono ?_
        rintro z w1 ⟨rfl, ht⟩
        have HT1 := hide ht
        clear ht HC HT pl
        go_wp2
        exact ⟨⟨2, by omega, by go_num, HT1⟩, by simp [intOf]⟩
    · have hq : ¬ (j : Int) < 2 := by omega
      clear pl h2 hj
      go_wp2
      go_loopw [5] (fun i wr => ∃ j : Nat, j ≤ n ∧ i = .int .i64 j ∧ Hid (Tp w wr w.heap.size)) (fun i _ => n - (intOf i).toNat)
      case atStart => exact ⟨0, by omega, rfl, HT⟩
      case round =>
        clear HT hq
        obtain ⟨j, hj, rfl, HT⟩ := hrel
        by_cases hlt : j < n
        · have hjI : (j : Int) < n := by omega
          have hj0 : (0 : Int) ≤ j := by omega
          obtain ⟨x, hx⟩ : ∃ x, xs[j]? = some x := ⟨_, List.getElem?_eq_getElem (by rw [HL.out]; exact hlt)⟩
          have HOx := hide (HO.out x (List.mem_of_getElem? hx))
          obtain ⟨ob, oo, ha, hc⟩ : ∃ b off, a = some ⟨b, off, none⟩ ∧ ∀ i x, xs[i]? = some x → _ := HR.out.cells.resolve_left (by omega)
          obtain ⟨c0, c1, c2, c3, c4, c5, c6, c7, hsr⟩ := hc j x hx
          subst ha
          have HSR := hide hsr
          have HX : Hid (∀ X, Below w.heap.size w X → X.cell? ⟨ob, oo + j * 8, none⟩ = some (.int .i64 x.k) ∧ X.cell? ⟨ob, oo + j * 8 + 1, none⟩ = some (.int .i64 x.wh) ∧ X.cell? ⟨ob, oo + j * 8 + 2, none⟩ = some (.int .i64 x.e.g) ∧ X.cell? ⟨ob, oo + j * 8 + 3, none⟩ = some (.int .i64 x.e.k) ∧ X.cell? ⟨ob, oo + j * 8 + 4, none⟩ = some (.int .u64 x.e.o) ∧ X.cell? ⟨ob, oo + j * 8 + 5, none⟩ = some (.int .u64 x.e.a) ∧ X.cell? ⟨ob, oo + j * 8 + 6, none⟩ = some (.slice x.e.sa x.e.ls.length x.e.sc) ∧ X.cell? ⟨ob, oo + j * 8 + 7, none⟩ = some (.int .i64 x.g)) := hide (fun X hX => ⟨E6.cell_bel c0 hX, E6.cell_bel c1 hX, E6.cell_bel c2 hX, E6.cell_bel c3 hX, E6.cell_bel c4 hX, E6.cell_bel c5 hX, E6.cell_bel c6 hX, E6.cell_bel c7 hX⟩)
          have ol : ob < wr.heap.size := Nat.lt_of_lt_of_le (World.block_lt_of_cell? w _ c0) HT.out.bel.size
          have pl := HT.out.lt
          clear c0 c1 c2 c3 c4 c5 c6 c7 hsr hc hx
          obtain ⟨c0, c1, c2, c3, c4, c5, c6, c7⟩ := HX.out wr HT.out.bel
          have HTd : Hid (Tp w wr.drew w.heap.size) := hide (HT.out.on (Below.refl _ _).drew)
          have HZ0 := hide HT.out.bel
          have HZ1 := hide HTd.out.bel
          by_cases hw2 : x.wh.tmod 2 = 0
          · have hwb : (x.wh.tmod 2 != 0) = false := by simp [hw2]
            have HC := hide (HTd.out.step0 HK.out x.k x.wh x.e x.g HOx.out.e HOx.out.g HSR.out)
            clear hw2
            go_wp2_with fail
            go_region_held3 (fun X => X.cell? ⟨ob, oo + j * 8, none⟩ = some (.int .i64 x.k) ∧ X.cell? ⟨ob, oo + j * 8 + 1, none⟩ = some (.int .i64 x.wh) ∧ X.cell? ⟨ob, oo + j * 8 + 2, none⟩ = some (.int .i64 x.e.g) ∧ X.cell? ⟨ob, oo + j * 8 + 3, none⟩ = some (.int .i64 x.e.k) ∧ X.cell? ⟨ob, oo + j * 8 + 4, none⟩ = some (.int .u64 x.e.o) ∧ X.cell? ⟨ob, oo + j * 8 + 5, none⟩ = some (.int .u64 x.e.a) ∧ X.cell? ⟨ob, oo + j * 8 + 6, none⟩ = some (.slice x.e.sa x.e.ls.length x.e.sc) ∧ X.cell? ⟨ob, oo + j * 8 + 7, none⟩ = some (.int .i64 x.g))
              (first | with_reducible exact HX.out _ HZ0.out | with_reducible exact HX.out _ HZ1.out | with_reducible exact HX.out _ HZ2.out | with_reducible exact HX.out _ HZ3.out)
              (first | (go_at_call 23; go_must (refine HC2.out.mono ?_; rintro e9 w2 ⟨rfl, ht2⟩; have HT2 := hide ht2; have HZ3 := hide ht2.bel; clear ht2)) | (go_at_call 22; go_must (refine HC.out.mono ?_; rintro e8 w1 ⟨rfl, ht⟩; have HT1 := hide ht; have HZ2 := hide ht.bel; have HC2 := hide (ht.ask0 x.e.g HOx.out.eg); clear ht)))
            clear HC HC2 HT1 HZ0 HZ1 HZ2
            go_wp2
            exact ⟨⟨j + 1, by omega, by go_num, HT2⟩, by simp [intOf]; omega⟩
          · have hwb : (x.wh.tmod 2 != 0) = true := by simp [hw2]
            have HC := hide (HTd.out.step1 HK.out x.k x.wh x.e x.g HOx.out.e HOx.out.g HSR.out)
            clear hw2
            go_wp2_with fail
            go_region_held3 (fun X => X.cell? ⟨ob, oo + j * 8, none⟩ = some (.int .i64 x.k) ∧ X.cell? ⟨ob, oo + j * 8 + 1, none⟩ = some (.int .i64 x.wh) ∧ X.cell? ⟨ob, oo + j * 8 + 2, none⟩ = some (.int .i64 x.e.g) ∧ X.cell? ⟨ob, oo + j * 8 + 3, none⟩ = some (.int .i64 x.e.k) ∧ X.cell? ⟨ob, oo + j * 8 + 4, none⟩ = some (.int .u64 x.e.o) ∧ X.cell? ⟨ob, oo + j * 8 + 5, none⟩ = some (.int .u64 x.e.a) ∧ X.cell? ⟨ob, oo + j * 8 + 6, none⟩ = some (.slice x.e.sa x.e.ls.length x.e.sc) ∧ X.cell? ⟨ob, oo + j * 8 + 7, none⟩ = some (.int .i64 x.g))
              (first | with_reducible exact HX.out _ HZ0.out | with_reducible exact HX.out _ HZ1.out | with_reducible exact HX.out _ HZ2.out | with_reducible exact HX.out _ HZ3.out)
              (first | (go_at_call 23; go_must (refine HC2.out.mono ?_; rintro e9 w2 ⟨rfl, ht2⟩; have HT2 := hide ht2; have HZ3 := hide ht2.bel; clear ht2)) | (go_at_call 22; go_must (refine HC.out.mono ?_; rintro e8 w1 ⟨rfl, ht⟩; have HT1 := hide ht; have HZ2 := hide ht.bel; have HC2 := hide (ht.ask1 x.e.g HOx.out.eg); clear ht)))
            clear HC HC2 HT1 HZ0 HZ1 HZ2
            go_wp2
            exact ⟨⟨j + 1, by omega, by go_num, HT2⟩, by simp [intOf]; omega⟩
        · have h9 : ¬ (j : Int) < n := by omega
          have HB := hide HT.out.bel
          go_wp2
          go_ret
          exact ⟨rfl, HB.out⟩
end Go.Proofs.YtafkammiehcdjaaGreatDoor
