/-
  An entry is put in.
-/
import Derived.Test.YtdmlehbamdcjcaaHpCI
import Derived.Test.YtdmlehbamdcjcaaHpV
namespace Go.Proofs.Ytdmlehbamdcjcaa
open Go.RowKit
theorem Try.infoEI : (Try.prog.info? 77).map (fun i => (i.zero, i.size, i.bytes)) = some (some (.agg #[.int .i64 0, .int .i64 0, .int .i64 0]), 3, 24) := by kernel_rfl
/-- 'append(l, e)' of one entry in a new block, in a region that draws. -/
theorem stepEI (w : World) {ops : Array Oper} {oo : Oper} {aa : Act} {K : Act → World → Prop} {Q : Exit → Act → World → Prop} {E0 : Prop} (hgd : oo.guard = none) (s x : Operand)
    (ho : oo.op = .call { callee := .builtin .append, args := #[s, x], argTypes := #[79, 79] }) (base : Nat)
    (v : Value) (L : List (It × Int)) (hs : aa.eval s = v) (hown : Own layEI 77 w base v L)
    (B : Nat) (e : It × Int) (hx : aa.eval x = .slice (some ⟨B, 0, none⟩) 1 1) (hB : w.heap[B]? = some (.cells #[.int .i64 e.1.k, .int .i64 e.1.t, .int .i64 e.2] 77 (0, 0)))
    (hb : (L.length : Int) + 1 ≤ 8796093022208) (hbase : base ≤ w.heap.size)
    (h : ∀ g cap w', Own layEI 77 w' base (.slice (some ⟨g, 0, none⟩) (L.length + 1) cap) (L ++ [e]) → w.grownBy w' v.ownBlock → (v.ownBlock = some g ∨ g = w.heap.size) → K (aa.put oo.dst (.slice (some ⟨g, 0, none⟩) (L.length + 1) cap)) w') :
    if Region.wanted oo (yielded ops aa.tmps) = true then Oper.wp Try.prog oo aa w K Q else E0 := by
  obtain ⟨i0, hi, hz0, hz1, hz2⟩ := info_parts Try.infoEI
  refine step_big w hgd s x 79 ho base 77 i0 _ 3 24 Try.underlying79 hi hz0 hz1 hz2 rfl v L.length _ hs hown ⟨B, 0, none⟩ 1 (layEI.cs e) hx rfl (World.news_of_block hB) (layEI.one e) (by omega) (by omega) hbase ?_
  intro g cap w' h1 h2 h3
  refine h g cap w' ?_ h2 h3
  unfold Own
  rw [List.length_append, layEI.fl_app, layEI.fl_one]
  exact h1
theorem hp_cellsI {w : World} {p : Nat} {v : Value} {n : Int} (h : w.heap[p]? = some (.cells #[v, .int .i64 n] 81 (0, 0))) : w.cell? ⟨p, 0, none⟩ = some v ∧ w.cell? ⟨p, 1, none⟩ = some (.int .i64 n) ∧ p < w.heap.size :=
  ⟨by rw [cell_of_row w p 0 _ _ (0, 0) h]; rfl, by rw [cell_of_row w p 1 _ _ (0, 0) h]; rfl, (Array.getElem?_eq_some_iff.1 h).1⟩
set_option maxRecDepth 8000 in
set_option maxHeartbeats 3200000 in
theorem putI (w : World) (base p : Nat) (v : Value) (n : Int) (E : List (It × Int)) (e : It × Int) (hH : w.heap[p]? = some (.cells #[v, .int .i64 n] 81 (0, 0))) (hO : Own layEI 77 w base v E) (hbase : base ≤ w.heap.size) (hl : (E.length : Int) + 1 ≤ 8796093022208) :
    Calls Try.prog 44 #[.pointer (some ⟨p, 0, none⟩), .agg #[.int .i64 e.1.k, .int .i64 e.1.t, .int .i64 e.2]] w fun r w' => r = .returned (.tuple #[]) ∧ ∃ g c E', w'.heap[p]? = some (.cells #[.slice (some ⟨g, 0, none⟩) (E.length + 1) c, .int .i64 n] 81 (0, 0)) ∧ Own layEI 77 w' base (.slice (some ⟨g, 0, none⟩) (E.length + 1) c) E' ∧ E'.Perm (E ++ [e]) ∧ (Ord (fst bfI) → Hp (fst bfI) E → Hp (fst bfI) E') ∧ But (fun k => k = p ∨ v.ownBlock = some k) w w' ∧ (v.ownBlock = some g ∨ w.heap.size ≤ g) := by
  obtain ⟨⟨a0, a1⟩, ua⟩ := e
  obtain ⟨p0, p1, hp⟩ := hp_cellsI hH
  obtain ⟨w1, hw1⟩ : ∃ w1, w1 = (w.alloc (.cells #[.int .i64 a0, .int .i64 a1, .int .i64 ua] 77)).drew := ⟨_, rfl⟩
  have hb1 : Below w.heap.size w w1 := by rw [hw1]; exact (below_alloc1 _ _).drew
  have hs1 : w.heap.size < w1.heap.size := by rw [hw1]; simp
  have O1 : Hid _ := hide (hO.below hb1)
  have H1 : Hid _ := hide ((hb1.block p hp).trans hH)
  have HB1 : Hid _ := hide hb1
  have K1 : Hid (w1.cell? ⟨w.heap.size, 0, none⟩ = some (.int .i64 a0) ∧ w1.cell? ⟨w.heap.size, 1, none⟩ = some (.int .i64 a1) ∧ w1.cell? ⟨w.heap.size, 2, none⟩ = some (.int .i64 ua)) := hide (by
    have h9 : w1.heap[w.heap.size]? = some (.cells #[.int .i64 a0, .int .i64 a1, .int .i64 ua] 77 (0, 0)) := by rw [hw1]; exact heap_new _ _
    exact ⟨by rw [cell_of_row w1 _ 0 _ _ (0, 0) h9]; rfl, by rw [cell_of_row w1 _ 1 _ _ (0, 0) h9]; rfl, by rw [cell_of_row w1 _ 2 _ _ (0, 0) h9]; rfl⟩)
  have q0 : w1.cell? ⟨p, 0, none⟩ = some v := (hp_cellsI H1.out).1
  have HW1 : Hid _ := hide hw1
  have HO : Hid _ := hide hO
  clear hO hH p0 p1 hw1 hb1
  go_enter Try.func44, Try.ntmps44
  go_wp2_with fail
  refine wp_region_noPanic ?_
  have hf : Try.prog.follows .mixedOrders = true := by kernel_rfl
  refine wp_region_held_drew (S := fun X => X.cell? ⟨w.heap.size, 0, none⟩ = some (.int .i64 a0) ∧ X.cell? ⟨w.heap.size, 1, none⟩ = some (.int .i64 a1) ∧ X.cell? ⟨w.heap.size, 2, none⟩ = some (.int .i64 ua)) hf (by rw [← HW1.out]; exact K1.out) (fun hHeld => ?_)
  rw [← HW1.out] at hHeld ⊢
  refine wpAnyH_take (i := 0) (oi := _) (v := ?v0) rfl (by kernel_rfl) (by kernel_rfl) (by kernel_rfl) (fun _ _ _ h => h) (Or.inl ⟨by rfl, ?y0⟩) (by assumption) ?r0
  case y0 => (intro w' hSw; (try dsimp only at hSw); go_simp; try with_reducible rfl)
  refine wpAnyH_take (i := 1) (oi := _) (v := ?v1) rfl (by kernel_rfl) (by kernel_rfl) (by kernel_rfl) (fun _ _ _ h => h) (Or.inl ⟨by rfl, ?y1⟩) (by assumption) ?r1
  case y1 => (intro w' hSw; (try dsimp only at hSw); go_simp; try with_reducible rfl)
  refine wpAnyH_take (i := 2) (oi := _) (v := ?v2) rfl (by kernel_rfl) (by kernel_rfl) (by kernel_rfl) (fun _ _ _ h => h) (Or.inl ⟨by rfl, ?y2⟩) (by assumption) ?r2
  case y2 => (intro w' hSw; (try dsimp only at hSw); go_simp; try with_reducible rfl)
  refine wpAnyH_take (i := 3) (oi := _) (v := ?v3) rfl (by kernel_rfl) (by kernel_rfl) (by kernel_rfl) (fun _ _ _ h => h) (Or.inl ⟨by rfl, ?y3⟩) (by assumption) ?r3
  case y3 => (intro w' hSw; (try dsimp only at hSw); go_simp; try with_reducible rfl)
  refine wpAnyH_take (i := 5) (oi := _) (v := ?v5) rfl (by kernel_rfl) (by kernel_rfl) (by kernel_rfl) (fun _ _ _ h => h) (Or.inl ⟨by rfl, ?y5⟩) (by assumption) ?r5
  case y5 => (intro w' hSw; (try dsimp only at hSw); go_simp; try with_reducible rfl)
  have hp1 : p < w1.heap.size := by omega
  have hw1' : w.heap.size < w1.heap.size := by omega
  have K2 : Hid (∀ o : Obj, (w1.alloc o).cell? ⟨w.heap.size, 0, none⟩ = some (.int .i64 a0) ∧ (w1.alloc o).cell? ⟨w.heap.size, 1, none⟩ = some (.int .i64 a1) ∧ (w1.alloc o).cell? ⟨w.heap.size, 2, none⟩ = some (.int .i64 ua)) := hide (fun o => by
    obtain ⟨k0, k1, k2⟩ := K1.out
    exact ⟨((below_alloc1 w1 o).cell (p := ⟨w.heap.size, 0, none⟩) hw1').trans k0, ((below_alloc1 w1 o).cell (p := ⟨w.heap.size, 1, none⟩) hw1').trans k1, ((below_alloc1 w1 o).cell (p := ⟨w.heap.size, 2, none⟩) hw1').trans k2⟩)
  refine wpAnyH_ready (rs := [4, 6]) (by kernel_rfl) (by simp) ?_
  refine AllReadyH.cons (o := _) rfl (fun KK hKK => ?_) (AllReadyH.cons (o := _) rfl (fun KK hKK => ?_) AllReadyH.nil)
  · go_simp
    refine hKK.out _ _ K1.out (fun hHeld4 => ?_)
    clear hKK KK
    refine wpAnyH_ready (rs := [6]) (by kernel_rfl) (by simp) ?_
    refine AllReadyH.cons (o := _) rfl (fun KK hKK => ?_) AllReadyH.nil
    go_simp
    refine hKK.out _ _ (K2.out _) (fun hHeld6 => ?_)
    clear hKK KK hHeld4 hHeld
    refine wpAnyH_ready (rs := [7]) (by kernel_rfl) (by simp) ?_
    refine AllReadyH.cons (o := _) rfl (fun KK hKK => ?_) AllReadyH.nil
    refine stepEI (w1.alloc (.cells #[.int .i64 a0, .int .i64 a1, .int .i64 ua] 77)) rfl (.tmp 8) (.tmp 10) rfl base v E rfl (O1.out.below (below_alloc1 _ _)) w1.heap.size (⟨a0, a1⟩, ua) rfl (heap_new _ _) (by omega) (by simp; omega) ?_
    intro g c w3 hown3 hgr3 hl3
    have B3 : But (fun k => k = p ∨ v.ownBlock = some k) w w3 := ((But.of_below HB1.out).alloc _).grown hgr3 (fun _ _ e => .inr e)
    have hne : v.ownBlock ≠ some p := own_ne_cells O1.out H1.out (by decide)
    have hne2 : v.ownBlock ≠ some w.heap.size := fun e9 => by have := (HO.out.lt _ e9).2; omega
    have H3 : w3.heap[p]? = some (.cells #[v, .int .i64 n] 81 (0, 0)) := ((hgr3.block p (by simp; omega) (fun e9 => hne e9.symm)).trans (Below.heap_alloc _ _ _ hp1)).trans H1.out
    have K3 : w3.cell? ⟨w.heap.size, 0, none⟩ = some (.int .i64 a0) ∧ w3.cell? ⟨w.heap.size, 1, none⟩ = some (.int .i64 a1) ∧ w3.cell? ⟨w.heap.size, 2, none⟩ = some (.int .i64 ua) := by
      obtain ⟨k0, k1, k2⟩ := hHeld6
      exact ⟨hgr3.cell (a := ⟨w.heap.size, 0, none⟩) k0 (fun e9 => hne2 e9.symm), hgr3.cell (a := ⟨w.heap.size, 1, none⟩) k1 (fun e9 => hne2 e9.symm), hgr3.cell (a := ⟨w.heap.size, 2, none⟩) k2 (fun e9 => hne2 e9.symm)⟩
    refine hKK.out _ _ K3 (fun hHeld7 => ?_)
    clear hKK KK
    refine wpAnyH_take (i := 8) (oi := _) (v := ?v8p) rfl (by kernel_rfl) (by kernel_rfl) (by kernel_rfl) (fun _ _ _ h => h) (Or.inl ⟨by rfl, ?y8p⟩) (by assumption) ?r8p
    case y8p => (intro w' hSw; (try dsimp only at hSw); go_simp; try with_reducible rfl)
    refine wpAnyH_take (i := 9) (oi := _) (v := ?v9p) rfl (by kernel_rfl) (by kernel_rfl) (by kernel_rfl) (fun _ _ _ h => h) (Or.inl ⟨by rfl, ?y9p⟩) (by assumption) ?r9p
    case y9p => (intro w' hSw; (try dsimp only at hSw); go_simp; try with_reducible rfl)
    refine wpAnyH_ready (rs := [10]) (by kernel_rfl) (by simp) ?_
    refine AllReadyH.cons (o := _) rfl (fun KK hKK => ?_) AllReadyH.nil
    have r0 := (hp_cellsI H3).1
    have fz := frz H3 0
    have hpw : ¬ p = w.heap.size := by omega
    have hwp : ¬ w.heap.size = p := by omega
    go_simp
    refine hKK.out _ _ (by obtain ⟨k0, k1, k2⟩ := K3; go_simp) (fun hHeld10 => ?_)
    clear hKK KK hHeld10 hHeld7 hHeld6 K3
    refine wpAnyH_done (by kernel_rfl) ?_ _
    refine NoPanic.normal ?_
    obtain ⟨w4, hw4⟩ : ∃ w4, w4 = w3.setCell ⟨p, 0, none⟩ (.slice (some ⟨g, 0, none⟩) (E.length + 1) c) := ⟨_, rfl⟩
    rw [← hw4]
    have H4 : w4.heap[p]? = some (.cells #[.slice (some ⟨g, 0, none⟩) (E.length + 1) c, .int .i64 n] 81 (0, 0)) := by rw [hw4]; exact set1_heap _ H3
    have B4 : But (fun k => k = p) w3 w4 := by rw [hw4]; exact (But.refl (fun k => k = p) w3).setCell ⟨p, 0, none⟩ (fun _ => rfl) _
    have hg3 : some g ≠ some p := own_ne_cells hown3 H3 (by decide)
    have O4 : Own layEI 77 w4 base (.slice (some ⟨g, 0, none⟩) (E.length + 1) c) (E ++ [(⟨a0, a1⟩, ua)]) := hown3.but B4 (fun k hk e9 => hg3 (by rw [← (e9 : k = p)]; exact hk))
    have B5 : Hid _ := hide (B3.trans B4 (fun _ _ e9 => .inl e9))
    have z0 := (hp_cellsI H4).1
    have HH4 : Hid _ := hide H4
    have HO4 : Hid _ := hide O4
    have HL3 : Hid _ := hide hl3
    have RS := riseI w4 base p g c (E.length + 1) E.length (E ++ [(⟨a0, a1⟩, ua)]) z0 (by simp) O4 (by omega) (by omega)
    clear H4 O4 B4 B3 hw4 H3 r0 fz hown3 hgr3 hl3
    have hwr : IntKind.i64.wrap ((E.length : Int) + 1 - 1) = (E.length : Int) := by rw [IntKind.wrap_i64]; omega
    go_wp2_with fail
    (try rw [show (E.length : Int) + 1 - 1 = (E.length : Int) from by omega])
    refine RS.mono ?_
    rintro r w5 ⟨rfl, E', hO5, hp5, hh5, hb5⟩
    go_wp2
    go_end0
    refine ⟨rfl, g, c, E', (hb5.block p (Array.getElem?_eq_some_iff.1 HH4.out).1 (fun e9 => hg3 (congrArg some (Eq.symm e9)))).trans HH4.out, hO5, hp5, fun o h => hh5 o (h.snoc _), B5.out.trans hb5 (fun i hi e9 => ?_), HL3.out.imp id (fun e9 => by rw [e9]; simp; omega)⟩
    have e8 : i = g := e9
    rcases HL3.out with h9 | h9
    · exact .inr (by rw [e8]; exact h9)
    · rw [e8, h9] at hi; simp at hi; omega
  · go_simp
    refine hKK.out _ _ (K2.out _) (fun hHeld6 => ?_)
    clear hKK KK
    refine wpAnyH_ready (rs := [4]) (by kernel_rfl) (by simp) ?_
    refine AllReadyH.cons (o := _) rfl (fun KK hKK => ?_) AllReadyH.nil
    go_simp
    refine hKK.out _ _ (K2.out _) (fun hHeld4 => ?_)
    clear hKK KK hHeld4 hHeld
    refine wpAnyH_ready (rs := [7]) (by kernel_rfl) (by simp) ?_
    refine AllReadyH.cons (o := _) rfl (fun KK hKK => ?_) AllReadyH.nil
    refine stepEI (w1.alloc (.cells #[.int .i64 a0, .int .i64 a1, .int .i64 ua] 77)) rfl (.tmp 8) (.tmp 10) rfl base v E rfl (O1.out.below (below_alloc1 _ _)) w1.heap.size (⟨a0, a1⟩, ua) rfl (heap_new _ _) (by omega) (by simp; omega) ?_
    intro g c w3 hown3 hgr3 hl3
    have B3 : But (fun k => k = p ∨ v.ownBlock = some k) w w3 := ((But.of_below HB1.out).alloc _).grown hgr3 (fun _ _ e => .inr e)
    have hne : v.ownBlock ≠ some p := own_ne_cells O1.out H1.out (by decide)
    have hne2 : v.ownBlock ≠ some w.heap.size := fun e9 => by have := (HO.out.lt _ e9).2; omega
    have H3 : w3.heap[p]? = some (.cells #[v, .int .i64 n] 81 (0, 0)) := ((hgr3.block p (by simp; omega) (fun e9 => hne e9.symm)).trans (Below.heap_alloc _ _ _ hp1)).trans H1.out
    have K3 : w3.cell? ⟨w.heap.size, 0, none⟩ = some (.int .i64 a0) ∧ w3.cell? ⟨w.heap.size, 1, none⟩ = some (.int .i64 a1) ∧ w3.cell? ⟨w.heap.size, 2, none⟩ = some (.int .i64 ua) := by
      obtain ⟨k0, k1, k2⟩ := hHeld6
      exact ⟨hgr3.cell (a := ⟨w.heap.size, 0, none⟩) k0 (fun e9 => hne2 e9.symm), hgr3.cell (a := ⟨w.heap.size, 1, none⟩) k1 (fun e9 => hne2 e9.symm), hgr3.cell (a := ⟨w.heap.size, 2, none⟩) k2 (fun e9 => hne2 e9.symm)⟩
    refine hKK.out _ _ K3 (fun hHeld7 => ?_)
    clear hKK KK
    refine wpAnyH_take (i := 8) (oi := _) (v := ?v8q) rfl (by kernel_rfl) (by kernel_rfl) (by kernel_rfl) (fun _ _ _ h => h) (Or.inl ⟨by rfl, ?y8q⟩) (by assumption) ?r8q
    case y8q => (intro w' hSw; (try dsimp only at hSw); go_simp; try with_reducible rfl)
    refine wpAnyH_take (i := 9) (oi := _) (v := ?v9q) rfl (by kernel_rfl) (by kernel_rfl) (by kernel_rfl) (fun _ _ _ h => h) (Or.inl ⟨by rfl, ?y9q⟩) (by assumption) ?r9q
    case y9q => (intro w' hSw; (try dsimp only at hSw); go_simp; try with_reducible rfl)
    refine wpAnyH_ready (rs := [10]) (by kernel_rfl) (by simp) ?_
    refine AllReadyH.cons (o := _) rfl (fun KK hKK => ?_) AllReadyH.nil
    have r0 := (hp_cellsI H3).1
    have fz := frz H3 0
    have hpw : ¬ p = w.heap.size := by omega
    have hwp : ¬ w.heap.size = p := by omega
    go_simp
    refine hKK.out _ _ (by obtain ⟨k0, k1, k2⟩ := K3; go_simp) (fun hHeld10 => ?_)
    clear hKK KK hHeld10 hHeld7 hHeld6 K3
    refine wpAnyH_done (by kernel_rfl) ?_ _
    refine NoPanic.normal ?_
    obtain ⟨w4, hw4⟩ : ∃ w4, w4 = w3.setCell ⟨p, 0, none⟩ (.slice (some ⟨g, 0, none⟩) (E.length + 1) c) := ⟨_, rfl⟩
    rw [← hw4]
    have H4 : w4.heap[p]? = some (.cells #[.slice (some ⟨g, 0, none⟩) (E.length + 1) c, .int .i64 n] 81 (0, 0)) := by rw [hw4]; exact set1_heap _ H3
    have B4 : But (fun k => k = p) w3 w4 := by rw [hw4]; exact (But.refl (fun k => k = p) w3).setCell ⟨p, 0, none⟩ (fun _ => rfl) _
    have hg3 : some g ≠ some p := own_ne_cells hown3 H3 (by decide)
    have O4 : Own layEI 77 w4 base (.slice (some ⟨g, 0, none⟩) (E.length + 1) c) (E ++ [(⟨a0, a1⟩, ua)]) := hown3.but B4 (fun k hk e9 => hg3 (by rw [← (e9 : k = p)]; exact hk))
    have B5 : Hid _ := hide (B3.trans B4 (fun _ _ e9 => .inl e9))
    have z0 := (hp_cellsI H4).1
    have HH4 : Hid _ := hide H4
    have HO4 : Hid _ := hide O4
    have HL3 : Hid _ := hide hl3
    have RS := riseI w4 base p g c (E.length + 1) E.length (E ++ [(⟨a0, a1⟩, ua)]) z0 (by simp) O4 (by omega) (by omega)
    clear H4 O4 B4 B3 hw4 H3 r0 fz hown3 hgr3 hl3
    have hwr : IntKind.i64.wrap ((E.length : Int) + 1 - 1) = (E.length : Int) := by rw [IntKind.wrap_i64]; omega
    go_wp2_with fail
    (try rw [show (E.length : Int) + 1 - 1 = (E.length : Int) from by omega])
    refine RS.mono ?_
    rintro r w5 ⟨rfl, E', hO5, hp5, hh5, hb5⟩
    go_wp2
    go_end0
    refine ⟨rfl, g, c, E', (hb5.block p (Array.getElem?_eq_some_iff.1 HH4.out).1 (fun e9 => hg3 (congrArg some (Eq.symm e9)))).trans HH4.out, hO5, hp5, fun o h => hh5 o (h.snoc _), B5.out.trans hb5 (fun i hi e9 => ?_), HL3.out.imp id (fun e9 => by rw [e9]; simp; omega)⟩
    have e8 : i = g := e9
    rcases HL3.out with h9 | h9
    · exact .inr (by rw [e8]; exact h9)
    · rw [e8, h9] at hi; simp at hi; omega
end Go.Proofs.Ytdmlehbamdcjcaa
