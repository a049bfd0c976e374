import Derived.Test.YtafkammiehcdjaaGreatDoorZa12
/-
  halve.
-/
namespace Go.Proofs.YtafkammiehcdjaaGreatDoor
open Go.RowKit
theorem set_flat2 (ps : List Pc) (i : Nat) (q1 q2 : Pc) (hi : i < ps.length) : (ps.set i q1).take (i + 1) ++ q2 :: (ps.set i q1).drop (i + 1) = ps.take i ++ q1 :: q2 :: ps.drop (i + 1) := by
  rw [List.set_eq_take_append_cons_drop, if_pos hi]
  have hl : (ps.take i).length = i := by rw [List.length_take]; omega
  have e1 : (ps.take i ++ q1 :: ps.drop (i + 1)).take (i + 1) = ps.take i ++ [q1] := by
    rw [show ps.take i ++ q1 :: ps.drop (i + 1) = (ps.take i ++ [q1]) ++ ps.drop (i + 1) by simp]
    exact List.take_left' (by simp [hl])
  have e2 : (ps.take i ++ q1 :: ps.drop (i + 1)).drop (i + 1) = ps.drop (i + 1) := by
    rw [show ps.take i ++ q1 :: ps.drop (i + 1) = (ps.take i ++ [q1]) ++ ps.drop (i + 1) by simp]
    exact List.drop_left' (by simp [hl])
  rw [e1, e2]
  simp
theorem heap_alloc_old {w : World} {k : Nat} (o : Obj) (h : k < w.heap.size) : (w.alloc o).heap[k]? = w.heap[k]? := Below.heap_alloc _ _ _ h
/-- The end of halve. -/
theorem halve_end {w W1 w2 w3 : World} {P : Nat → Prop} {v v2 v3 : Value} {ps : List Pc} {i hf rb ro pg : Nat} {es : List Ent} {q1 : Pc} {a2 : Option Addr} {c2 : Nat} {cs : Array Value} {T : TypeId}
    (hP1 : Pcs W1 P v (ps.set i q1)) (hB1 : But (fun b => b = pg) w W1) (o2 : Own layN 148 w2 W1.heap.size v2 (es.drop hf)) (b2 : Below W1.heap.size W1 w2) (hv2 : v2 = .slice a2 (es.drop hf).length c2)
    (o3 : Own layP 149 w3 0 v3 ((ps.set i q1).take (i + 1) ++ (⟨a2, c2, es.drop hf⟩ : Pc) :: (ps.set i q1).drop (i + 1))) (b3 : But (fun b => v.ownBlock = some b) (w2.alloc (.cells #[v2] 149)) w3)
    (l3 : v3.ownBlock = v.ownBlock ∨ ∃ b, v3.ownBlock = some b ∧ (w2.alloc (.cells #[v2] 149)).heap.size ≤ b) (r3 : w3.heap[rb]? = some (.cells cs T (0, 0))) (hlt : rb < w.heap.size) (hPr : ¬ P rb) (hpP : P pg) (hil : i < ps.length) (hq1 : q1.es = es.take hf) :
    ∃ v' ps', Pcs (w3.setCell ⟨rb, ro, none⟩ v3) (More P w (w3.setCell ⟨rb, ro, none⟩ v3)) v' ps' ∧ esOf ps' = (esOf ps).take i ++ es.take hf :: es.drop hf :: (esOf ps).drop (i + 1) ∧ (w3.setCell ⟨rb, ro, none⟩ v3).heap[rb]? = some (.cells (cs.setIfInBounds ro v') T (0, 0)) ∧ But (fun b => P b ∨ b = rb) w (w3.setCell ⟨rb, ro, none⟩ v3) := by
  have hs1 := hB1.size
  have hs2 := b2.size
  have hs3 := b3.size
  rw [World.size_alloc] at hs3
  have ba : Below w2.heap.size w2 (w2.alloc (.cells #[v2] 149)) := below_alloc1 w2 _
  have hPA : Pcs (w2.alloc (.cells #[v2] 149)) P v (ps.set i q1) := (hP1.below b2).below ba
  have hsz4 : (w3.setCell ⟨rb, ro, none⟩ v3).heap.size = w3.heap.size := by simp [World.setCell]
  have h2lt := fun b hb => (o2.lt b hb)
  have hqo : Own layN 148 (w2.alloc (.cells #[v2] 149)) 0 (⟨a2, c2, es.drop hf⟩ : Pc).val (⟨a2, c2, es.drop hf⟩ : Pc).es := by
    have h9 := (o2.mono (Nat.zero_le _)).below ba
    rw [hv2] at h9 ⊢
    exact h9
  have hv2b : (⟨a2, c2, es.drop hf⟩ : Pc).val.ownBlock = v2.ownBlock := by rw [hv2]
  have hins := hPA.ins (P' := More P w w3) (v' := v3) (i := i + 1) (q := ⟨a2, c2, es.drop hf⟩) (by rw [List.length_set]; omega) b3 o3 hqo
    (fun r hr b hb e => by
      rw [hv2b] at e
      have h8 := (h2lt b e).1
      have h7 := ((hP1.each r hr).lt b hb).2
      omega)
    (fun b hb => .inl hb)
    (fun b hb => by
      rcases l3 with l3 | ⟨b', hb', hle⟩
      · rw [l3] at hb; exact .inl (hPA.vin b hb)
      · rw [hb'] at hb
        cases hb
        rw [World.size_alloc] at hle
        exact .inr ⟨by omega, (o3.lt b hb').2⟩)
    (fun b hb => by
      rw [hv2b] at hb
      have h8 := h2lt b hb
      exact .inr ⟨by omega, by omega⟩)
  have hB4 : But (fun b => b = rb) w3 (w3.setCell ⟨rb, ro, none⟩ v3) := (But.refl (fun b => b = rb) w3).setCell ⟨rb, ro, none⟩ (fun _ => rfl) _
  refine ⟨v3, _, (hins.but hB4 (fun b hb e => ?_)).mono (fun b hb => ?_), ?_, set1_heap _ r3, ?_⟩
  · have e9 : b = rb := e
    rcases hb with hb | hb
    · rw [e9] at hb; exact hPr hb
    · omega
  · rcases hb with hb | hb
    · exact .inl hb
    · exact .inr ⟨hb.1, by rw [hsz4]; exact hb.2⟩
  · rw [set_flat2 ps i q1 _ hil]
    simp only [esOf, List.map_append, List.map_cons, List.map_take, List.map_drop, hq1]
  · have k1 : But (fun b => P b ∨ b = rb) w W1 := hB1.mono (fun b e => .inl (by rw [e]; exact hpP))
    have k2 := (k1.on b2).on ba
    refine (k2.trans b3 (fun b _ e => .inl (hPA.vin b e))).trans hB4 (fun b _ e => .inr e)
set_option maxRecDepth 8000 in
set_option maxHeartbeats 600000 in
theorem halve_any (rb ro i : Nat) (w : World) (cs : Array Value) (T : TypeId) (v : Value) (P : Nat → Prop) (ps : List Pc) (p : Pc) (hrb : w.heap[rb]? = some (.cells cs T (0, 0))) (hro : cs[ro]? = some v) (h : Pcs w P v ps) (hPr : ¬ P rb) (hp : ps[i]? = some p) (hl : 2 ≤ p.es.length) (hl2 : p.es.length ≤ 513) (hn : (ps.length : Int) ≤ 3000000) :
    Calls Tryz.prog 119 #[.pointer (some ⟨rb, ro, none⟩), .int .i64 (i : Int)] w fun r w' => r = .returned (.tuple #[]) ∧ ∃ v' ps', Pcs w' (More P w w') v' ps' ∧ esOf ps' = (esOf ps).take i ++ p.es.take (p.es.length / 2) :: p.es.drop (p.es.length / 2) :: (esOf ps).drop (i + 1) ∧ w'.heap[rb]? = some (.cells (cs.setIfInBounds ro v') T (0, 0)) ∧ But (fun b => P b ∨ b = rb) w w' := by
  have hil := get_lt hp
  obtain ⟨pg, c, rfl, _, hpgl, hcap⟩ := h.own.frm (by omega)
  have hpgP : P pg := h.vin pg rfl
  have hne : ¬ rb = pg := fun e => hPr (by rw [e]; exact hpgP)
  have hpm := List.mem_of_getElem? hp
  obtain ⟨pa, pcc, es⟩ := p
  have hel : 2 ≤ es.length := hl
  obtain ⟨g, pc, hpv, _, hgl, hgc⟩ := (h.each _ hpm).frm (show 0 < es.length by omega)
  obtain ⟨rfl, rfl⟩ : pa = some ⟨g, 0, none⟩ ∧ pcc = pc := by injection hpv with e1 e2 e3; exact ⟨e1, e3⟩
  have hOp : Own layN 148 w 0 (.slice (some ⟨g, 0, none⟩) es.length pcc) es := h.each _ hpm
  have hgP : P g := h.pin _ hpm g rfl
  have hgc' : es.length ≤ pcc := hgc
  obtain ⟨hf, hhf⟩ : ∃ hf, hf = es.length / 2 := ⟨_, rfl⟩
  have hh1 : 1 ≤ hf := by omega
  have hh2 : hf < es.length := by omega
  obtain ⟨n, hnn⟩ : ∃ n, n = es.length := ⟨_, rfl⟩
  have hq : Int.tdiv (n : Int) 2 = (hf : Int) := by rw [Int.tdiv_eq_ediv_of_nonneg (by omega), hhf, hnn]; omega
  have hq2 : (n : Int) / 2 = (hf : Int) := by rw [hhf, hnn]; omega
  -- behind the first store
  obtain ⟨W1, hW1⟩ : ∃ W1, W1 = (w.setCell ⟨pg, i, none⟩ (.slice (some ⟨g, 0, none⟩) hf pcc)).drew := ⟨_, rfl⟩
  have hcutO : Own layN 148 w 0 (.slice (some ⟨g, 0, none⟩) hf pcc) (es.take hf) := hOp.cut rfl (by omega)
  have htl : (es.take hf).length = hf := by rw [List.length_take]; omega
  have hP1 : Pcs W1 P (.slice (some ⟨pg, 0, none⟩) ps.length c) (ps.set i ⟨some ⟨g, 0, none⟩, pcc, es.take hf⟩) := by
    have h9 := h.put (w1 := w) (P' := P) (q := ⟨some ⟨g, 0, none⟩, pcc, es.take hf⟩) rfl hp (But.refl _ _) (by show Own layN _ _ 0 (.slice (some ⟨g, 0, none⟩) (es.take hf).length pcc) _; rw [htl]; exact hcutO) (.inl rfl) (fun _ e => e) (fun b e => (show P b from (Option.some.inj (show some g = some b from e)) ▸ hgP))
    rw [hW1]
    have e9 : (⟨some ⟨g, 0, none⟩, pcc, es.take hf⟩ : Pc).val = .slice (some ⟨g, 0, none⟩) hf pcc := by show Value.slice _ (es.take hf).length _ = _; rw [htl]
    rw [e9] at h9
    exact h9.below (Below.refl _ _).drew
  have hB1 : But (fun b => b = pg) w W1 := by rw [hW1]; exact ((But.refl (fun b => b = pg) w).setCell ⟨pg, i, none⟩ (fun _ => rfl) _).drew
  have hrow1 : TRow layN W1 (some ⟨g, hf * 2, none⟩) (n - hf) (es.drop hf) := by
    have h8 := (hOp.row rfl).drop hf (by omega)
    rw [Nat.zero_add] at h8
    rw [hnn]
    refine h8.but hB1 (fun b off _ e e2 => ?_)
    have e3 : g = b := by injection e with e; injection e
    have e4 : b = pg := e2
    exact pcs_ne h rfl (h.each _ hpm) (by show some g = some pg; rw [e3, e4])
  have hrb1 : W1.heap[rb]? = some (.cells cs T (0, 0)) := (hB1.block rb (Array.getElem?_eq_some_iff.1 hrb).1 hne).trans hrb
  have c0 : w.cell? ⟨rb, ro, none⟩ = some (.slice (some ⟨pg, 0, none⟩) ps.length c) := cell_at hrb hro
  have c1 : w.cell? ⟨pg, i, none⟩ = some (.slice (some ⟨g, 0, none⟩) n pcc) := by
    have h9 : w.cell? ⟨pg, i * 1 + 0, none⟩ = some (.slice (some ⟨g, 0, none⟩) es.length pcc) := h.own.cell hp 0 rfl
    rw [Nat.mul_one, Nat.add_zero, ← hnn] at h9; exact h9
  have f1 : w.frozen? ⟨pg, i, none⟩ = false := h.own.frozen i
  have hiI : (i : Int) < (ps.length : Int) := by omega
  have hnI : (n : Int) ≤ 513 := by have : es.length ≤ 513 := hl2; omega
  have hhI : (hf : Int) ≤ (n : Int) := by omega
  have hhN : hf ≤ n := by omega
  have hnc : (n : Int) ≤ (pcc : Int) := by omega
  have hx1 : ¬ (pcc = hf) := by omega
  have HP1 := hide hP1
  have HIl := hide hil
  have HPgl := hide hpgl
  have HGP := hide hgP
  have HPG := hide hpgP
  have HNeq := hide hne
  have HLt := hide (Nat.lt_of_lt_of_le (Array.getElem?_eq_some_iff.1 hrb).1 hB1.size)
  have HLt0 := hide (Array.getElem?_eq_some_iff.1 hrb).1
  have HW1 := hide hW1
  have HRo := hide hro
  have HB1 := hide hB1
  have HRow := hide hrow1
  have HRb := hide hrb1
  have HE := hide hhf
  have HNN := hide hnn
  have HPr := hide hPr
  have HN := hide hn
  have HH := hide h
  have hlN : ps.length = ps.length := rfl
  clear hOp hgc hgc' hel hcutO hl hl2 h hp hpm hrb hro hW1 hP1 hB1 hrow1 hrb1 hhf hnn hn htl hgP hpgP hPr hpv hcap
  go_enter Tryz.func119, Tryz.ntmps119
  go_wp2_with fail
  go_region
  rw [← HW1.out]
  have d0 : W1.cell? ⟨rb, ro, none⟩ = some (.slice (some ⟨pg, 0, none⟩) ps.length c) := cell_at HRb.out HRo.out
  have fd : W1.frozen? ⟨rb, ro, none⟩ = false := frz HRb.out ro
  clear c0 c1 f1 HW1
  go_wp2_with fail
  have HC := hide (cloE_any g (hf * 2) (n - hf) (pcc - hf) (es.drop hf) W1.drew (HRow.out.below (Below.refl _ _).drew) (by omega))
  have HNe2 : Hid (∀ w2 : World, Below W1.heap.size W1 w2 → (Value.slice (some ⟨pg, 0, none⟩) ps.length c).ownBlock ≠ some w2.heap.size) := hide (fun w2 b2 e => by
    have e9 : pg = w2.heap.size := Option.some.inj (show some pg = some w2.heap.size from e)
    have := HPgl.out; have := HB1.out.size; have := b2.size; omega)
  have HI : Hid (∀ (w2 : World) (v2 : Value), Own layN 148 w2 W1.heap.size v2 (es.drop hf) → Below W1.heap.size W1 w2 → ∀ (a2 : Option Addr) (c2 : Nat), v2 = .slice a2 (es.drop hf).length c2 → _) := hide (fun w2 v2 o2 b2 a2 c2 hv2 => insP_any (.slice (some ⟨pg, 0, none⟩) ps.length c) (ps.set i ⟨some ⟨g, 0, none⟩, pcc, es.take hf⟩) (i + 1) ⟨a2, c2, es.drop hf⟩ w2.heap.size (w2.alloc (.cells #[v2] 149)) ((HP1.out.below b2).below (below_alloc1 w2 _)).own (by rw [List.length_set]; have := HIl.out; omega) (by rw [hv2]; exact heap_new _ _) (HNe2.out w2 b2) (by rw [List.length_set]; have := HN.out; omega))
  have hwf : IntKind.i64.wrap (hf : Int) = (hf : Int) := by rw [IntKind.wrap_i64]; omega
  have hw0 : (0 : Int) ≤ (hf : Int) := by omega
  have hwi : IntKind.i64.wrap ((i : Int) + 1) = (i : Int) + 1 := by have := HN.out; rw [IntKind.wrap_i64]; omega
  have ei : ((i + 1 : Nat) : Int) = (i : Int) + 1 := by omega
  rw [ei] at HI
  clear HRow HNN hnc
  --HAND
  refine wp_region_noPanic ?_
  refine wp_region_held_drew (S := fun _ => True) (by kernel_rfl) (trivial) (fun hHeld => ?_)
  refine wpAnyH_take (i := 0) (oi := _) (v := ?v0) rfl (by kernel_rfl) (by kernel_rfl) (by kernel_rfl) (fun _ _ _ h => h) (Or.inl ⟨by rfl, ?y0⟩) (by assumption) ?r0
  case y0 => (intro w' hSw; (try dsimp only at hSw); go_simp; try with_reducible rfl)
  refine wpAnyH_take (i := 1) (oi := _) (v := ?v1) rfl (by kernel_rfl) (by kernel_rfl) (by kernel_rfl) (fun _ _ _ h => h) (Or.inl ⟨by rfl, ?y1⟩) (by assumption) ?r1
  case y1 => (intro w' hSw; (try dsimp only at hSw); go_simp; try with_reducible rfl)
  refine wpAnyH_take (i := 2) (oi := _) (v := ?v2) rfl (by kernel_rfl) (by kernel_rfl) (by kernel_rfl) (fun _ _ _ h => h) (Or.inl ⟨by rfl, ?y2⟩) (by assumption) ?r2
  case y2 => (intro w' hSw; (try dsimp only at hSw); go_simp; try with_reducible rfl)
  refine wpAnyH_take (i := 3) (oi := _) (v := ?v3) rfl (by kernel_rfl) (by kernel_rfl) (by kernel_rfl) (fun _ _ _ h => h) (Or.inl ⟨by rfl, ?y3⟩) (by assumption) ?r3
  case y3 => (intro w' hSw; (try dsimp only at hSw); go_simp; try with_reducible rfl)
  refine wpAnyH_take (i := 5) (oi := _) (v := ?v5) rfl (by kernel_rfl) (by kernel_rfl) (by kernel_rfl) (fun _ _ _ h => h) (Or.inl ⟨by rfl, ?y5⟩) (by assumption) ?r5
  case y5 => (intro w' hSw; (try dsimp only at hSw); go_simp; try with_reducible rfl)
  refine wpAnyH_take (i := 6) (oi := _) (v := ?v6) rfl (by kernel_rfl) (by kernel_rfl) (by kernel_rfl) (fun _ _ _ h => h) (Or.inl ⟨by rfl, ?y6⟩) (by assumption) ?r6
  case y6 => (intro w' hSw; (try dsimp only at hSw); go_simp; try with_reducible rfl)
  refine wpAnyH_take (i := 7) (oi := _) (v := ?v7) rfl (by kernel_rfl) (by kernel_rfl) (by kernel_rfl) (fun _ _ _ h => h) (Or.inl ⟨by rfl, ?y7⟩) (by assumption) ?r7
  case y7 => (intro w' hSw; (try dsimp only at hSw); go_simp; try with_reducible rfl)
  refine wpAnyH_take (i := 8) (oi := _) (v := ?v8) rfl (by kernel_rfl) (by kernel_rfl) (by kernel_rfl) (fun _ _ _ h => h) (Or.inl ⟨by rfl, ?y8⟩) (by assumption) ?r8
  case y8 => (intro w' hSw; (try dsimp only at hSw); go_simp; try with_reducible rfl)
  refine wpAnyH_take (i := 9) (oi := _) (v := ?v9) rfl (by kernel_rfl) (by kernel_rfl) (by kernel_rfl) (fun _ _ _ h => h) (Or.inl ⟨by rfl, ?y9⟩) (by assumption) ?r9
  case y9 => (intro w' hSw; (try dsimp only at hSw); go_simp; try with_reducible rfl)
  refine wpAnyH_take (i := 10) (oi := _) (v := ?v10) rfl (by kernel_rfl) (by kernel_rfl) (by kernel_rfl) (fun _ _ _ h => h) (Or.inl ⟨by rfl, ?y10⟩) (by assumption) ?r10
  case y10 => (intro w' hSw; (try dsimp only at hSw); go_simp; try with_reducible rfl)
  refine wpAnyH_take (i := 11) (oi := _) (v := ?v11) rfl (by kernel_rfl) (by kernel_rfl) (by kernel_rfl) (fun _ _ _ h => h) (Or.inl ⟨by rfl, ?y11⟩) (by assumption) ?r11
  case y11 => (intro w' hSw; (try dsimp only at hSw); go_simp; try with_reducible rfl)
  refine wpAnyH_ready (rs := [4, 12]) (by kernel_rfl) (by simp) ?_
  refine AllReadyH.cons (o := _) rfl (fun KK hKK => ?_) (AllReadyH.cons (o := _) rfl (fun KK hKK => ?_) AllReadyH.nil)
  · go_simp
    refine hKK.out _ _ (trivial) (fun hHeld4 => ?_)
    clear hKK KK
    refine wpAnyH_ready (rs := [12]) (by kernel_rfl) (by simp) ?_
    refine AllReadyH.cons (o := _) rfl (fun KK hKK => ?_) AllReadyH.nil
    go_simp
    refine HC.out.mono ?_
    rintro e w2 ⟨v2, rfl, o2, b2⟩
    obtain ⟨a2, c2, hv2, _, _⟩ := own_form o2
    obtain ⟨m2, hm2⟩ : ∃ m2, m2 = (es.drop hf).length := ⟨_, rfl⟩
    rw [← hm2] at hv2
    subst hv2
    have HM2 := hide hm2
    clear hm2
    have k2 : w2.cell? ⟨rb, ro, none⟩ = some (.slice (some ⟨pg, 0, none⟩) ps.length c) := (b2.cell (p := ⟨rb, ro, none⟩) HLt.out).trans d0
    have hs2 : rb < w2.heap.size := Nat.lt_of_lt_of_le HLt.out b2.size
    have O2 := hide o2
    have B2 := hide (Below.on ((Below.refl W1.heap.size W1).drew) b2)
    clear o2 b2
    refine hKK.out _ _ (trivial) (fun hHeld12 => ?_)
    clear hKK KK
    refine wpAnyH_ready (rs := [13]) (by kernel_rfl) (by simp) ?_
    refine AllReadyH.cons (o := _) rfl (fun KK hKK => ?_) AllReadyH.nil
    go_simp
    refine hKK.out _ _ (trivial) (fun hHeld13 => ?_)
    clear hKK KK
    refine wpAnyH_ready (rs := [14]) (by kernel_rfl) (by simp) ?_
    refine AllReadyH.cons (o := _) rfl (fun KK hKK => ?_) AllReadyH.nil
    go_simp
    refine (HI.out w2 _ O2.out B2.out a2 c2 (by rw [HM2.out])).mono ?_
    rintro e w3 ⟨v3, rfl, o3, b3, l3⟩
    obtain ⟨a3, n3, c3, rfl⟩ : ∃ a3 n3 c3, v3 = .slice a3 n3 c3 := by obtain ⟨a3, c3, hv3, _, _⟩ := own_form o3; exact ⟨a3, _, c3, hv3⟩
    have r3 : w3.heap[rb]? = some (.cells cs T (0, 0)) := (b3.block rb (by rw [World.size_alloc]; omega) (fun e => HNeq.out (by injection e with e; exact e.symm))).trans ((heap_alloc_old _ hs2).trans ((B2.out.block rb HLt.out).trans HRb.out))
    have k3 : w3.cell? ⟨rb, ro, none⟩ = some (.slice (some ⟨pg, 0, none⟩) ps.length c) := cell_at r3 HRo.out
    have f3 := frz r3 ro
    have O3 := hide o3
    have B3 := hide b3
    have L3 := hide l3
    have R3 := hide r3
    clear o3 b3 l3 r3
    refine hKK.out _ _ (trivial) (fun hHeld14 => ?_)
    clear hKK KK
    refine wpAnyH_take (i := 15) (oi := _) (v := ?v15_4) rfl (by kernel_rfl) (by kernel_rfl) (by kernel_rfl) (fun _ _ _ h => h) (Or.inl ⟨by rfl, ?y15_4⟩) (by assumption) ?r15_4
    case y15_4 => (intro w' hSw; (try dsimp only at hSw); go_simp; try with_reducible rfl)
    refine wpAnyH_take (i := 16) (oi := _) (v := ?v16_4) rfl (by kernel_rfl) (by kernel_rfl) (by kernel_rfl) (fun _ _ _ h => h) (Or.inl ⟨by rfl, ?y16_4⟩) (by assumption) ?r16_4
    case y16_4 => (intro w' hSw; (try dsimp only at hSw); go_simp; try with_reducible rfl)
    refine wpAnyH_ready (rs := [17]) (by kernel_rfl) (by simp) ?_
    refine AllReadyH.cons (o := _) rfl (fun KK hKK => ?_) AllReadyH.nil
    go_simp
    refine hKK.out _ _ (trivial) (fun hHeld17 => ?_)
    clear hKK KK
    refine wpAnyH_done (by kernel_rfl) ?_ _
    refine NoPanic.normal ?_
    go_wp2
    go_end0
    exact ⟨rfl, by rw [← HE.out]; exact halve_end HP1.out HB1.out O2.out B2.out (by rw [HM2.out]) O3.out B3.out L3.out R3.out HLt0.out HPr.out HPG.out HIl.out rfl⟩
  · go_simp
    refine HC.out.mono ?_
    rintro e w2 ⟨v2, rfl, o2, b2⟩
    obtain ⟨a2, c2, hv2, _, _⟩ := own_form o2
    obtain ⟨m2, hm2⟩ : ∃ m2, m2 = (es.drop hf).length := ⟨_, rfl⟩
    rw [← hm2] at hv2
    subst hv2
    have HM2 := hide hm2
    clear hm2
    have k2 : w2.cell? ⟨rb, ro, none⟩ = some (.slice (some ⟨pg, 0, none⟩) ps.length c) := (b2.cell (p := ⟨rb, ro, none⟩) HLt.out).trans d0
    have hs2 : rb < w2.heap.size := Nat.lt_of_lt_of_le HLt.out b2.size
    have O2 := hide o2
    have B2 := hide (Below.on ((Below.refl W1.heap.size W1).drew) b2)
    clear o2 b2
    refine hKK.out _ _ (trivial) (fun hHeld12 => ?_)
    clear hKK KK
    refine wpAnyH_ready (rs := [4, 13]) (by kernel_rfl) (by simp) ?_
    refine AllReadyH.cons (o := _) rfl (fun KK hKK => ?_) (AllReadyH.cons (o := _) rfl (fun KK hKK => ?_) AllReadyH.nil)
    · go_simp
      refine hKK.out _ _ (trivial) (fun hHeld4 => ?_)
      clear hKK KK
      refine wpAnyH_ready (rs := [13]) (by kernel_rfl) (by simp) ?_
      refine AllReadyH.cons (o := _) rfl (fun KK hKK => ?_) AllReadyH.nil
      go_simp
      refine hKK.out _ _ (trivial) (fun hHeld13 => ?_)
      clear hKK KK
      refine wpAnyH_ready (rs := [14]) (by kernel_rfl) (by simp) ?_
      refine AllReadyH.cons (o := _) rfl (fun KK hKK => ?_) AllReadyH.nil
      go_simp
      refine (HI.out w2 _ O2.out B2.out a2 c2 (by rw [HM2.out])).mono ?_
      rintro e w3 ⟨v3, rfl, o3, b3, l3⟩
      obtain ⟨a3, n3, c3, rfl⟩ : ∃ a3 n3 c3, v3 = .slice a3 n3 c3 := by obtain ⟨a3, c3, hv3, _, _⟩ := own_form o3; exact ⟨a3, _, c3, hv3⟩
      have r3 : w3.heap[rb]? = some (.cells cs T (0, 0)) := (b3.block rb (by rw [World.size_alloc]; omega) (fun e => HNeq.out (by injection e with e; exact e.symm))).trans ((heap_alloc_old _ hs2).trans ((B2.out.block rb HLt.out).trans HRb.out))
      have k3 : w3.cell? ⟨rb, ro, none⟩ = some (.slice (some ⟨pg, 0, none⟩) ps.length c) := cell_at r3 HRo.out
      have f3 := frz r3 ro
      have O3 := hide o3
      have B3 := hide b3
      have L3 := hide l3
      have R3 := hide r3
      clear o3 b3 l3 r3
      refine hKK.out _ _ (trivial) (fun hHeld14 => ?_)
      clear hKK KK
      refine wpAnyH_take (i := 15) (oi := _) (v := ?v15_9) rfl (by kernel_rfl) (by kernel_rfl) (by kernel_rfl) (fun _ _ _ h => h) (Or.inl ⟨by rfl, ?y15_9⟩) (by assumption) ?r15_9
      case y15_9 => (intro w' hSw; (try dsimp only at hSw); go_simp; try with_reducible rfl)
      refine wpAnyH_take (i := 16) (oi := _) (v := ?v16_9) rfl (by kernel_rfl) (by kernel_rfl) (by kernel_rfl) (fun _ _ _ h => h) (Or.inl ⟨by rfl, ?y16_9⟩) (by assumption) ?r16_9
      case y16_9 => (intro w' hSw; (try dsimp only at hSw); go_simp; try with_reducible rfl)
      refine wpAnyH_ready (rs := [17]) (by kernel_rfl) (by simp) ?_
      refine AllReadyH.cons (o := _) rfl (fun KK hKK => ?_) AllReadyH.nil
      go_simp
      refine hKK.out _ _ (trivial) (fun hHeld17 => ?_)
      clear hKK KK
      refine wpAnyH_done (by kernel_rfl) ?_ _
      refine NoPanic.normal ?_
      go_wp2
      go_end0
      exact ⟨rfl, by rw [← HE.out]; exact halve_end HP1.out HB1.out O2.out B2.out (by rw [HM2.out]) O3.out B3.out L3.out R3.out HLt0.out HPr.out HPG.out HIl.out rfl⟩
    · go_simp
      refine hKK.out _ _ (trivial) (fun hHeld13 => ?_)
      clear hKK KK
      refine wpAnyH_ready (rs := [4]) (by kernel_rfl) (by simp) ?_
      refine AllReadyH.cons (o := _) rfl (fun KK hKK => ?_) AllReadyH.nil
      go_simp
      refine hKK.out _ _ (trivial) (fun hHeld4 => ?_)
      clear hKK KK
      refine wpAnyH_ready (rs := [14]) (by kernel_rfl) (by simp) ?_
      refine AllReadyH.cons (o := _) rfl (fun KK hKK => ?_) AllReadyH.nil
      go_simp
      refine (HI.out w2 _ O2.out B2.out a2 c2 (by rw [HM2.out])).mono ?_
      rintro e w3 ⟨v3, rfl, o3, b3, l3⟩
      obtain ⟨a3, n3, c3, rfl⟩ : ∃ a3 n3 c3, v3 = .slice a3 n3 c3 := by obtain ⟨a3, c3, hv3, _, _⟩ := own_form o3; exact ⟨a3, _, c3, hv3⟩
      have r3 : w3.heap[rb]? = some (.cells cs T (0, 0)) := (b3.block rb (by rw [World.size_alloc]; omega) (fun e => HNeq.out (by injection e with e; exact e.symm))).trans ((heap_alloc_old _ hs2).trans ((B2.out.block rb HLt.out).trans HRb.out))
      have k3 : w3.cell? ⟨rb, ro, none⟩ = some (.slice (some ⟨pg, 0, none⟩) ps.length c) := cell_at r3 HRo.out
      have f3 := frz r3 ro
      have O3 := hide o3
      have B3 := hide b3
      have L3 := hide l3
      have R3 := hide r3
      clear o3 b3 l3 r3
      refine hKK.out _ _ (trivial) (fun hHeld14 => ?_)
      clear hKK KK
      refine wpAnyH_take (i := 15) (oi := _) (v := ?v15_13) rfl (by kernel_rfl) (by kernel_rfl) (by kernel_rfl) (fun _ _ _ h => h) (Or.inl ⟨by rfl, ?y15_13⟩) (by assumption) ?r15_13
      case y15_13 => (intro w' hSw; (try dsimp only at hSw); go_simp; try with_reducible rfl)
      refine wpAnyH_take (i := 16) (oi := _) (v := ?v16_13) rfl (by kernel_rfl) (by kernel_rfl) (by kernel_rfl) (fun _ _ _ h => h) (Or.inl ⟨by rfl, ?y16_13⟩) (by assumption) ?r16_13
      case y16_13 => (intro w' hSw; (try dsimp only at hSw); go_simp; try with_reducible rfl)
      refine wpAnyH_ready (rs := [17]) (by kernel_rfl) (by simp) ?_
      refine AllReadyH.cons (o := _) rfl (fun KK hKK => ?_) AllReadyH.nil
      go_simp
      refine hKK.out _ _ (trivial) (fun hHeld17 => ?_)
      clear hKK KK
      refine wpAnyH_done (by kernel_rfl) ?_ _
      refine NoPanic.normal ?_
      go_wp2
      go_end0
      exact ⟨rfl, by rw [← HE.out]; exact halve_end HP1.out HB1.out O2.out B2.out (by rw [HM2.out]) O3.out B3.out L3.out R3.out HLt0.out HPr.out HPG.out HIl.out rfl⟩
end Go.Proofs.YtafkammiehcdjaaGreatDoor
