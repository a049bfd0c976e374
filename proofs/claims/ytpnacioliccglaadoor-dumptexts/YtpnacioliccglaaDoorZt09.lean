import Derived.Test.YtpnacioliccglaaDoorZt08
import Derived.Deep.RegionLaw
import Derived.Deep.RegionHeld3
set_option maxRecDepth 8000
set_option maxHeartbeats 8000000
set_option linter.unusedVariables false
/-
  A node is put behind the others.
-/
namespace Go.Proofs.YtpnacioliccglaaDoor.E6
open Go.RowKit Go.Maps Go.Shelf
theorem Tryd.infoNode : (Tryd.prog.info? 125).map (fun i => (i.zero, i.size, i.bytes)) = some (some (.agg #[.int .i64 0, .int .i64 0]), 2, 16) := by kernel_rfl
theorem step_nodes {ops : Array Oper} {o : Oper} {a : Act} {w : World} {K : Act → World → Prop} {Q : Exit → Act → World → Prop} {E : Prop}
    (hg : o.guard = none) (s x : Operand) (hop : o.op = Op.call { callee := Callee.builtin Builtin.append, args := #[s, x], argTypes := #[111, 111] })
    (v : Value) (N : List Nd) (hs : a.eval s = v) (hown : w.ownsRow 0 125 2 v N.length (ncells N))
    (X : Nat) (n : Nd) (hx : a.eval x = .slice (some ⟨X, 0, none⟩) 1 1) (c0 : w.cell? ⟨X, 0, none⟩ = some (.int .i64 (n.1 : Int))) (c1 : w.cell? ⟨X, 1, none⟩ = some (.int .i64 (n.2 : Int)))
    (hb : (N.length : Int) ≤ 4294967296)
    (h : ∀ (a' : Option Addr) (c' : Nat) w', w'.ownsRow 0 125 2 (.slice a' (N.length + 1) c') (N.length + 1) (ncells (N ++ [n])) → w.grownBy w' v.ownBlock → ((Value.slice a' (N.length + 1) c').ownBlock = v.ownBlock ∨ (Value.slice a' (N.length + 1) c').ownBlock = some w.heap.size) → K (a.put o.dst (.slice a' (N.length + 1) c')) w') :
    if Region.wanted o (yielded ops a.tmps) = true then Oper.wp Tryd.prog o a w K Q else E := by
  have hw : Region.wanted o (yielded ops a.tmps) = true := by simp [Region.wanted, hg]
  rw [if_pos hw]
  obtain ⟨i0, hi, hz0, hz1, hz2⟩ := info_parts Tryd.infoNode
  obtain ⟨v', w', hr, h2, h3, _, h5⟩ := run_append_own_at (P := Tryd.prog) w 0 111 o.type 125 i0 _ 2 16 Tryd.underlying111 hi hz0 hz1 hz2 rfl (by decide) v N.length _ hown ⟨X, 0, none⟩ 1 1 [.int .i64 (n.1 : Int), .int .i64 (n.2 : Int)] rfl
    (by intro j u hu
        match j, hu with
        | 0, hu => simp at hu; subst hu; simpa [Addr.add] using c0
        | 1, hu => simp at hu; subst hu; simpa [Addr.add] using c1)
    (by intro u hu; simp at hu; rcases hu with rfl | rfl <;> rfl) (by unfold maxLen; omega) (by omega) (Nat.zero_le _)
  obtain ⟨a', c', rfl⟩ := own_form h2
  unfold Oper.wp execOp
  simp only [hop, resolve, invoke, builtin, Sem.run_bind, Sem.run_pure, Result.andThen_ok, List.map_toArray, List.map_cons, List.map_nil, hs, hx, hr]
  exact h a' c' w' (by rw [ncells_snoc]; exact h2) h3 h5
theorem own_drew {w : World} {base : Nat} {e : TypeId} {size n : Nat} {v : Value} {xs : List Value} (h : w.ownsRow base e size v n xs) : w.drew.ownsRow base e size v n xs := h
/-- The forest behind put. -/
theorem put_f_end {w w2 w3 : World} {fb tb : Nat} {S : Nat → Prop} {N : List Nd} {v v' : Value} {mb : Nat} {n : Nd} {D : DataW Unit} (h : Frs w fb tb S N v mb) (h1 : n.1 ≤ 262144) (h2 : n.2 ≤ 65536) (hin : n ∉ N) (hl : N.length < 262144) (hi : Fids D N)
    (o2 : w2.ownsRow 0 125 2 v' (N.length + 1) (ncells (N ++ [n]))) (k2 : But (fun k => v.ownBlock = some k) w w2) (hloc : v'.ownBlock = v.ownBlock ∨ ∃ g, v'.ownBlock = some g ∧ w.heap.size ≤ g ∧ g < w2.heap.size)
    (m3 : w3.ownsMap Tryd.prog 125 (plainElem Tryd.prog 3) mb (N.length + 1) (D.put (nkey n) (.lit (.int .i64 ((N.length + 1 : Nat) : Int))))) (g3 : (w2.setCell ⟨fb, 1, none⟩ v').grownBy w3 (some mb)) :
    Frs w3 fb tb (fun k => S k ∨ (w.heap.size ≤ k ∧ k < w3.heap.size)) (N ++ [n]) v' mb ∧ But S w w3 ∧ w3.cell? ⟨fb, 1, none⟩ = some v' := by
  have hsz : w2.heap.size ≤ w3.heap.size := by have := g3.size; simpa [size_set] using this
  have b2 : w2.heap[fb]? = some (.cells #[.pointer (some ⟨tb, 0, none⟩), v, .map (some mb)] 113 (0, 0)) := (k2.block fb h.lt (fun e => h.row_fb fb e rfl)).trans h.blk
  have b2' : (w2.setCell ⟨fb, 1, none⟩ v').heap[fb]? = some (.cells #[.pointer (some ⟨tb, 0, none⟩), v', .map (some mb)] 113 (0, 0)) := heap_setCell_same w2 fb 1 _ 113 _ b2
  have b3 : w3.heap[fb]? = some (.cells #[.pointer (some ⟨tb, 0, none⟩), v', .map (some mb)] 113 (0, 0)) := (g3.block fb (Array.getElem?_eq_some_iff.1 b2').1 (by simpa using h.map_fb)).trans b2'
  have hm3 := m3
  obtain ⟨es, cl, hmb, _⟩ := hm3
  have hnew : ∀ g, v'.ownBlock = some g → (S g ∨ (w.heap.size ≤ g ∧ g < w3.heap.size)) ∧ g ≠ fb ∧ g ≠ mb := by
    intro g hg
    rcases hloc with e | ⟨g', e, hge, hlt⟩
    · rw [e] at hg; exact ⟨.inl (h.rowS g hg), h.row_fb g hg, h.row_map g hg⟩
    · rw [e] at hg; cases hg
      have hml : mb < w.heap.size := by obtain ⟨D, ⟨es, cl, hh, _⟩, _⟩ := h.ids; exact (Array.getElem?_eq_some_iff.1 hh).1
      exact ⟨.inr ⟨hge, by omega⟩, by have := h.lt; omega, by omega⟩
  have o3 : w3.ownsRow 0 125 2 v' (N.length + 1) (ncells (N ++ [n])) := by
    refine own_but (S := fun k => k = fb ∨ k = mb) o2 ?_ (fun g e => by have := hnew g e; rintro (rfl | rfl) <;> simp_all)
    exact ((But.refl (fun k => k = fb ∨ k = mb) w2).setCell ⟨fb, 1, none⟩ (fun _ => .inl rfl) _).grown g3 (by intro k _ e; cases e; exact .inr rfl)
  refine ⟨⟨b3, by simpa using o3, ⟨_, by simpa using m3, hi.put ⟨by omega, by omega⟩ hin⟩, .inl h.inS, .inl h.mapS, fun g e => (hnew g e).1, by simp; omega, ?_⟩, ?_, ?_⟩
  · intro m hm
    rcases List.mem_append.1 hm with hm | hm
    · exact h.small m hm
    · simp at hm; subst hm; exact ⟨h1, h2⟩
  · refine ((k2.mono (T := S) (fun k e => h.rowS k e)).setCell ⟨fb, 1, none⟩ (fun _ => h.inS) _).grown g3 ?_
    intro k _ e; cases e; exact h.mapS
  · rw [cell_of_row w3 fb 1 _ 113 (0, 0) b3]; rfl
theorem own_lt {w : World} {base n : Nat} {e : TypeId} {size : Nat} {v : Value} {xs : List Value} (h : w.ownsRow base e size v n xs) : ∀ g, v.ownBlock = some g → g < w.heap.size := by
  intro g hg
  rcases h.2 with ⟨hv, _⟩ | ⟨g', cap, cur, hv, hb, hh, _⟩
  · rw [hv] at hg; simp [Value.ownBlock] at hg
  · rw [hv] at hg; simp [Value.ownBlock] at hg; subst hg; exact (Array.getElem?_eq_some_iff.1 hh).1
theorem put_f {w : World} {fb tb : Nat} {S : Nat → Prop} {N : List Nd} {v : Value} {mb : Nat} (h : Frs w fb tb S N v mb) (n : Nd) (h1 : n.1 ≤ 262144) (h2 : n.2 ≤ 65536) (hin : n ∉ N) (hl : N.length < 262144) :
    Calls Tryd.prog 82 #[.pointer (some ⟨fb, 0, none⟩), nodeV n] w fun e w' => e = .returned (.int .i64 ((N.length + 1 : Nat) : Int)) ∧ (∃ v', Frs w' fb tb (fun k => S k ∨ (w.heap.size ≤ k ∧ k < w'.heap.size)) (N ++ [n]) v' mb) ∧ But S w w' := by
  have c1 := h.cell1
  have c2 := h.cell2
  obtain ⟨a, c, rfl⟩ := own_form h.own
  have H : Hid (Frs w fb tb S N (.slice a N.length c) mb) := h
  have hl' : (N.length : Int) < 262144 := by omega
  have HL : Hid (N.length < 262144) := hl
  have H1 : Hid (n.1 ≤ 262144 ∧ n.2 ≤ 65536) := ⟨h1, h2⟩
  have hfb := h.lt
  obtain ⟨D, hm, hi⟩ := h.ids
  have HI : Hid (Fids D N) := hi
  have hml : mb < w.heap.size := by obtain ⟨es, cl, hh, _⟩ := hm; exact (Array.getElem?_eq_some_iff.1 hh).1
  have hnode : Hid (∃ node : Obj, node = .cells #[.int .i64 (n.1 : Int), .int .i64 (n.2 : Int)] 125 (0, 0)) := ⟨_, rfl⟩
  have oA : Hid (((w.alloc (.cells #[.int .i64 (n.1 : Int), .int .i64 (n.2 : Int)] 125)).alloc (.cells #[.int .i64 (n.1 : Int), .int .i64 (n.2 : Int)] 125)).drew.ownsRow 0 125 2 (.slice a N.length c) N.length (ncells N)) := own_drew ((h.own.alloc _).alloc _)
  have kA : Hid (But (fun k => (Value.slice a N.length c).ownBlock = some k) w ((w.alloc (.cells #[.int .i64 (n.1 : Int), .int .i64 (n.2 : Int)] 125)).alloc (.cells #[.int .i64 (n.1 : Int), .int .i64 (n.2 : Int)] 125)).drew) := (((But.refl _ w).alloc _).alloc _).drew
  have sA : Hid (((w.alloc (.cells #[.int .i64 (n.1 : Int), .int .i64 (n.2 : Int)] 125)).alloc (.cells #[.int .i64 (n.1 : Int), .int .i64 (n.2 : Int)] 125)).drew.heap.size = w.heap.size + 2) := hide (by simp)
  have hrow := heap_alloc_new (w.alloc (.cells #[.int .i64 (n.1 : Int), .int .i64 (n.2 : Int)] 125)) (.cells #[.int .i64 (n.1 : Int), .int .i64 (n.2 : Int)] 125 (0, 0))
  rw [World.size_alloc] at hrow
  have x0 : Hid (((w.alloc (.cells #[.int .i64 (n.1 : Int), .int .i64 (n.2 : Int)] 125)).alloc (.cells #[.int .i64 (n.1 : Int), .int .i64 (n.2 : Int)] 125)).drew.cell? ⟨w.heap.size + 1, 0, none⟩ = some (.int .i64 (n.1 : Int))) := hide (by
    have := cell_of_row _ (w.heap.size + 1) 0 _ 125 (0, 0) hrow; exact this)
  have x1 : Hid (((w.alloc (.cells #[.int .i64 (n.1 : Int), .int .i64 (n.2 : Int)] 125)).alloc (.cells #[.int .i64 (n.1 : Int), .int .i64 (n.2 : Int)] 125)).drew.cell? ⟨w.heap.size + 1, 1, none⟩ = some (.int .i64 (n.2 : Int))) := hide (by
    have := cell_of_row _ (w.heap.size + 1) 1 _ 125 (0, 0) hrow; exact this)
  have r0 : Hid (((w.alloc (.cells #[.int .i64 (n.1 : Int), .int .i64 (n.2 : Int)] 125)).alloc (.cells #[.int .i64 (n.1 : Int), .int .i64 (n.2 : Int)] 125)).drew.heap[w.heap.size]? = some (.cells #[.int .i64 (n.1 : Int), .int .i64 (n.2 : Int)] 125 (0, 0))) := hide ((Below.heap_alloc _ _ _ (by simp)).trans (heap_alloc_new w _))
  have HM : Hid (w.ownsMap Tryd.prog 125 (plainElem Tryd.prog 3) mb N.length D) := hm
  have HN : Hid (n ∉ N) := hin
  clear h hrow hi hm hl hin hnode h1 h2
  unfold nodeV
  go_enter Tryd.func82, Tryd.ntmps82
  go_wp2
  go_region_law (refine step_nodes rfl (.tmp 9) (.tmp 11) rfl (.slice a N.length c) N (by simp [Act.eval]) oA.out (w.heap.size + 1) n (by simp [Act.eval]) x0.out x1.out (by omega) ?_
                 intro a' c' w2 o2 g2 hloc
                 have k2 : Hid (But (fun k => (Value.slice a N.length c).ownBlock = some k) w w2) := hide (kA.out.grown g2 (fun k _ e => e))
                 have hb2 : Hid (w2.heap[fb]? = some (.cells #[.pointer (some ⟨tb, 0, none⟩), .slice a N.length c, .map (some mb)] 113 (0, 0))) := hide ((k2.out.block fb hfb (fun e => H.out.row_fb fb e rfl)).trans H.out.blk)
                 have d1 : w2.cell? ⟨fb, 1, none⟩ = some (.slice a N.length c) := by rw [cell_of_row w2 fb 1 _ 113 (0, 0) hb2.out]; rfl
                 have d2 : w2.cell? ⟨fb, 2, none⟩ = some (.map (some mb)) := by rw [cell_of_row w2 fb 2 _ 113 (0, 0) hb2.out]; rfl
                 have f2 : ∀ j, w2.frozen? ⟨fb, j, none⟩ = false := fun j => frozen_of_row w2 fb j _ 113 hb2.out
                 have hr2 : Hid (w2.heap[w.heap.size]? = some (.cells #[.int .i64 (n.1 : Int), .int .i64 (n.2 : Int)] 125 (0, 0))) := hide ((g2.block _ (Array.getElem?_eq_some_iff.1 r0.out).1 (fun e => by have := own_lt H.out.own _ e.symm; omega)).trans r0.out)
                 have y0 : w2.cell? ⟨w.heap.size, 0, none⟩ = some (.int .i64 (n.1 : Int)) := by rw [cell_of_row w2 w.heap.size 0 _ 125 (0, 0) hr2.out]; rfl
                 have y1 : w2.cell? ⟨w.heap.size, 1, none⟩ = some (.int .i64 (n.2 : Int)) := by rw [cell_of_row w2 w.heap.size 1 _ 125 (0, 0) hr2.out]; rfl
                 have O2 : Hid _ := hide o2
                 have HLo : Hid ((Value.slice a' (N.length + 1) c').ownBlock = (Value.slice a N.length c).ownBlock ∨ ∃ g, (Value.slice a' (N.length + 1) c').ownBlock = some g ∧ w.heap.size ≤ g ∧ g < w2.heap.size) := hide (by
                   rcases hloc with e | e
                   · exact .inl e
                   · rw [sA.out] at e
                     refine .inr ⟨_, e, by omega, ?_⟩
                     rcases o2.2 with ⟨hv, _⟩ | ⟨g', cap, cur, hv, hb, hh, _⟩
                     · rw [hv] at e; simp [Value.ownBlock] at e
                     · rw [hv] at e; simp [Value.ownBlock] at e; rw [← e]; exact (Array.getElem?_eq_some_iff.1 hh).1)
                 clear o2 g2 hloc)
  all_goals
    have hmap2 : w2.ownsMap Tryd.prog 125 (plainElem Tryd.prog 3) mb N.length D := map_but HM.out k2.out (fun e => H.out.row_map mb e rfl)
    have hmap3 : (w2.setCell ⟨fb, 1, none⟩ (.slice a' (N.length + 1) c')).drew.ownsMap Tryd.prog 125 (plainElem Tryd.prog 3) mb N.length D :=
      map_but (S := fun k => k = fb) hmap2 (((But.refl (fun k => k = fb) w2).setCell ⟨fb, 1, none⟩ (fun _ => rfl) _).drew) (fun e => H.out.map_fb e.symm)
    obtain ⟨w3, hrun, m3, g3⟩ := hmap3.update lawNode Tryd.underlying110 (by unfold maxLen; omega) (keyNode (n := n) (by have := H1.out; omega) (by have := H1.out; omega)) (plainElem_int Tryd.underlying3 (a := ((N.length + 1 : Nat) : Int)) (WalkArith.wf_i64 (by omega)))
    have E := put_f_end H.out H1.out.1 H1.out.2 HN.out HL.out HI.out O2.out k2.out HLo.out m3 ⟨g3.os, g3.tape, g3.output, g3.size, g3.block⟩
    have d3 := E.2.2
    have E1 : Hid _ := hide E.1
    have E2 : Hid _ := hide E.2.1
    rw [show ((N.length + 1 : Nat) : Int) = (N.length : Int) + 1 from rfl] at hrun
    unfold nodeV at hrun
    clear E m3 g3 hmap2 hmap3
    go_wp2
    go_region
    all_goals
      go_wp2
      go_ret
      exact ⟨rfl, ⟨_, E1.out⟩, E2.out⟩
end Go.Proofs.YtpnacioliccglaaDoor.E6
/-
  slices.Contains of strings; known.
-/
namespace Go.Proofs.YtpnacioliccglaaDoor.E6
open Go.RowKit Go.Maps Go.Shelf
theorem str_eq {a b : ByteArray} (h : (a.toList == b.toList) = true) : a = b := by
  have e := eq_of_beq h
  rw [ByteArray.toList_eq, ByteArray.toList_eq] at e
  exact skey_inj (by unfold skey; rw [e])
theorem str_ne {a b : ByteArray} (h : (a.toList == b.toList) = false) : a ≠ b := by
  intro e; subst e; simp at h
theorem isIn_take_succ {L : List ByteArray} {s : ByteArray} {k : Nat} (hk : k < L.length) (hne : L.getD k ByteArray.empty ≠ s) (h : isIn (L.take k) s = false) : isIn (L.take (k + 1)) s = false := by
  rw [isIn_not] at h ⊢
  intro hm
  rw [List.take_add_one, List.mem_append] at hm
  rcases hm with hm | hm
  · exact h hm
  · rw [List.getElem?_eq_getElem hk] at hm
    simp at hm
    exact hne (by rw [List.getD_eq_getElem?_getD, List.getElem?_eq_getElem hk]; simp [hm])
theorem getD_get {L : List ByteArray} {k : Nat} (h : k < L.length) : L[k]? = some (L.getD k ByteArray.empty) := by
  rw [List.getD_eq_getElem?_getD]; simp [h]
theorem SRow.take {w : World} {a : Option Addr} {n : Nat} {L : List ByteArray} (h : SRow w a n L) {k : Nat} (hk : k ≤ n) : SRow w a k (L.take k) := by
  refine ⟨by have := h.len; simp; omega, ?_⟩
  rcases h.cells with h0 | ⟨b, off, ha, hc⟩
  · exact .inl (by omega)
  · refine .inr ⟨b, off, ha, fun i hi => ?_⟩
    rw [hc i (by omega)]
    simp [List.getD_eq_getElem?_getD, hi]
theorem SRow.but {T : Nat → Prop} {w w' : World} {a : Option Addr} {n : Nat} {L : List ByteArray} (h : SRow w a n L) (hb : But T w w') (hT : ∀ b off, a = some ⟨b, off, none⟩ → n ≠ 0 → ¬ T b) : SRow w' a n L := by
  refine ⟨h.len, ?_⟩
  by_cases hn : n = 0
  · exact .inl hn
  · rcases h.cells with h0 | ⟨b, off, ha, hc⟩
    · exact absurd h0 hn
    · refine .inr ⟨b, off, ha, fun i hi => ?_⟩
      rw [← hc i hi]
      have hlt : b < w.heap.size := by
        have := hc i hi
        unfold World.cell? at this
        cases hh : w.heap[b]? with
        | none => simp [hh] at this
        | some o => exact (Array.getElem?_eq_some_iff.1 hh).1
      have := hb.block b hlt (hT b off ha hn)
      unfold World.cell?
      rw [this]
theorem SRow.drewN {w : World} {a : Option Addr} {n : Nat} {L : List ByteArray} (h : SRow w a n L) (j : Nat) : SRow (w.drewN j) a n L :=
  h.but (T := fun _ => False) (But.of_below (below_drewN (Below.refl _ _) j)) (fun _ _ _ _ e => e)
theorem Tab.drewN {w : World} {tb : Nat} {S : Nat → Prop} {L : List ByteArray} {v mv : Value} (h : Tab w tb S L v mv) (j : Nat) : Tab (w.drewN j) tb S L v mv :=
  h.kept (T := fun _ => False) (But.of_below (below_drewN (Below.refl _ _) j)) (fun _ _ e => e)
theorem Frs.drewN {w : World} {fb tb : Nat} {S : Nat → Prop} {N : List Nd} {v : Value} {mb : Nat} (h : Frs w fb tb S N v mb) (j : Nat) : Frs (w.drewN j) fb tb S N v mb :=
  h.kept (T := fun _ => False) (But.of_below (below_drewN (Below.refl _ _) j)) (fun _ _ e => e)
theorem cell_drewN {w : World} {a : Addr} {x : Value} (h : w.cell? a = some x) (j : Nat) : (w.drewN j).cell? a = some x := by
  have := (below_drewN (Below.refl (a.block + 1) w) j).cell (p := a) (by omega)
  rw [this]; exact h
def indexV (L : List ByteArray) (s : ByteArray) : Int := if isIn L s then (place L s : Int) else -1
theorem place_take {L : List ByteArray} {s : ByteArray} {k : Nat} (hk : L[k]? = some s) (h : isIn (L.take k) s = false) : place L s = k := by
  induction L generalizing k with
  | nil => simp at hk
  | cons x l ih =>
    cases k with
    | zero => simp at hk; subst hk; simp [place]
    | succ k =>
      have hne : x.data ≠ s.data := by
        intro e
        have : x = s := by cases x; cases s; subst e; rfl
        subst this
        rw [isIn_not] at h
        exact h (by simp)
      unfold place
      rw [if_neg hne, ih (by simpa using hk)]
      rw [isIn_not] at h ⊢
      intro hm; exact h (by simp [hm])
theorem index_any (a : Option Addr) (n c : Nat) (L : List ByteArray) (s : ByteArray) (w : World) (hr : SRow w a n L) (hn : (n : Int) ≤ 9223372036854775806) :
    Calls Tryd.prog 121 #[.slice a n c, .string s] w fun e w' => e = .returned (.int .i64 (indexV L s)) ∧ w' = w := by
  have HR : Hid (SRow w a n L) := hr
  have hl := hr.len
  clear hr
  go_enter Tryd.func121, Tryd.ntmps121
  go_wp2
  go_loopw [8] (fun i wr => ∃ k : Nat, k ≤ n ∧ i = .int .i64 k ∧ wr = w ∧ isIn (L.take k) s = false) (fun i _ => n - (intOf i).toNat)
  case atStart => exact ⟨0, Nat.zero_le _, rfl, rfl, rfl⟩
  case round =>
    obtain ⟨k, hk, rfl, rfl, he⟩ := hrel
    have HE : Hid (isIn (L.take k) s = false) := he
    clear he
    by_cases hlt : k < n
    · obtain ⟨bo, oo, rfl, hco⟩ := HR.out.at hlt
      have HX : Hid (if s.toList == (L.getD k ByteArray.empty).toList then indexV L s = (k : Int) else isIn (L.take (k + 1)) s = false) := hide (by
        cases hq : s.toList == (L.getD k ByteArray.empty).toList
        · exact isIn_take_succ (by omega) (fun e => str_ne hq e.symm) HE.out
        · have es := str_eq hq
          have hg : L[k]? = some s := by rw [es]; exact getD_get (by omega)
          show indexV L s = _
          unfold indexV
          rw [isIn_iff.2 (List.mem_of_getElem? hg), place_take hg HE.out]; rfl)
      generalize L.getD k ByteArray.empty = x at hco HX
      go_wp2
      · go_ret
        have := HX.out
        rw [if_pos ‹_›] at this
        exact ⟨by rw [this]; rfl, rfl⟩
      · have := HX.out
        rw [if_neg (by simp only [‹_ = false›]; decide)] at this
        exact ⟨⟨k + 1, by omega, by go_num, trivial, this⟩, by simp [intOf]; omega⟩
    · have HX : Hid (indexV L s = -1) := hide (by
        have e := HE.out
        rw [List.take_of_length_le (by omega)] at e
        unfold indexV; rw [e]; rfl)
      go_wp2
      go_ret
      exact ⟨by rw [HX.out]; rfl, rfl⟩
theorem contains_any (a : Option Addr) (n c : Nat) (L : List ByteArray) (s : ByteArray) (w : World) (hr : SRow w a n L) (hn : (n : Int) ≤ 9223372036854775806) :
    Calls Tryd.prog 103 #[.slice a n c, .string s] w fun e w' => e = .returned (.bool (isIn L s)) ∧ w' = w := by
  have HI : Hid _ := hide (index_any a n c L s w hr hn)
  have HX : Hid (decide (0 ≤ indexV L s) = isIn L s) := hide (by
    unfold indexV
    cases isIn L s <;> simp)
  have hb : -1 ≤ indexV L s := by unfold indexV; split <;> omega
  clear hr
  generalize indexV L s = i at HI HX hb
  generalize isIn L s = r at HX ⊢
  go_enter Tryd.func103, Tryd.ntmps103
  go_wp2_with fail
  refine HI.out.mono ?_
  rintro e w' ⟨rfl, rfl⟩
  go_wp2
  go_ret
  exact ⟨ret_bool (by rw [← HX.out]), rfl⟩
/-! ### known -/
/-- The number of the longest outer part that has one, and what is left, the outermost first. -/
def kn (L : List ByteArray) (N : List Nd) : Nat → List ByteArray → Nat × List ByteArray
  | id, [] => (id, [])
  | id, s :: r => if isIn L s = true ∧ nid N (id, place L s) ≠ 0 then kn L N (nid N (id, place L s)) r else (id, s :: r)
def restV (a : Option Addr) (c m : Nat) : Value := if m = 0 then .slice none 0 0 else .slice a m c
theorem take_rev {L : List ByteArray} {k : Nat} (h : k < L.length) : (L.take (k + 1)).reverse = L.getD k ByteArray.empty :: (L.take k).reverse := by
  rw [List.take_add_one, getD_get h]; simp
theorem known_any {w : World} {fb tb : Nat} {S T : Nat → Prop} {N : List Nd} {v : Value} {mb : Nat} {L : List ByteArray} {tv tm : Value} (hT : Tab w tb T L tv tm) (hF : Frs w fb tb S N v mb)
    (a : Option Addr) (n c : Nat) (ls : List ByteArray) (hr : SRow w a n ls) (hn : n ≤ 16) (hc : n ≤ c) (hz : ∀ s ∈ ls, s.size ≤ maxLen) :
    Calls Tryd.prog 78 #[.pointer (some ⟨fb, 0, none⟩), .slice a n c] w fun e w' => e = .returned (.tuple #[.int .i64 ((kn L N 0 ls.reverse).1 : Int), restV a c (kn L N 0 ls.reverse).2.length]) ∧ ∃ k, w' = w.drewN k := by
  have HT : Hid (Tab w tb T L tv tm) := hT
  have HF : Hid (Frs w fb tb S N v mb) := hF
  have HR : Hid (SRow w a n ls) := hr
  have HZ : Hid (∀ s ∈ ls, s.size ≤ maxLen) := hz
  have HL : Hid (ls.length = n) := hr.len
  have hn' : (n : Int) ≤ 16 := by omega
  clear hT hF hr hz
  go_enter Tryd.func78, Tryd.ntmps78
  go_wp2
  go_loopw [6, 7] (fun d i wr => ∃ k q id : Nat, k ≤ n ∧ i = .int .i64 k ∧ d = .int .i64 id ∧ id ≤ 262144 ∧ wr = w.drewN q ∧ kn L N 0 ls.reverse = kn L N id (ls.take k).reverse) (fun _ i _ => (intOf i).toNat)
  case atStart => exact ⟨n, 0, 0, Nat.le_refl _, rfl, rfl, by omega, rfl, by rw [List.take_of_length_le (by have := HL.out; omega)]⟩
  case round =>
    obtain ⟨k, q, id, hk, rfl, rfl, hid, hw, he⟩ := hrel
    have HW : Hid (wr = w.drewN q) := hw
    have HE : Hid _ := hide he
    have hTr : Hid (Tab wr tb T L tv tm) := hide (by rw [hw]; exact HT.out.drewN q)
    have hFr : Hid (Frs wr fb tb S N v mb) := hide (by rw [hw]; exact HF.out.drewN q)
    have hRr : Hid (SRow wr a n ls) := hide (by rw [hw]; exact HR.out.drewN q)
    have c0 := hFr.out.cell0
    have c2 := hFr.out.cell2
    clear hw he
    cases k with
    | zero =>
      have hX : Hid (kn L N 0 ls.reverse = (id, [])) := hide (by rw [HE.out]; rfl)
      go_wp2
      go_ret2
      exact ⟨by rw [hX.out]; rfl, q, HW.out⟩
    | succ k =>
      obtain ⟨bo, oo, ha, hco⟩ := hRr.out.at (i := k) (by omega)
      subst ha
      obtain ⟨s, hs⟩ : ∃ s, s = ls.getD k ByteArray.empty := ⟨_, rfl⟩
      have HS : Hid (s.size ≤ maxLen) := hide (by rw [hs]; exact HZ.out _ (List.mem_of_getElem? (getD_get (by have := HL.out; omega))))
      have HE2 : Hid (kn L N 0 ls.reverse = kn L N id (s :: (ls.take k).reverse)) := hide (by rw [HE.out, take_rev (by have := HL.out; omega), hs])
      rw [← hs] at hco
      have HD : Hid _ := hFr.out.ids
      obtain ⟨D, hm, hi⟩ := HD.out
      have HM : Hid (wr.ownsMap Tryd.prog 125 (plainElem Tryd.prog 3) mb N.length D) := hm
      have HI : Hid (Fids D N) := hi
      obtain ⟨fr, hfr⟩ : ∃ fr : Nat, fr = if isIn L s then place L s else 0 := ⟨_, rfl⟩
      have hfr' : Hid (fr ≤ 65536) := hide (by
        have := hTr.out.len
        rw [hfr]; split
        · rename_i hin; have := (List.getElem?_eq_some_iff.1 (place_get (isIn_iff.1 hin))).1; omega
        · omega)
      obtain ⟨b, hb⟩ : ∃ b, isIn L s = b := ⟨_, rfl⟩
      have HQ : Hid (∀ j, Calls Tryd.prog 100 #[.pointer (some ⟨tb, 0, none⟩), .string s] (wr.drewN j) fun e w' => e = .returned (.tuple #[.int .i64 (fr : Int), .bool b]) ∧ w' = wr.drewN j) := hide (fun j => by
        have := find_any (hTr.out.drewN j) s HS.out
        have e : lookV L s = .tuple #[.int .i64 (fr : Int), .bool b] := by unfold lookV; rw [hfr, ← hb]; split <;> rfl
        rwa [e] at this)
      have HK : Hid (kn L N 0 ls.reverse = if b = true ∧ nid N (id, fr) ≠ 0 then kn L N (nid N (id, fr)) (ls.take k).reverse else (id, s :: (ls.take k).reverse)) := hide (by
        rw [HE2.out, kn, ← hb, hfr]
        cases h : isIn L s <;> simp)
      have HKL : Hid ((ls.take k).length = k) := hide (by have := HL.out; simp; omega)
      have hfr2 : fr ≤ 65536 := hfr'.out
      clear hs hm hi HD HE HE2 hfr hb
      generalize hrest : (ls.take k).reverse = rest at HK
      have HRL : Hid (rest.length = k) := hide (by rw [← hrest, List.length_reverse]; exact HKL.out)
      have HRT : Hid ((ls.take k).reverse = rest) := hrest
      clear hrest HKL
      go_wp2
      go_quiet ((go_at_call 100; exact Calls.quiet_of_same (HQ.out _)))
      have c2' := cell_drewN c2 nq
      have HM' : Hid ((wr.drewN nq).ownsMap Tryd.prog 125 (plainElem Tryd.prog 3) mb N.length D) := hide (map_but HM.out (But.of_below (S := fun _ => False) (below_drewN (Below.refl _ _) nq)) (fun e => e))
      have HW' : Hid (∃ m, wr.drewN nq = w.drewN m) := hide ⟨q + nq, by rw [HW.out]; exact World.drewN_drewN _ _ _⟩
      generalize wr.drewN nq = W1 at HM' HW' c2' ⊢
      go_wp2_with (first | (at_lookup; refine wpList_lookup_own_int _ rfl _ _ 110 rfl 125 3 .i64 lawNode Tryd.underlying110 Tryd.underlying3 (zero3 _) mb N.length D rfl HM'.out _ _ rfl (keyNode (n := (id, fr)) (by dsimp only; omega) (by dsimp only; omega)) ?_; intro cc hat hwc; have hcc : cc = (nid N (id, fr) : Int) := by (rw [HI.out.num _ (by dsimp only; omega) (by dsimp only; omega)] at hat; simpa using hat.symm)) | go_in)
      · have HX : Hid (kn L N 0 ls.reverse = (id, s :: rest)) := hide (by rw [HK.out, if_neg]; rintro ⟨_, h⟩; simp_all)
        have hck : ((k : Int) + 1) ≤ c := by omega
        have hnk : ((k : Int) + 1).toNat = k + 1 := by omega
        go_quiet (fail)
        go_wp2
        go_ret2
        obtain ⟨m, hm⟩ := HW'.out
        exact ⟨by rw [HX.out]; simp [restV, HRL.out], m + nq, by rw [hm]; exact World.drewN_drewN _ _ _⟩
      · have hz : nid N (id, fr) ≠ 0 := by intro e; simp_all
        obtain ⟨m, hm⟩ := HW'.out
        refine ⟨⟨k, m, nid N (id, fr), by omega, rfl, rfl, Nat.le_trans (nid_le _ _) hFr.out.len, hm, ?_⟩, by simp [intOf]⟩
        rw [HK.out, if_pos ⟨‹b = true›, hz⟩, HRT.out]
      · have HX : Hid (kn L N 0 ls.reverse = (id, s :: rest)) := hide (by rw [HK.out, if_neg]; rintro ⟨h, _⟩; simp_all)
        have hck : ((k : Int) + 1) ≤ c := by omega
        have hnk : ((k : Int) + 1).toNat = k + 1 := by omega
        go_quiet (fail)
        go_wp2
        go_ret2
        obtain ⟨m, hm⟩ := HW'.out
        exact ⟨by rw [HX.out]; simp [restV, HRL.out], m + nq, by rw [hm]; exact World.drewN_drewN _ _ _⟩
end Go.Proofs.YtpnacioliccglaaDoor.E6
/-
  An event; the tables of package event.
-/
namespace Go.Proofs.YtpnacioliccglaaDoor.E6
open Go.RowKit Go.Maps Go.Shelf
def knames : List ByteArray := [⟨#[]⟩, ⟨#[114, 101, 97, 100]⟩, ⟨#[119, 114, 105, 116, 101]⟩, ⟨#[97, 99, 113, 117, 105, 114, 101]⟩, ⟨#[114, 101, 108, 101, 97, 115, 101]⟩, ⟨#[114, 97, 99, 113, 117, 105, 114, 101]⟩, ⟨#[114, 114, 101, 108, 101, 97, 115, 101]⟩, ⟨#[102, 111, 114, 107]⟩, ⟨#[106, 111, 105, 110]⟩, ⟨#[109, 97, 107, 101]⟩, ⟨#[115, 101, 110, 100]⟩, ⟨#[97, 99, 107]⟩, ⟨#[114, 101, 99, 118]⟩, ⟨#[99, 108, 111, 115, 101]⟩, ⟨#[97, 100, 100]⟩, ⟨#[119, 97, 105, 116]⟩, ⟨#[111, 110, 99, 101]⟩, ⟨#[108, 111, 97, 100]⟩, ⟨#[115, 116, 111, 114, 101]⟩, ⟨#[115, 119, 97, 112]⟩, ⟨#[97, 108, 108, 111, 99]⟩, ⟨#[102, 114, 101, 101]⟩, ⟨#[109, 97, 114, 107]⟩]
def ksorts : List Nat := [0, 2, 2, 0, 0, 0, 0, 4, 5, 6, 0, 0, 1, 0, 7, 0, 1, 0, 0, 0, 3, 3, 8]
def rlos : List Int := [0, 0, 1, 1, 1, 0, 0, 0, 0]
def rhis : List Int := [0, 1, 64, 65536, 65535, 65535, 65536, 4294967294, 18446744073709551615]
def kname (k : Nat) : ByteArray := knames.getD k ByteArray.empty
def ksort (k : Nat) : Nat := ksorts.getD k 0
def rlo (s : Nat) : Int := rlos.getD s 0
def rhi (s : Nat) : Int := rhis.getD s 0
/-- The tables lie in memory. -/
structure Kn (w : World) : Prop where
  name : ∀ k : Nat, k < 23 → w.cell? ⟨1, k * 2, none⟩ = some (.string (kname k))
  sort : ∀ k : Nat, k < 23 → w.cell? ⟨1, k * 2 + 1, none⟩ = some (.int .i64 (ksort k : Int))
/-- Both of them. -/
structure Kr (w : World) : Prop extends Kn w where
  lo : ∀ s : Nat, s < 9 → w.cell? ⟨2, s * 2, none⟩ = some (.int .u64 (rlo s))
  hi : ∀ s : Nat, s < 9 → w.cell? ⟨2, s * 2 + 1, none⟩ = some (.int .u64 (rhi s))
theorem Kn.below {w w' : World} (h : Kn w) {B : Nat} (hb : Below B w w') (hB : 1 < B) : Kn w' :=
  ⟨fun k hk => (hb.cell (p := ⟨1, k * 2, none⟩) hB).trans (h.name k hk), fun k hk => (hb.cell (p := ⟨1, k * 2 + 1, none⟩) hB).trans (h.sort k hk)⟩
theorem Kr.below {w w' : World} (h : Kr w) {B : Nat} (hb : Below B w w') (hB : 2 < B) : Kr w' :=
  ⟨h.toKn.below hb (by omega), fun k hk => (hb.cell (p := ⟨2, k * 2, none⟩) hB).trans (h.lo k hk), fun k hk => (hb.cell (p := ⟨2, k * 2 + 1, none⟩) hB).trans (h.hi k hk)⟩
theorem Kr.size {w : World} (h : Kr w) : 3 ≤ w.heap.size := World.block_lt_of_cell? w _ (h.lo 0 (by omega))
theorem kn_any (k : Int) (w : World) : Calls Tryd.prog 31 #[.int .i64 k] w fun e w' => e = .returned (.bool (decide (1 ≤ k ∧ k ≤ 22))) ∧ w' = w := by
  by_cases h1 : 1 ≤ k
  · by_cases h2 : k < 23
    · have e : decide (1 ≤ k ∧ k ≤ 22) = true := by simp; omega
      rw [e]
      go_enter Tryd.func31, Tryd.ntmps31
      go_wp2
      go_ret
      exact ⟨rfl, rfl⟩
    · have e : decide (1 ≤ k ∧ k ≤ 22) = false := by simp; omega
      rw [e]
      go_enter Tryd.func31, Tryd.ntmps31
      go_wp2
      go_ret
      exact ⟨rfl, rfl⟩
  · have e : decide (1 ≤ k ∧ k ≤ 22) = false := by simp; omega
    rw [e]
    go_enter Tryd.func31, Tryd.ntmps31
    go_wp2
    go_ret
    exact ⟨rfl, rfl⟩
end Go.Proofs.YtpnacioliccglaaDoor.E6
