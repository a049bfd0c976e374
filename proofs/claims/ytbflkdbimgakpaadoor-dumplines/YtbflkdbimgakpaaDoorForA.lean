/-
  A node is put behind the others.
-/
import Derived.Test.YtbflkdbimgakpaaDoorFor
import Derived.Deep.RegionLaw
namespace Go.Proofs.YtbflkdbimgakpaaDoor.E6
open Go.RowKit Go.Maps Go.Shelf
theorem Tryd.infoNode : (Tryd.prog.info? 107).map (fun i => (i.zero, i.size, i.bytes)) = some (some (.agg #[.int .i64 0, .int .i64 0]), 2, 16) := by kernel_rfl
theorem step_nodes {ops : Array Oper} {o : Oper} {a : Act} {w : World} {K : Act → World → Prop} {Q : Exit → Act → World → Prop} {E : Prop}
    (hg : o.guard = none) (s x : Operand) (hop : o.op = Op.call { callee := Callee.builtin Builtin.append, args := #[s, x], argTypes := #[92, 92] })
    (v : Value) (N : List Nd) (hs : a.eval s = v) (hown : w.ownsRow 0 107 2 v N.length (ncells N))
    (X : Nat) (n : Nd) (hx : a.eval x = .slice (some ⟨X, 0, none⟩) 1 1) (c0 : w.cell? ⟨X, 0, none⟩ = some (.int .i64 (n.1 : Int))) (c1 : w.cell? ⟨X, 1, none⟩ = some (.int .i64 (n.2 : Int)))
    (hb : (N.length : Int) ≤ 4294967296)
    (h : ∀ (a' : Option Addr) (c' : Nat) w', w'.ownsRow 0 107 2 (.slice a' (N.length + 1) c') (N.length + 1) (ncells (N ++ [n])) → w.grownBy w' v.ownBlock → ((Value.slice a' (N.length + 1) c').ownBlock = v.ownBlock ∨ (Value.slice a' (N.length + 1) c').ownBlock = some w.heap.size) → K (a.put o.dst (.slice a' (N.length + 1) c')) w') :
    if Region.wanted o (yielded ops a.tmps) = true then Oper.wp Tryd.prog o a w K Q else E := by
  have hw : Region.wanted o (yielded ops a.tmps) = true := by simp [Region.wanted, hg]
  rw [if_pos hw]
  obtain ⟨i0, hi, hz0, hz1, hz2⟩ := info_parts Tryd.infoNode
  obtain ⟨v', w', hr, h2, h3, _, h5⟩ := run_append_own_at (P := Tryd.prog) w 0 92 o.type 107 i0 _ 2 16 Tryd.underlying92 hi hz0 hz1 hz2 rfl (by decide) v N.length _ hown ⟨X, 0, none⟩ 1 1 [.int .i64 (n.1 : Int), .int .i64 (n.2 : Int)] rfl
    (by intro j u hu
        match j, hu with
        | 0, hu => simp at hu; subst hu; simpa [Addr.add] using c0
        | 1, hu => simp at hu; subst hu; simpa [Addr.add] using c1)
    (by intro u hu; simp at hu; rcases hu with rfl | rfl <;> rfl) (by unfold maxLen; omega) (by omega) (Nat.zero_le _)
  obtain ⟨a', c', rfl⟩ := own_form h2
  unfold Oper.wp execOp
  simp only [hop, resolve, invoke, builtin, Sem.run_bind, Sem.run_pure, Result.andThen_ok, List.map_toArray, List.map_cons, List.map_nil, hs, hx, hr]
  exact h a' c' w' (by rw [ncells_snoc]; exact h2) h3 h5
theorem own_drew {w : World} {base : Nat} {e : TypeId} {size n : Nat} {v : Value} {xs : List Value} (h : w.ownsRow base e size v n xs) : w.drew.ownsRow base e size v n xs := h
/-- The forest behind put. -/
theorem put_f_end {w w2 w3 : World} {fb tb : Nat} {S : Nat → Prop} {N : List Nd} {v v' : Value} {mb : Nat} {n : Nd} {D : DataW Unit} (h : Frs w fb tb S N v mb) (h1 : n.1 ≤ 262144) (h2 : n.2 ≤ 65536) (hin : n ∉ N) (hl : N.length < 262144) (hi : Fids D N)
    (o2 : w2.ownsRow 0 107 2 v' (N.length + 1) (ncells (N ++ [n]))) (k2 : But (fun k => v.ownBlock = some k) w w2) (hloc : v'.ownBlock = v.ownBlock ∨ ∃ g, v'.ownBlock = some g ∧ w.heap.size ≤ g ∧ g < w2.heap.size)
    (m3 : w3.ownsMap Tryd.prog 107 (plainElem Tryd.prog 3) mb (N.length + 1) (D.put (nkey n) (.lit (.int .i64 ((N.length + 1 : Nat) : Int))))) (g3 : (w2.setCell ⟨fb, 1, none⟩ v').grownBy w3 (some mb)) :
    Frs w3 fb tb (fun k => S k ∨ (w.heap.size ≤ k ∧ k < w3.heap.size)) (N ++ [n]) v' mb ∧ But S w w3 ∧ w3.cell? ⟨fb, 1, none⟩ = some v' := by
  have hsz : w2.heap.size ≤ w3.heap.size := by have := g3.size; simpa [size_set] using this
  have b2 : w2.heap[fb]? = some (.cells #[.pointer (some ⟨tb, 0, none⟩), v, .map (some mb)] 94 (0, 0)) := (k2.block fb h.lt (fun e => h.row_fb fb e rfl)).trans h.blk
  have b2' : (w2.setCell ⟨fb, 1, none⟩ v').heap[fb]? = some (.cells #[.pointer (some ⟨tb, 0, none⟩), v', .map (some mb)] 94 (0, 0)) := heap_setCell_same w2 fb 1 _ 94 _ b2
  have b3 : w3.heap[fb]? = some (.cells #[.pointer (some ⟨tb, 0, none⟩), v', .map (some mb)] 94 (0, 0)) := (g3.block fb (Array.getElem?_eq_some_iff.1 b2').1 (by simpa using h.map_fb)).trans b2'
  have hm3 := m3
  obtain ⟨es, cl, hmb, _⟩ := hm3
  have hnew : ∀ g, v'.ownBlock = some g → (S g ∨ (w.heap.size ≤ g ∧ g < w3.heap.size)) ∧ g ≠ fb ∧ g ≠ mb := by
    intro g hg
    rcases hloc with e | ⟨g', e, hge, hlt⟩
    · rw [e] at hg; exact ⟨.inl (h.rowS g hg), h.row_fb g hg, h.row_map g hg⟩
    · rw [e] at hg; cases hg
      have hml : mb < w.heap.size := by obtain ⟨D, ⟨es, cl, hh, _⟩, _⟩ := h.ids; exact (Array.getElem?_eq_some_iff.1 hh).1
      exact ⟨.inr ⟨hge, by omega⟩, by have := h.lt; omega, by omega⟩
  have o3 : w3.ownsRow 0 107 2 v' (N.length + 1) (ncells (N ++ [n])) := by
    refine own_but (S := fun k => k = fb ∨ k = mb) o2 ?_ (fun g e => by have := hnew g e; rintro (rfl | rfl) <;> simp_all)
    exact ((But.refl (fun k => k = fb ∨ k = mb) w2).setCell ⟨fb, 1, none⟩ (fun _ => .inl rfl) _).grown g3 (by intro k _ e; cases e; exact .inr rfl)
  refine ⟨⟨b3, by simpa using o3, ⟨_, by simpa using m3, hi.put ⟨by omega, by omega⟩ hin⟩, .inl h.inS, .inl h.mapS, fun g e => (hnew g e).1, by simp; omega, ?_⟩, ?_, ?_⟩
  · intro m hm
    rcases List.mem_append.1 hm with hm | hm
    · exact h.small m hm
    · simp at hm; subst hm; exact ⟨h1, h2⟩
  · refine ((k2.mono (T := S) (fun k e => h.rowS k e)).setCell ⟨fb, 1, none⟩ (fun _ => h.inS) _).grown g3 ?_
    intro k _ e; cases e; exact h.mapS
  · rw [cell_of_row w3 fb 1 _ 94 (0, 0) b3]; rfl
theorem own_lt {w : World} {base n : Nat} {e : TypeId} {size : Nat} {v : Value} {xs : List Value} (h : w.ownsRow base e size v n xs) : ∀ g, v.ownBlock = some g → g < w.heap.size := by
  intro g hg
  rcases h.2 with ⟨hv, _⟩ | ⟨g', cap, cur, hv, hb, hh, _⟩
  · rw [hv] at hg; simp [Value.ownBlock] at hg
  · rw [hv] at hg; simp [Value.ownBlock] at hg; subst hg; exact (Array.getElem?_eq_some_iff.1 hh).1
theorem put_f {w : World} {fb tb : Nat} {S : Nat → Prop} {N : List Nd} {v : Value} {mb : Nat} (h : Frs w fb tb S N v mb) (n : Nd) (h1 : n.1 ≤ 262144) (h2 : n.2 ≤ 65536) (hin : n ∉ N) (hl : N.length < 262144) :
    Calls Tryd.prog 72 #[.pointer (some ⟨fb, 0, none⟩), nodeV n] w fun e w' => e = .returned (.int .i64 ((N.length + 1 : Nat) : Int)) ∧ (∃ v', Frs w' fb tb (fun k => S k ∨ (w.heap.size ≤ k ∧ k < w'.heap.size)) (N ++ [n]) v' mb) ∧ But S w w' := by
  have c1 := h.cell1
  have c2 := h.cell2
  obtain ⟨a, c, rfl⟩ := own_form h.own
  have H : Hid (Frs w fb tb S N (.slice a N.length c) mb) := h
  have hl' : (N.length : Int) < 262144 := by omega
  have HL : Hid (N.length < 262144) := hl
  have H1 : Hid (n.1 ≤ 262144 ∧ n.2 ≤ 65536) := ⟨h1, h2⟩
  have hfb := h.lt
  obtain ⟨D, hm, hi⟩ := h.ids
  have HI : Hid (Fids D N) := hi
  have hml : mb < w.heap.size := by obtain ⟨es, cl, hh, _⟩ := hm; exact (Array.getElem?_eq_some_iff.1 hh).1
  have hnode : Hid (∃ node : Obj, node = .cells #[.int .i64 (n.1 : Int), .int .i64 (n.2 : Int)] 107 (0, 0)) := ⟨_, rfl⟩
  have oA : Hid (((w.alloc (.cells #[.int .i64 (n.1 : Int), .int .i64 (n.2 : Int)] 107)).alloc (.cells #[.int .i64 (n.1 : Int), .int .i64 (n.2 : Int)] 107)).drew.ownsRow 0 107 2 (.slice a N.length c) N.length (ncells N)) := own_drew ((h.own.alloc _).alloc _)
  have kA : Hid (But (fun k => (Value.slice a N.length c).ownBlock = some k) w ((w.alloc (.cells #[.int .i64 (n.1 : Int), .int .i64 (n.2 : Int)] 107)).alloc (.cells #[.int .i64 (n.1 : Int), .int .i64 (n.2 : Int)] 107)).drew) := (((But.refl _ w).alloc _).alloc _).drew
  have sA : Hid (((w.alloc (.cells #[.int .i64 (n.1 : Int), .int .i64 (n.2 : Int)] 107)).alloc (.cells #[.int .i64 (n.1 : Int), .int .i64 (n.2 : Int)] 107)).drew.heap.size = w.heap.size + 2) := hide (by simp)
  have hrow := heap_alloc_new (w.alloc (.cells #[.int .i64 (n.1 : Int), .int .i64 (n.2 : Int)] 107)) (.cells #[.int .i64 (n.1 : Int), .int .i64 (n.2 : Int)] 107 (0, 0))
  rw [World.size_alloc] at hrow
  have x0 : Hid (((w.alloc (.cells #[.int .i64 (n.1 : Int), .int .i64 (n.2 : Int)] 107)).alloc (.cells #[.int .i64 (n.1 : Int), .int .i64 (n.2 : Int)] 107)).drew.cell? ⟨w.heap.size + 1, 0, none⟩ = some (.int .i64 (n.1 : Int))) := hide (by
    have := cell_of_row _ (w.heap.size + 1) 0 _ 107 (0, 0) hrow; exact this)
  have x1 : Hid (((w.alloc (.cells #[.int .i64 (n.1 : Int), .int .i64 (n.2 : Int)] 107)).alloc (.cells #[.int .i64 (n.1 : Int), .int .i64 (n.2 : Int)] 107)).drew.cell? ⟨w.heap.size + 1, 1, none⟩ = some (.int .i64 (n.2 : Int))) := hide (by
    have := cell_of_row _ (w.heap.size + 1) 1 _ 107 (0, 0) hrow; exact this)
  have r0 : Hid (((w.alloc (.cells #[.int .i64 (n.1 : Int), .int .i64 (n.2 : Int)] 107)).alloc (.cells #[.int .i64 (n.1 : Int), .int .i64 (n.2 : Int)] 107)).drew.heap[w.heap.size]? = some (.cells #[.int .i64 (n.1 : Int), .int .i64 (n.2 : Int)] 107 (0, 0))) := hide ((Below.heap_alloc _ _ _ (by simp)).trans (heap_alloc_new w _))
  have HM : Hid (w.ownsMap Tryd.prog 107 (plainElem Tryd.prog 3) mb N.length D) := hm
  have HN : Hid (n ∉ N) := hin
  clear h hrow hi hm hl hin hnode h1 h2
  unfold nodeV
  go_enter Tryd.func72, Tryd.ntmps72
  go_wp2
  go_region_law (refine step_nodes rfl (.tmp 9) (.tmp 11) rfl (.slice a N.length c) N (by simp [Act.eval]) oA.out (w.heap.size + 1) n (by simp [Act.eval]) x0.out x1.out (by omega) ?_
                 intro a' c' w2 o2 g2 hloc
                 have k2 : Hid (But (fun k => (Value.slice a N.length c).ownBlock = some k) w w2) := hide (kA.out.grown g2 (fun k _ e => e))
                 have hb2 : Hid (w2.heap[fb]? = some (.cells #[.pointer (some ⟨tb, 0, none⟩), .slice a N.length c, .map (some mb)] 94 (0, 0))) := hide ((k2.out.block fb hfb (fun e => H.out.row_fb fb e rfl)).trans H.out.blk)
                 have d1 : w2.cell? ⟨fb, 1, none⟩ = some (.slice a N.length c) := by rw [cell_of_row w2 fb 1 _ 94 (0, 0) hb2.out]; rfl
                 have d2 : w2.cell? ⟨fb, 2, none⟩ = some (.map (some mb)) := by rw [cell_of_row w2 fb 2 _ 94 (0, 0) hb2.out]; rfl
                 have f2 : ∀ j, w2.frozen? ⟨fb, j, none⟩ = false := fun j => frozen_of_row w2 fb j _ 94 hb2.out
                 have hr2 : Hid (w2.heap[w.heap.size]? = some (.cells #[.int .i64 (n.1 : Int), .int .i64 (n.2 : Int)] 107 (0, 0))) := hide ((g2.block _ (Array.getElem?_eq_some_iff.1 r0.out).1 (fun e => by have := own_lt H.out.own _ e.symm; omega)).trans r0.out)
                 have y0 : w2.cell? ⟨w.heap.size, 0, none⟩ = some (.int .i64 (n.1 : Int)) := by rw [cell_of_row w2 w.heap.size 0 _ 107 (0, 0) hr2.out]; rfl
                 have y1 : w2.cell? ⟨w.heap.size, 1, none⟩ = some (.int .i64 (n.2 : Int)) := by rw [cell_of_row w2 w.heap.size 1 _ 107 (0, 0) hr2.out]; rfl
                 have O2 : Hid _ := hide o2
                 have HLo : Hid ((Value.slice a' (N.length + 1) c').ownBlock = (Value.slice a N.length c).ownBlock ∨ ∃ g, (Value.slice a' (N.length + 1) c').ownBlock = some g ∧ w.heap.size ≤ g ∧ g < w2.heap.size) := hide (by
                   rcases hloc with e | e
                   · exact .inl e
                   · rw [sA.out] at e
                     refine .inr ⟨_, e, by omega, ?_⟩
                     rcases o2.2 with ⟨hv, _⟩ | ⟨g', cap, cur, hv, hb, hh, _⟩
                     · rw [hv] at e; simp [Value.ownBlock] at e
                     · rw [hv] at e; simp [Value.ownBlock] at e; rw [← e]; exact (Array.getElem?_eq_some_iff.1 hh).1)
                 clear o2 g2 hloc)
  all_goals
    have hmap2 : w2.ownsMap Tryd.prog 107 (plainElem Tryd.prog 3) mb N.length D := map_but HM.out k2.out (fun e => H.out.row_map mb e rfl)
    have hmap3 : (w2.setCell ⟨fb, 1, none⟩ (.slice a' (N.length + 1) c')).drew.ownsMap Tryd.prog 107 (plainElem Tryd.prog 3) mb N.length D :=
      map_but (S := fun k => k = fb) hmap2 (((But.refl (fun k => k = fb) w2).setCell ⟨fb, 1, none⟩ (fun _ => rfl) _).drew) (fun e => H.out.map_fb e.symm)
    obtain ⟨w3, hrun, m3, g3⟩ := hmap3.update lawNode Tryd.underlying91 (by unfold maxLen; omega) (keyNode (n := n) (by have := H1.out; omega) (by have := H1.out; omega)) (plainElem_int Tryd.underlying3 (a := ((N.length + 1 : Nat) : Int)) (WalkArith.wf_i64 (by omega)))
    have E := put_f_end H.out H1.out.1 H1.out.2 HN.out HL.out HI.out O2.out k2.out HLo.out m3 ⟨g3.os, g3.tape, g3.output, g3.size, g3.block⟩
    have d3 := E.2.2
    have E1 : Hid _ := hide E.1
    have E2 : Hid _ := hide E.2.1
    rw [show ((N.length + 1 : Nat) : Int) = (N.length : Int) + 1 from rfl] at hrun
    unfold nodeV at hrun
    clear E m3 g3 hmap2 hmap3
    go_wp2
    go_region
    all_goals
      go_wp2
      go_ret
      exact ⟨rfl, ⟨_, E1.out⟩, E2.out⟩
end Go.Proofs.YtbflkdbimgakpaaDoor.E6
