import Derived.Test.YtpnacioliccglaaDoorZt06
set_option maxRecDepth 8000
set_option maxHeartbeats 8000000
set_option linter.unusedVariables false
/-
  A string is put into the table; Intern.
-/
namespace Go.Proofs.YtpnacioliccglaaDoor.E6
open Go.RowKit Go.Maps
theorem Tryd.info9 : (Tryd.prog.info? 9).map (fun i => (i.zero, i.size, i.bytes)) = some (some (.string ⟨#[]⟩), 1, 16) := by kernel_rfl
/-- 'append(l, s)' of one string in a new cell, l the call's own. -/
theorem append_str (w : World) {ops : Array Oper} {rest : List Oper} {o : Oper} {a : Act} {Q : Exit → Act → World → Prop} (hgd : o.guard = none) (s x : Operand)
    (ho : o.op = .call { callee := .builtin .append, args := #[s, x], argTypes := #[23, 23] }) (base : Nat)
    (v : Value) (L : List ByteArray) (hs : a.eval s = v) (hown : w.ownsRow base 9 1 v L.length (L.map Value.string))
    (X : Nat) (z : ByteArray) (hx : a.eval x = .slice (some ⟨X, 0, none⟩) 1 1) (hc : w.cell? ⟨X, 0, none⟩ = some (.string z))
    (hb : (L.length : Int) ≤ 4294967296) (hbase : base ≤ w.heap.size)
    (h : ∀ (a' : Option Addr) (c' : Nat) w', w'.ownsRow base 9 1 (.slice a' (L.length + 1) c') (L.length + 1) ((L ++ [z]).map Value.string) → w.grownBy w' v.ownBlock → ((Value.slice a' (L.length + 1) c').ownBlock = v.ownBlock ∨ (Value.slice a' (L.length + 1) c').ownBlock = some w.heap.size) → wpList Tryd.prog ops Q rest (a.put o.dst (.slice a' (L.length + 1) c')) w') : wpList Tryd.prog ops Q (o :: rest) a w := by
  obtain ⟨i0, hi, hz0, hz1, hz2⟩ := info_parts Tryd.info9
  refine wpList_append_own_at w hgd s x 23 ho base 9 i0 (.string ⟨#[]⟩) 1 16 Tryd.underlying23 hi hz0 hz1 hz2 rfl (by decide) v L.length _ hs hown ⟨X, 0, none⟩ 1 1 [.string z] hx rfl (by intro t u ht; match t, ht with | 0, ht => simp at ht; subst ht; simpa [Addr.add] using hc) (by intro u hu; simp at hu; subst hu; rfl) (by unfold maxLen; omega) (by omega) hbase ?_
  intro v' w' h1 h2 _ h3
  obtain ⟨a', c', rfl⟩ := own_form h1
  exact h a' c' w' (by rw [List.map_append]; exact h1) h2 h3
theorem cell_new (w : World) (u : Value) (t : TypeId) : (w.alloc (.cells #[u] t)).cell? ⟨w.heap.size, 0, none⟩ = some u := by rw [cell_of_row _ _ 0 _ t (0, 0) (heap_alloc_new w _)]; rfl
theorem ne_blocks {w : World} {a b : Nat} {x : Array Value} {t : TypeId} {f : Nat × Nat} {es : Array MapEntry} {cl : Nat} (h1 : w.heap[a]? = some (.cells x t f)) (h2 : w.heap[b]? = some (.map es cl)) : a ≠ b := by
  intro e; subst e; rw [h1] at h2; cases h2
theorem Tab.mono {w : World} {tb : Nat} {S T : Nat → Prop} {L : List ByteArray} {v mv : Value} (h : Tab w tb S L v mv) (hT : ∀ k, S k → T k) : Tab w tb T L v mv :=
  ⟨h.blk, h.own, h.ids.imp id fun ⟨mb, D, e, hs, r⟩ => ⟨mb, D, e, hT _ hs, r⟩, hT _ h.inS, fun g e => hT _ (h.rowS g e), h.nodup, h.small, h.len, h.sum⟩
theorem size_set (w : World) (a : Addr) (u : Value) : (w.setCell a u).heap.size = w.heap.size := by simp [World.setCell]
theorem Tab.row_tb {w : World} {tb : Nat} {S : Nat → Prop} {L : List ByteArray} {v mv : Value} (h : Tab w tb S L v mv) : ∀ g, v.ownBlock = some g → g ≠ tb := by
  intro g hg e
  rcases h.own.2 with ⟨hv, _⟩ | ⟨g', cap, cur, hv, hb, hh, _⟩
  · rw [hv] at hg; simp [Value.ownBlock] at hg
  · rw [hv] at hg; simp [Value.ownBlock] at hg; subst hg; subst e
    rw [h.blk] at hh; simp at hh
theorem own_map {w : World} {base n : Nat} {e : TypeId} {size : Nat} {v : Value} {xs : List Value} (h : w.ownsRow base e size v n xs) {mb : Nat} {es : Array MapEntry} {cl : Nat} (hm : w.heap[mb]? = some (.map es cl)) : ∀ g, v.ownBlock = some g → g ≠ mb := by
  intro g hg e
  rcases h.2 with ⟨hv, _⟩ | ⟨g', cap, cur, hv, hb, hh, _⟩
  · rw [hv] at hg; simp [Value.ownBlock] at hg
  · rw [hv] at hg; simp [Value.ownBlock] at hg; subst hg
    exact ne_blocks hh hm e
/-- The table behind put. -/
theorem put_end {w w1 w2 : World} {tb mb n : Nat} {S : Nat → Prop} {L : List ByteArray} {v v' mv0 : Value} {D : DataW Unit} {s : ByteArray} (h : Tab w tb S L v mv0) (hlt1 : w.heap.size ≤ w1.heap.size) (hSm : S mb ∨ (w.heap.size ≤ mb ∧ mb < w1.heap.size))
    (b1 : w1.heap[tb]? = some (.cells #[v, .map (some mb), .int .i64 (total L : Nat)] 116 (0, 0))) (hi : Ids D L) (hn : n ≤ L.length)
    (hm1 : w1.ownsMap Tryd.prog 9 (plainElem Tryd.prog 3) mb (n + 1) (D.put (skey s) (.lit (.int .i64 (L.length : Int))))) (hw1 : But S w w1) (o1 : w1.ownsRow 0 9 1 v L.length (L.map Value.string))
    (o2 : w2.ownsRow 0 9 1 v' (L.length + 1) ((L ++ [s]).map Value.string)) (g2 : (w1.alloc (.cells #[.string s] 9)).grownBy w2 v.ownBlock) (hloc : v'.ownBlock = v.ownBlock ∨ v'.ownBlock = some (w1.heap.size + 1))
    (hin : s ∉ L) (hs : (s.size : Int) ≤ 65536) (hl : L.length < 65536) (ht : total L + s.size ≤ 4194304) :
    Tab ((w2.setCell ⟨tb, 0, none⟩ v').setCell ⟨tb, 2, none⟩ (.int .i64 ((total L : Int) + s.size))) tb (fun k => S k ∨ (w.heap.size ≤ k ∧ k < w2.heap.size)) (L ++ [s]) v' (.map (some mb)) ∧ But S w ((w2.setCell ⟨tb, 0, none⟩ v').setCell ⟨tb, 2, none⟩ (.int .i64 ((total L : Int) + s.size))) := by
  have hsz : w1.heap.size + 1 ≤ w2.heap.size := by have := g2.size; simpa using this
  have hm1' := hm1
  obtain ⟨es, cl, hmb, _⟩ := hm1'
  have htm := ne_blocks b1 hmb
  have htl := (Array.getElem?_eq_some_iff.1 b1).1
  have hrt : ∀ g, v.ownBlock = some g → g ≠ tb := h.row_tb
  have hrm : ∀ g, v.ownBlock = some g → g ≠ mb := own_map o1 hmb
  have hmlt := (Array.getElem?_eq_some_iff.1 hmb).1
  have k2 : But (fun k => v.ownBlock = some k) w1 w2 := (But.refl _ w1).alloc _ |>.grown g2 (fun k _ e => e)
  have b2 : w2.heap[tb]? = some (.cells #[v, .map (some mb), .int .i64 (total L : Nat)] 116 (0, 0)) := (k2.block tb htl (fun e => hrt tb e rfl)).trans b1
  have hm2 := map_but hm1 k2 (fun e => hrm mb e rfl)
  have hv' : ∀ g, v'.ownBlock = some g → (v.ownBlock = some g ∨ g = w1.heap.size + 1) := by
    intro g hg
    rcases hloc with e | e
    · exact .inl (e.symm.trans hg)
    · rw [e] at hg; exact .inr (by cases hg; rfl)
  have hv't : ∀ g, v'.ownBlock = some g → g ≠ tb := by
    intro g hg
    rcases hv' g hg with e | e
    · exact hrt g e
    · omega
  have hlt2 := o2.lt
  have hS2 : But S w w2 := hw1.trans k2 (fun i _ e => h.rowS i e)
  have hT : But (fun k => k = tb) w2 ((w2.setCell ⟨tb, 0, none⟩ v').setCell ⟨tb, 2, none⟩ (.int .i64 ((total L : Int) + s.size))) :=
    ((But.refl (fun k => k = tb) w2).setCell ⟨tb, 0, none⟩ (fun _ => rfl) v').setCell ⟨tb, 2, none⟩ (fun _ => rfl) _
  refine ⟨⟨?_, by rw [List.length_append]; exact own_but o2 hT (fun g e => hv't g e), .inr ⟨mb, _, rfl, ?_, map_but (hm2.mono (by simp; omega)) hT (fun e => htm e.symm), hi.put hin⟩, .inl h.inS, ?_, ?_, ?_, ?_, ?_⟩, hS2.trans hT (fun i _ e => by subst e; exact h.inS)⟩
  · have e1 := heap_setCell_same w2 tb 0 _ 116 v' b2
    have e2 := heap_setCell_same _ tb 2 _ 116 (.int .i64 ((total L : Int) + s.size)) e1
    rw [e2, total_snoc, Int.natCast_add]; rfl
  · rcases hSm with e | e
    · exact .inl e
    · exact .inr ⟨e.1, by omega⟩
  · intro g hg
    rcases hv' g hg with e | e
    · exact .inl (h.rowS g e)
    · exact .inr ⟨by omega, (hlt2 g hg).2⟩
  · rw [List.nodup_append]; exact ⟨h.nodup, by simp, by intro x hx y hy; simp at hy; subst hy; exact fun e => hin (e ▸ hx)⟩
  · intro t ht; rcases List.mem_append.1 ht with ht | ht
    · exact h.small t ht
    · simp at ht; subst ht; omega
  · simp; omega
  · rw [total_snoc]; exact ht
set_option maxRecDepth 4000 in
/-- put, the map made already. -/
theorem put_map {w : World} {tb : Nat} {S : Nat → Prop} {L : List ByteArray} {v : Value} {mb : Nat} (h : Tab w tb S L v (.map (some mb))) (s : ByteArray) (hs : (s.size : Int) ≤ 65536) (hin : s ∉ L) (hl : L.length < 65536) (ht : total L + s.size ≤ 4194304) :
    Calls Tryd.prog 106 #[.pointer (some ⟨tb, 0, none⟩), .string s] w fun e w' => e = .returned (.int .i64 L.length) ∧ (∃ v' mv', Tab w' tb (fun k => S k ∨ (w.heap.size ≤ k ∧ k < w'.heap.size)) (L ++ [s]) v' mv') ∧ But S w w' := by
  obtain ⟨D, hSm, hm, hi⟩ : ∃ D, S mb ∧ w.ownsMap Tryd.prog 9 (plainElem Tryd.prog 3) mb L.length D ∧ Ids D L := by
    rcases h.ids with ⟨e, _⟩ | ⟨mb', D, e, r⟩
    · cases e
    · cases e; exact ⟨D, r⟩
  have hne : tb ≠ mb := by obtain ⟨es, cl, hh, _⟩ := hm; exact ne_blocks h.blk hh
  have c0 := h.cell0
  have c1 := h.cell1
  have c2 := h.cell2
  have f := h.free
  obtain ⟨a, c, rfl⟩ := own_form h.own
  have H : Hid (Tab w tb S L (.slice a L.length c) (.map (some mb))) := h
  have HI : Hid (Ids D L) := hi
  have HM : Hid (w.ownsMap Tryd.prog 9 (plainElem Tryd.prog 3) mb L.length D) := hm
  have HL : Hid (L.length < 65536) := hl
  have HT : Hid (total L + s.size ≤ 4194304) := ht
  have hl' : (L.length : Int) < 65536 := by omega
  have ht' : (total L : Int) + s.size ≤ 4194304 := by omega
  have hs' : s.size ≤ maxLen := by unfold maxLen; omega
  have hq := fun W : World => Go.run_eql_map_nil (P := Tryd.prog) W 114 9 3 (some mb) Tryd.underlying114
  clear h hm hi hl ht
  go_enter Tryd.func106, Tryd.ntmps106
  go_wp2_with (first
    | (at_mapUpdate; refine wpList_mapUpdate_own _ rfl _ _ _ 114 rfl 9 3 law9 Tryd.underlying114 _ mb L.length D rfl HM.out (by unfold maxLen; omega) _ _ _ rfl rfl (key9 hs') _ [] (plainElem_int Tryd.underlying3 (WalkArith.wf_i64 (by omega))) ?_
       intro w1 hown1 hgrow1
       have b1 : Hid (w1.heap[tb]? = some (.cells #[.slice a L.length c, .map (some mb), .int .i64 (total L : Nat)] 116 (0, 0))) := hide ((hgrow1.block tb H.out.lt (by simpa using hne)).trans H.out.blk)
       have d0 : w1.cell? ⟨tb, 0, none⟩ = some (.slice a L.length c) := by rw [cell_of_row w1 tb 0 _ 116 (0, 0) b1.out]; rfl
       have d2 : w1.cell? ⟨tb, 2, none⟩ = some (.int .i64 (total L : Nat)) := by rw [cell_of_row w1 tb 2 _ 116 (0, 0) b1.out]; rfl
       have hw1 : Hid (But S w w1) := hide (But.of_grown hgrow1 (by intro k e; cases e; exact hSm))
       have o1 : Hid (w1.ownsRow 0 9 1 (.slice a L.length c) L.length (L.map Value.string)) := hide (own_but (S := fun k => k = mb) H.out.own (But.of_grown hgrow1 (by intro k e; cases e; rfl)) (by obtain ⟨es, cl, hh, _⟩ := HM.out; exact own_map H.out.own hh))
       have m1 : Hid _ := hide hown1
       have hlt1 : Hid _ := hide hgrow1.size
       clear hown1 hgrow1 c0 c1 c2 f)
    | (at_builtin; refine append_str _ rfl _ _ rfl 0 (.slice a L.length c) L rfl (o1.out.alloc _) w1.heap.size s rfl (cell_new _ _ _) (by omega) (Nat.zero_le _) ?_
       intro a' c' w2 o2' g2' hloc'
       have b2 : Hid (w2.heap[tb]? = some (.cells #[.slice a L.length c, .map (some mb), .int .i64 (total L : Nat)] 116 (0, 0))) := hide ((((But.refl (fun k => (Value.slice a L.length c).ownBlock = some k) w1).alloc _ |>.grown g2' (fun k _ e => e)).block tb (Array.getElem?_eq_some_iff.1 b1.out).1 (fun e => H.out.row_tb tb e rfl)).trans b1.out)
       have d0 : w2.cell? ⟨tb, 0, none⟩ = some (.slice a L.length c) := by rw [cell_of_row w2 tb 0 _ 116 (0, 0) b2.out]; rfl
       have d2 : w2.cell? ⟨tb, 2, none⟩ = some (.int .i64 (total L : Nat)) := by rw [cell_of_row w2 tb 2 _ 116 (0, 0) b2.out]; rfl
       have f2 : ∀ j, w2.frozen? ⟨tb, j, none⟩ = false := fun j => frozen_of_row w2 tb j _ 116 b2.out
       have o2 : Hid (w2.ownsRow 0 9 1 (.slice a' (L.length + 1) c') (L.length + 1) ((L ++ [s]).map Value.string)) := hide o2'
       have g2 : Hid _ := hide g2'
       have hloc : Hid _ := hide hloc'
       clear o2' g2' hloc')
    | go_in)
  go_ret
  have E := put_end H.out hlt1.out (.inl hSm) b1.out HI.out (Nat.le_refl _) m1.out hw1.out o1.out o2.out g2.out (by simpa using hloc.out) hin hs HL.out HT.out
  exact ⟨rfl, ⟨_, _, E.1.mono fun k hk => by rw [size_set, size_set]; exact hk⟩, E.2⟩
/-- put, the map not made yet. -/
theorem put_nil {w : World} {tb : Nat} {S : Nat → Prop} {L : List ByteArray} {v : Value} (h : Tab w tb S L v (.map none)) (s : ByteArray) (hs : (s.size : Int) ≤ 65536) (hin : s ∉ L) (hl : L.length < 65536) (ht : total L + s.size ≤ 4194304) :
    Calls Tryd.prog 106 #[.pointer (some ⟨tb, 0, none⟩), .string s] w fun e w' => e = .returned (.int .i64 L.length) ∧ (∃ v' mv', Tab w' tb (fun k => S k ∨ (w.heap.size ≤ k ∧ k < w'.heap.size)) (L ++ [s]) v' mv') ∧ But S w w' := by
  have hL : L = [] := by
    rcases h.ids with ⟨_, e⟩ | ⟨mb', D, e, r⟩
    · exact e
    · cases e
  have c0 := h.cell0
  have c1 := h.cell1
  have c2 := h.cell2
  have f := h.free
  obtain ⟨a, c, rfl⟩ := own_form h.own
  have H : Hid (Tab w tb S L (.slice a L.length c) (.map none)) := h
  have HI : Hid (Ids (.map []) L) := hide (by rw [hL]; exact Ids.nil)
  have htb := h.lt
  obtain ⟨mb, hmb⟩ : ∃ mb, mb = w.heap.size := ⟨_, rfl⟩
  have hne : tb ≠ mb := by omega
  obtain ⟨wA, hA⟩ : ∃ wA, wA = (w.setCell ⟨tb, 1, none⟩ (.map (some mb))).alloc (.map #[] 0) := ⟨_, rfl⟩
  have bA : wA.heap[tb]? = some (.cells #[.slice a L.length c, .map (some mb), .int .i64 (total L : Nat)] 116 (0, 0)) := by
    rw [hA]; exact (Below.heap_alloc _ _ tb (by rw [size_set]; exact htb)).trans (heap_setCell_same w tb 1 _ 116 _ h.blk)
  have kA : But S w wA := by rw [hA]; exact ((But.refl S w).setCell ⟨tb, 1, none⟩ (fun _ => h.inS) _).alloc _
  have sA : wA.heap.size = w.heap.size + 1 := by rw [hA]; simp [World.setCell]
  have mA : wA.ownsMap Tryd.prog 9 (plainElem Tryd.prog 3) mb 0 (.map [] : DataW Unit) := by
    have := World.ownsMap_made (w.setCell ⟨tb, 1, none⟩ (.map (some mb))) Tryd.prog 9 (plainElem (H := Unit) Tryd.prog 3); rw [size_set] at this; rw [hA]; rw [← hmb] at this; exact this
  have oA : wA.ownsRow 0 9 1 (.slice a L.length c) L.length (L.map Value.string) := by
    rw [hA]; exact own_but (S := fun k => k = tb) h.own (((But.refl (fun k => k = tb) w).setCell ⟨tb, 1, none⟩ (fun _ => rfl) _).alloc _) (fun g e => h.row_tb g e)
  have HL : Hid (L.length < 65536) := hl
  have HT : Hid (total L + s.size ≤ 4194304) := ht
  have hl' : (L.length : Int) < 65536 := by omega
  have ht' : (total L : Int) + s.size ≤ 4194304 := by omega
  have hs' : s.size ≤ maxLen := by unfold maxLen; omega
  have hq := fun W : World => Go.run_eql_map_nil (P := Tryd.prog) W 114 9 3 none Tryd.underlying114
  have BA : Hid _ := hide bA
  have KA : Hid (But S w wA) := kA
  have SA : Hid _ := hide sA
  have MA : Hid (wA.ownsMap Tryd.prog 9 (plainElem Tryd.prog 3) mb 0 (.map [] : DataW Unit)) := mA
  have OA : Hid (wA.ownsRow 0 9 1 (.slice a L.length c) L.length (L.map Value.string)) := oA
  have hmm := @run_makeMap Tryd.prog
  clear h hl ht bA kA sA mA oA hL
  subst hA hmb
  go_enter Tryd.func106, Tryd.ntmps106
  go_wp2_with (first
    | (at_mapUpdate; refine wpList_mapUpdate_own _ rfl _ _ _ 114 rfl 9 3 law9 Tryd.underlying114 _ w.heap.size 0 _ rfl MA.out (by unfold maxLen; omega) _ _ _ rfl rfl (key9 hs') _ [] (plainElem_int Tryd.underlying3 (WalkArith.wf_i64 (by omega))) ?_
       intro w1 hown1 hgrow1
       have b1 : Hid (w1.heap[tb]? = some (.cells #[.slice a L.length c, .map (some w.heap.size), .int .i64 (total L : Nat)] 116 (0, 0))) := hide ((hgrow1.block tb (Array.getElem?_eq_some_iff.1 BA.out).1 (by simpa using hne)).trans BA.out)
       have d0 : w1.cell? ⟨tb, 0, none⟩ = some (.slice a L.length c) := by rw [cell_of_row w1 tb 0 _ 116 (0, 0) b1.out]; rfl
       have d2 : w1.cell? ⟨tb, 2, none⟩ = some (.int .i64 (total L : Nat)) := by rw [cell_of_row w1 tb 2 _ 116 (0, 0) b1.out]; rfl
       have hw1 : Hid (But S w w1) := hide (KA.out.grown hgrow1 (by intro k hk e; cases e; omega))
       have o1 : Hid (w1.ownsRow 0 9 1 (.slice a L.length c) L.length (L.map Value.string)) := hide (own_but (S := fun k => k = w.heap.size) OA.out (But.of_grown hgrow1 (by intro k e; cases e; rfl)) (by obtain ⟨es, cl, hh, _⟩ := MA.out; exact own_map OA.out hh))
       have m1 : Hid _ := hide hown1
       have hlt1 : Hid (w.heap.size + 1 ≤ w1.heap.size) := hide (by have := hgrow1.size; have := SA.out; omega)
       clear hown1 hgrow1 c0 c1 c2 f)
    | (at_builtin; refine append_str _ rfl _ _ rfl 0 (.slice a L.length c) L rfl (o1.out.alloc _) w1.heap.size s rfl (cell_new _ _ _) (by omega) (Nat.zero_le _) ?_
       intro a' c' w2 o2' g2' hloc'
       have b2 : Hid (w2.heap[tb]? = some (.cells #[.slice a L.length c, .map (some w.heap.size), .int .i64 (total L : Nat)] 116 (0, 0))) := hide ((((But.refl (fun k => (Value.slice a L.length c).ownBlock = some k) w1).alloc _ |>.grown g2' (fun k _ e => e)).block tb (Array.getElem?_eq_some_iff.1 b1.out).1 (fun e => H.out.row_tb tb e rfl)).trans b1.out)
       have d0 : w2.cell? ⟨tb, 0, none⟩ = some (.slice a L.length c) := by rw [cell_of_row w2 tb 0 _ 116 (0, 0) b2.out]; rfl
       have d2 : w2.cell? ⟨tb, 2, none⟩ = some (.int .i64 (total L : Nat)) := by rw [cell_of_row w2 tb 2 _ 116 (0, 0) b2.out]; rfl
       have f2 : ∀ j, w2.frozen? ⟨tb, j, none⟩ = false := fun j => frozen_of_row w2 tb j _ 116 b2.out
       have o2 : Hid (w2.ownsRow 0 9 1 (.slice a' (L.length + 1) c') (L.length + 1) ((L ++ [s]).map Value.string)) := hide o2'
       have g2 : Hid _ := hide g2'
       have hloc : Hid _ := hide hloc'
       clear o2' g2' hloc')
    | go_in)
  go_ret
  have E := put_end H.out (by have := hlt1.out; omega) (.inr ⟨Nat.le_refl _, hlt1.out⟩) b1.out HI.out (Nat.zero_le _) m1.out hw1.out o1.out o2.out g2.out (by simpa using hloc.out) hin hs HL.out HT.out
  exact ⟨rfl, ⟨_, _, E.1.mono fun k hk => by rw [size_set, size_set]; exact hk⟩, E.2⟩
end Go.Proofs.YtpnacioliccglaaDoor.E6
/-
  Intern.
-/
namespace Go.Proofs.YtpnacioliccglaaDoor.E6
open Go.RowKit Go.Maps
def internV (L : List ByteArray) (s : ByteArray) : Value :=
  if isIn L s then .tuple #[.int .i64 (place L s : Int), .int .i64 0] else if roomy L.length (total L) s.size then .tuple #[.int .i64 (L.length : Int), .int .i64 0] else .tuple #[.int .i64 0, .int .i64 3]
def internL (L : List ByteArray) (s : ByteArray) : List ByteArray :=
  if isIn L s then L else if roomy L.length (total L) s.size then L ++ [s] else L
theorem put_any {w : World} {tb : Nat} {S : Nat → Prop} {L : List ByteArray} {v mv : Value} (h : Tab w tb S L v mv) (s : ByteArray) (hin : isIn L s = false) (hr : roomy L.length (total L) s.size = true) :
    Calls Tryd.prog 106 #[.pointer (some ⟨tb, 0, none⟩), .string s] w fun e w' => e = .returned (.int .i64 L.length) ∧ (∃ v' mv', Tab w' tb (fun k => S k ∨ (w.heap.size ≤ k ∧ k < w'.heap.size)) (L ++ [s]) v' mv') ∧ But S w w' := by
  have hr' := of_decide_eq_true hr
  rcases h.ids with ⟨rfl, _⟩ | ⟨mb, D, rfl, _⟩
  · exact put_nil h s hr'.1 (isIn_not.1 hin) (by omega) (by omega)
  · exact put_map h s hr'.1 (isIn_not.1 hin) (by omega) (by omega)
theorem intern_any {w : World} {tb : Nat} {S : Nat → Prop} {L : List ByteArray} {v mv : Value} (h : Tab w tb S L v mv) (s : ByteArray) (hs : s.size ≤ maxLen) :
    Calls Tryd.prog 81 #[.pointer (some ⟨tb, 0, none⟩), .string s] w fun e w' => e = .returned (internV L s) ∧ (∃ v' mv', Tab w' tb (fun k => S k ∨ (w.heap.size ≤ k ∧ k < w'.heap.size)) (internL L s) v' mv') ∧ But S w w' := by
  have c0 := h.cell0
  have c1 := h.cell1
  have c2 := h.cell2
  obtain ⟨a, c, rfl⟩ := own_form h.own
  have hsum : (total L : Int) ≤ 4194304 := by have := h.sum; omega
  have hz : (s.size : Int) ≤ 9223372036854775807 := by have := hs; unfold maxLen at this; omega
  obtain ⟨b, hb⟩ : ∃ b, isIn L s = b := ⟨_, rfl⟩
  have hlook : ∀ (ops : Array Oper) (rest : List Oper) (o : Oper) (A : Act) (Q : Exit → Act → World → Prop) (m x : Operand), o.guard = none → o.op = Op.lookup 114 m x true → A.eval m = mv → A.eval x = .string s →
      wpList Tryd.prog ops Q rest (A.put o.dst (.tuple #[.int .i64 (if isIn L s then (place L s : Int) else 0), .bool b])) w → wpList Tryd.prog ops Q (o :: rest) A w := by
    intro ops rest o A Q m x hg hop hm hx hK
    rcases h.ids with ⟨e, hL⟩ | ⟨mb, D, e, _, hmm, hi⟩
    · refine wpList_plain hg fun K' hK' => ?_
      have hl := Maps.look_nil (w := w) true law9 Tryd.underlying114 (zero3 w) (key9 hs)
      unfold Oper.wp
      simp [execOp, hop, hm, hx, e, hl, Result.andThen]
      refine hK' _ _ ?_
      have e0 : isIn L s = false := by rw [hL]; rfl
      rw [e0] at hK hb
      subst hb
      simpa using hK
    · refine wpList_lookup_own_ok_int w hg m x 114 hop 9 3 .i64 law9 Tryd.underlying114 Tryd.underlying3 (zero3 _) mb L.length D (hm.trans e) hmm _ _ hx (key9 hs) ?_
      intro c hat _
      rw [atKey_ids hi s hat, hi.has s, hb]
      rw [hb] at hK
      exact hK
  have HL : Hid _ := hide hlook
  have H : Hid (Tab w tb S L (.slice a L.length c) mv) := h
  clear hlook h
  have HB : Hid (isIn L s = b) := hb
  cases b
  · have eV : Hid (internV L s = if roomy L.length (total L) s.size then .tuple #[.int .i64 (L.length : Int), .int .i64 0] else .tuple #[.int .i64 0, .int .i64 3]) := hide (by unfold internV; rw [hb]; rfl)
    have eL : Hid (internL L s = if roomy L.length (total L) s.size then L ++ [s] else L) := hide (by unfold internL; rw [hb]; rfl)
    rw [hb] at HL
    clear hb
    have HR := room_any tb L.length c a (total L) s.size w c0 c2 hsum
    obtain ⟨r, hr⟩ : ∃ r, roomy L.length (total L) s.size = r := ⟨_, rfl⟩
    have Hr : Hid (roomy L.length (total L) s.size = r) := hr
    rw [hr] at HR
    have HR' : Hid _ := hide HR
    clear HR hr
    go_enter Tryd.func81, Tryd.ntmps81
    go_wp2_with (first | (at_lookup; refine HL.out _ _ _ _ _ _ _ rfl rfl rfl rfl ?_) | fail)
    refine HR'.out.mono ?_
    rintro e w' ⟨rfl, rfl⟩
    cases r
    · go_wp2
      go_ret2
      refine ⟨by rw [eV.out, Hr.out]; rfl, ⟨.slice a L.length c, mv, ?_⟩, But.refl _ _⟩
      rw [eL.out, Hr.out]
      exact H.out.mono fun k hk => .inl hk
    · go_wp2_with fail
      refine (clone_any s w' (by have := of_decide_eq_true Hr.out; omega)).mono ?_
      rintro e w1 ⟨rfl, hb1⟩
      have H1 : Hid (Tab w1 tb S L (.slice a L.length c) mv) := hide (H.out.kept (T := fun _ => False) (But.of_below hb1) (fun _ _ e => e))
      go_wp2_with fail
      refine (put_any H1.out s HB.out Hr.out).mono ?_
      rintro e w2 ⟨rfl, ⟨v', mv', ht⟩, hb2⟩
      have HT : Hid _ := hide ht
      clear ht
      go_wp2
      go_ret2
      refine ⟨by rw [eV.out, Hr.out]; rfl, ⟨v', mv', ?_⟩, (But.of_below (S := S) hb1).trans hb2 (fun _ _ e => e)⟩
      rw [eL.out, Hr.out]
      refine HT.out.mono fun k hk => hk.imp id fun e => ⟨Nat.le_trans hb1.size e.1, e.2⟩
  · have eV : Hid (internV L s = .tuple #[.int .i64 (place L s : Int), .int .i64 0]) := hide (by unfold internV; rw [hb]; rfl)
    have eL : Hid (internL L s = L) := hide (by unfold internL; rw [hb]; rfl)
    rw [hb] at HL
    clear hb
    go_enter Tryd.func81, Tryd.ntmps81
    go_wp2_with (first | (at_lookup; refine HL.out _ _ _ _ _ _ _ rfl rfl rfl rfl ?_) | go_in)
    go_ret2
    refine ⟨by rw [eV.out]; rfl, ⟨.slice a L.length c, mv, ?_⟩, But.refl _ _⟩
    rw [eL.out]
    exact H.out.mono fun k hk => .inl hk
end Go.Proofs.YtpnacioliccglaaDoor.E6
