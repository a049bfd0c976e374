/-
  The document's table in memory, and its calls.
-/
import Derived.Test.YtifbehkdhalfcaaDoorForB
namespace Go.Proofs.YtifbehkdhalfcaaDoor
open Go.RowKit Go.Maps
structure RTab (w : World) (tb : Nat) (S : Nat → Prop) (L : List ByteArray) (v : Value) : Prop where
  blk : w.heap[tb]? = some (.cells #[v, .int .i64 (total L : Nat)] 79 (0, 0))
  own : w.ownsRow 0 9 1 v L.length (L.map Value.string)
  inS : S tb
  rowS : ∀ g, v.ownBlock = some g → S g
  nodup : L.Nodup
  small : ∀ s ∈ L, s.size ≤ 65536
  len : L.length ≤ 65536
  sum : total L ≤ 4194304
section
variable {w : World} {tb : Nat} {S : Nat → Prop} {L : List ByteArray} {v : Value}
theorem RTab.kept {T : Nat → Prop} {w' : World} (h : RTab w tb S L v) (hb : But T w w') (hd : ∀ k, S k → ¬ T k) : RTab w' tb S L v :=
  ⟨(hb.block tb (Array.getElem?_eq_some_iff.1 h.blk).1 (hd _ h.inS)).trans h.blk, own_but h.own hb fun g e => hd g (h.rowS g e), h.inS, h.rowS, h.nodup, h.small, h.len, h.sum⟩
theorem RTab.mono {T : Nat → Prop} (h : RTab w tb S L v) (hT : ∀ k, S k → T k) : RTab w tb T L v := ⟨h.blk, h.own, hT _ h.inS, fun g e => hT _ (h.rowS g e), h.nodup, h.small, h.len, h.sum⟩
theorem RTab.cell0 (h : RTab w tb S L v) : w.cell? ⟨tb, 0, none⟩ = some v := by rw [cell_of_row w tb 0 _ 79 (0, 0) h.blk]; rfl
theorem RTab.cell1 (h : RTab w tb S L v) : w.cell? ⟨tb, 1, none⟩ = some (.int .i64 (total L : Nat)) := by rw [cell_of_row w tb 1 _ 79 (0, 0) h.blk]; rfl
theorem RTab.free (h : RTab w tb S L v) (j : Nat) : w.frozen? ⟨tb, j, none⟩ = false := frozen_of_row w tb j _ 79 h.blk
theorem RTab.lt (h : RTab w tb S L v) : tb < w.heap.size := (Array.getElem?_eq_some_iff.1 h.blk).1
theorem RTab.row_tb (h : RTab w tb S L v) : ∀ g, v.ownBlock = some g → g ≠ tb := by
  intro g hg e
  rcases h.own.2 with ⟨hv, _⟩ | ⟨g', cap, cur, hv, hb, hh, _⟩
  · rw [hv] at hg; simp [Value.ownBlock] at hg
  · rw [hv] at hg; simp [Value.ownBlock] at hg; subst hg; subst e
    rw [h.blk] at hh; simp at hh
end
theorem rnew_any (w : World) :
    Calls Tryd.prog 29 #[] w fun e w' => e = .returned (.pointer (some ⟨w.heap.size, 0, none⟩)) ∧ w' = w.alloc (.cells #[.slice none 0 0, .int .i64 0] 79) := by
  go_enter Tryd.func29, Tryd.ntmps29
  go_wp2
  go_ret
  exact ⟨rfl, rfl⟩
theorem rlen_any (tb n c : Nat) (a : Option Addr) (w : World) (h0 : w.cell? ⟨tb, 0, none⟩ = some (.slice a n c)) :
    Calls Tryd.prog 60 #[.pointer (some ⟨tb, 0, none⟩)] w fun e w' => e = .returned (.int .i64 n) ∧ w' = w := by
  go_enter Tryd.func60, Tryd.ntmps60
  go_wp2
  go_ret
  exact ⟨rfl, rfl⟩
theorem rbytes_any (tb : Nat) (z : Int) (w : World) (h0 : w.cell? ⟨tb, 1, none⟩ = some (.int .i64 z)) :
    Calls Tryd.prog 57 #[.pointer (some ⟨tb, 0, none⟩)] w fun e w' => e = .returned (.int .i64 z) ∧ w' = w := by
  go_enter Tryd.func57, Tryd.ntmps57
  go_wp2
  go_ret
  exact ⟨rfl, rfl⟩
theorem rfind_any {w : World} {tb : Nat} {S : Nat → Prop} {L : List ByteArray} {v : Value} (h : RTab w tb S L v) (s : ByteArray) :
    Calls Tryd.prog 58 #[.pointer (some ⟨tb, 0, none⟩), .string s] w fun e w' => e = .returned (lookV L s) ∧ w' = w := by
  have c0 := h.cell0
  have hr := h.own
  have HN : Hid (L.Nodup) := h.nodup
  have hLi : (L.length : Int) ≤ 9223372036854775806 := by have := h.len; omega
  obtain ⟨a, c, rfl⟩ := own_form hr
  have HR : Hid (SRow w a L.length L) := SRow.of_own hr
  clear h hr
  go_enter Tryd.func58, Tryd.ntmps58
  go_wp2
  go_loopw [6] (fun i wr => ∃ k : Nat, k ≤ L.length ∧ i = .int .i64 k ∧ wr = w ∧ isIn (L.take k) s = false) (fun i _ => L.length - (intOf i).toNat)
  case atStart => exact ⟨0, Nat.zero_le _, rfl, rfl, rfl⟩
  case round =>
    obtain ⟨k, hk, rfl, rfl, he⟩ := hrel
    have HE : Hid (isIn (L.take k) s = false) := he
    clear he
    by_cases hlt : k < L.length
    · obtain ⟨bo, oo, rfl, hco⟩ := HR.out.at hlt
      have HX : Hid (if (L.getD k ByteArray.empty).toList == s.toList then lookV L s = .tuple #[.int .i64 (k : Int), .bool true] else isIn (L.take (k + 1)) s = false) := hide (by
        cases hq : (L.getD k ByteArray.empty).toList == s.toList
        · exact isIn_take_succ hlt (fun e => str_ne hq e) HE.out
        · have es := str_eq hq
          have hg : L[k]? = some s := by rw [← es, List.getD_eq_getElem?_getD]; simp [hlt]
          show lookV L s = _
          unfold lookV
          rw [isIn_iff.2 (List.mem_of_getElem? hg), place_of_get HN.out hg]; rfl)
      generalize L.getD k ByteArray.empty = x at hco HX
      go_wp2
      · go_ret2
        have := HX.out
        rw [if_pos ‹_›] at this
        exact ⟨by rw [this]; rfl, rfl⟩
      · have := HX.out
        rw [if_neg (by simp only [‹_ = false›]; decide)] at this
        exact ⟨⟨k + 1, by omega, by go_num, trivial, this⟩, by simp [intOf]; omega⟩
    · have HX : Hid (lookV L s = .tuple #[.int .i64 0, .bool false]) := hide (by
        have e := HE.out
        rw [List.take_of_length_le (by omega)] at e
        unfold lookV; rw [e]; rfl)
      go_wp2
      go_ret2
      exact ⟨by rw [HX.out]; rfl, rfl⟩
/-- Intern puts a new one. -/
theorem rput_end {w w2 : World} {tb : Nat} {S : Nat → Prop} {L : List ByteArray} {v v' : Value} {s : ByteArray} (h : RTab w tb S L v)
    (o2 : w2.ownsRow 0 9 1 v' (L.length + 1) ((L ++ [s]).map Value.string)) (g2 : (w.alloc (.cells #[.string s] 9)).grownBy w2 v.ownBlock) (hloc : v'.ownBlock = v.ownBlock ∨ v'.ownBlock = some (w.heap.size + 1))
    (hin : s ∉ L) (hs : s.size ≤ 65536) (hl : L.length < 65536) (ht : total L + s.size ≤ 4194304) :
    RTab ((w2.setCell ⟨tb, 0, none⟩ v').setCell ⟨tb, 1, none⟩ (.int .i64 ((total L : Int) + s.size))) tb (fun k => S k ∨ (w.heap.size ≤ k ∧ k < w2.heap.size)) (L ++ [s]) v' ∧ But S w ((w2.setCell ⟨tb, 0, none⟩ v').setCell ⟨tb, 1, none⟩ (.int .i64 ((total L : Int) + s.size))) := by
  have hsz : w.heap.size + 1 ≤ w2.heap.size := by have := g2.size; simpa using this
  have htl := h.lt
  have k2 : But (fun k => v.ownBlock = some k) w w2 := (But.refl _ w).alloc _ |>.grown g2 (fun k _ e => e)
  have b2 : w2.heap[tb]? = some (.cells #[v, .int .i64 (total L : Nat)] 79 (0, 0)) := (k2.block tb htl (fun e => h.row_tb tb e rfl)).trans h.blk
  have hv' : ∀ g, v'.ownBlock = some g → (v.ownBlock = some g ∨ g = w.heap.size + 1) := by
    intro g hg
    rcases hloc with e | e
    · exact .inl (e.symm.trans hg)
    · rw [e] at hg; exact .inr (by cases hg; rfl)
  have hv't : ∀ g, v'.ownBlock = some g → g ≠ tb := by
    intro g hg
    rcases hv' g hg with e | e
    · exact h.row_tb g e
    · omega
  have hS2 : But S w w2 := k2.mono (fun k e => h.rowS k e)
  have hT : But (fun k => k = tb) w2 ((w2.setCell ⟨tb, 0, none⟩ v').setCell ⟨tb, 1, none⟩ (.int .i64 ((total L : Int) + s.size))) :=
    ((But.refl (fun k => k = tb) w2).setCell ⟨tb, 0, none⟩ (fun _ => rfl) v').setCell ⟨tb, 1, none⟩ (fun _ => rfl) _
  refine ⟨⟨?_, by rw [List.length_append]; exact own_but o2 hT (fun g e => hv't g e), .inl h.inS, ?_, ?_, ?_, ?_, ?_⟩, hS2.trans hT (fun i _ e => by subst e; exact h.inS)⟩
  · have e1 := heap_setCell_same w2 tb 0 _ 79 v' b2
    have e2 := heap_setCell_same _ tb 1 _ 79 (.int .i64 ((total L : Int) + s.size)) e1
    rw [e2, total_snoc, Int.natCast_add]; rfl
  · intro g hg
    rcases hv' g hg with e | e
    · exact .inl (h.rowS g e)
    · exact .inr ⟨by omega, (o2.lt g hg).2⟩
  · rw [List.nodup_append]; exact ⟨h.nodup, by simp, by intro x hx y hy; simp at hy; subst hy; exact fun e => hin (e ▸ hx)⟩
  · intro t ht; rcases List.mem_append.1 ht with ht | ht
    · exact h.small t ht
    · simp at ht; subst ht; omega
  · simp; omega
  · rw [total_snoc]; exact ht
set_option maxRecDepth 4000 in
set_option maxHeartbeats 800000 in
theorem rintern_any {w : World} {tb : Nat} {S : Nat → Prop} {L : List ByteArray} {v : Value} (h : RTab w tb S L v) (s : ByteArray) (hs : s.size ≤ maxLen) :
    Calls Tryd.prog 47 #[.pointer (some ⟨tb, 0, none⟩), .string s] w fun e w' => e = .returned (internV L s) ∧ (∃ v', RTab w' tb (fun k => S k ∨ (w.heap.size ≤ k ∧ k < w'.heap.size)) (internL L s) v') ∧ But S w w' := by
  have HF := rfind_any h s
  have c0 := h.cell0
  have c1 := h.cell1
  have fr := h.free
  have HT0 := h
  obtain ⟨a, c, rfl⟩ := own_form h.own
  have H : Hid (RTab w tb S L (.slice a L.length c)) := h
  obtain ⟨Z, hZ⟩ : ∃ Z : Int, Z = ((s.size : Nat) : Int) := ⟨_, rfl⟩
  have hlen : ∀ (ty : TypeId) (W : World), (Builtin.len_ #[9] ty #[.string s]).run Tryd.prog W = .ok (.int .i64 Z) W := fun ty W => by rw [hZ]; exact run_len_string W 9 ty s Tryd.underlying9
  have hZ0 : 0 ≤ Z := by omega
  have hZm : Z ≤ 9223372036854775807 := by have := hs; unfold maxLen at this; omega
  obtain ⟨T, hT⟩ : ∃ T : Int, T = ((total L : Nat) : Int) := ⟨_, rfl⟩
  have hT0 : 0 ≤ T := by omega
  have hTm : T ≤ 4194304 := by have := h.sum; omega
  rw [← hT] at c1
  obtain ⟨N, hN⟩ : ∃ N : Int, N = ((L.length : Nat) : Int) := ⟨_, rfl⟩
  have HN : Hid (N = ((L.length : Nat) : Int) ∧ L.length ≤ 65536) := ⟨hN, h.len⟩
  have HZ : Hid (Z = ((s.size : Nat) : Int)) := hZ
  have HTt : Hid (T = ((total L : Nat) : Int)) := hT
  unfold lookV at HF
  cases hin : isIn L s
  · rw [hin] at HF
    have HF1 : Hid _ := hide HF
    have eV : Hid (internV L s = if roomy L.length (total L) s.size then .tuple #[.int .i64 (L.length : Int), .int .i64 0] else .tuple #[.int .i64 0, .int .i64 3]) := hide (by unfold internV; rw [hin]; rfl)
    have eL : Hid (internL L s = if roomy L.length (total L) s.size then L ++ [s] else L) := hide (by unfold internL; rw [hin]; rfl)
    have HIN : Hid (isIn L s = false) := hin
    clear HF hin h HT0 hZ hT hN
    cases hro : roomy L.length (total L) s.size
    · have Hro := of_decide_eq_false hro
      have HRo : Hid (roomy L.length (total L) s.size = false) := hro
      clear hro
      by_cases g1 : 65536 < Z
      · have q1 : decide (65536 < Z) = true := decide_eq_true g1
        clear Hro
        go_enter Tryd.func47, Tryd.ntmps47
        go_wp2_with fail
        refine HF1.out.mono ?_
        rintro e w1 ⟨rfl, rfl⟩
        go_wp2
        go_ret2
        refine ⟨by rw [eV.out, HRo.out]; rfl, ⟨.slice a L.length c, ?_⟩, But.refl _ _⟩
        rw [eL.out, HRo.out]
        exact H.out.mono fun k hk => .inl hk
      · have q1 : decide (65536 < Z) = false := decide_eq_false g1
        by_cases g2 : L.length = 65536
        · have q2 : ((L.length : Int) == 65536) = true := by rw [beq_iff_eq]; omega
          clear Hro g2
          go_enter Tryd.func47, Tryd.ntmps47
          go_wp2_with fail
          refine HF1.out.mono ?_
          rintro e w1 ⟨rfl, rfl⟩
          go_wp2
          go_ret2
          refine ⟨by rw [eV.out, HRo.out]; rfl, ⟨.slice a L.length c, ?_⟩, But.refl _ _⟩
          rw [eL.out, HRo.out]
          exact H.out.mono fun k hk => .inl hk
        · have q2 : ((L.length : Int) == 65536) = false := by rw [beq_eq_false_iff_ne]; omega
          have q3 : decide (4194304 < T + Z) = true := decide_eq_true (by have h1 := HN.out; have h2 := HZ.out; have h3 := HTt.out; omega)
          clear Hro g2
          go_enter Tryd.func47, Tryd.ntmps47
          go_wp2_with fail
          refine HF1.out.mono ?_
          rintro e w1 ⟨rfl, rfl⟩
          go_wp2
          go_ret2
          refine ⟨by rw [eV.out, HRo.out]; rfl, ⟨.slice a L.length c, ?_⟩, But.refl _ _⟩
          rw [eL.out, HRo.out]
          exact H.out.mono fun k hk => .inl hk
    · have Hro := of_decide_eq_true hro
      have HRo : Hid (roomy L.length (total L) s.size = true) := hro
      have q1 : decide (65536 < Z) = false := decide_eq_false (by have h2 := HZ.out; omega)
      have q2 : ((L.length : Int) == 65536) = false := by rw [beq_eq_false_iff_ne]; omega
      have q3 : decide (4194304 < T + Z) = false := decide_eq_false (by have h2 := HZ.out; have h3 := HTt.out; omega)
      have hZ6 : Z ≤ 65536 := by have h2 := HZ.out; omega
      have HR : Hid ((s.size : Int) ≤ 65536 ∧ L.length < 65536 ∧ total L + s.size ≤ 4194304) := ⟨by omega, by omega, by omega⟩
      have hLi : (L.length : Int) ≤ 9223372036854775806 := by omega
      clear Hro hro
      go_enter Tryd.func47, Tryd.ntmps47
      go_wp2_with fail
      refine HF1.out.mono ?_
      rintro e w1 ⟨rfl, rfl⟩
      go_wp2_with (first
        | (at_builtin; refine append_str _ rfl _ _ rfl 0 (.slice a L.length c) L rfl (H.out.own.alloc _) w1.heap.size s rfl (cell_new _ _ _) (by have := HR.out; omega) (Nat.zero_le _) ?_
           intro a' c' w2 o2' g2' hloc'
           have b2 : Hid (w2.heap[tb]? = some (.cells #[.slice a L.length c, .int .i64 (total L : Nat)] 79 (0, 0))) := hide ((((But.refl (fun k => (Value.slice a L.length c).ownBlock = some k) w1).alloc _ |>.grown g2' (fun k _ e => e)).block tb H.out.lt (fun e => H.out.row_tb tb e rfl)).trans H.out.blk)
           have d0 : w2.cell? ⟨tb, 0, none⟩ = some (.slice a L.length c) := by rw [cell_of_row w2 tb 0 _ 79 (0, 0) b2.out]; rfl
           have d1 : w2.cell? ⟨tb, 1, none⟩ = some (.int .i64 T) := by rw [cell_of_row w2 tb 1 _ 79 (0, 0) b2.out, HTt.out]; rfl
           have f2 : ∀ j, w2.frozen? ⟨tb, j, none⟩ = false := fun j => frozen_of_row w2 tb j _ 79 b2.out
           have o2 : Hid (w2.ownsRow 0 9 1 (.slice a' (L.length + 1) c') (L.length + 1) ((L ++ [s]).map Value.string)) := hide o2'
           have g2 : Hid _ := hide g2'
           have hloc : Hid _ := hide hloc'
           clear o2' g2' hloc')
        | go_in)
      go_ret2
      have E := rput_end H.out o2.out g2.out (by simpa using hloc.out) (isIn_not.1 HIN.out) (by have := HR.out; omega) HR.out.2.1 HR.out.2.2
      rw [← HTt.out, ← HZ.out] at E
      refine ⟨?_, ⟨.slice a' (L.length + 1) c', ?_⟩, E.2⟩
      · rw [eV.out, HRo.out]
        rfl
      · rw [eL.out, HRo.out]
        exact E.1.mono fun k hk => by rw [size_set, size_set]; exact hk
  · rw [hin] at HF
    have HF1 : Hid _ := hide HF
    have eV : Hid (internV L s = .tuple #[.int .i64 (place L s : Int), .int .i64 0]) := hide (by unfold internV; rw [hin]; rfl)
    have eL : Hid (internL L s = L) := hide (by unfold internL; rw [hin]; rfl)
    clear HF hin h HT0 hZ hT hN
    go_enter Tryd.func47, Tryd.ntmps47
    go_wp2_with fail
    refine HF1.out.mono ?_
    rintro e w1 ⟨rfl, rfl⟩
    go_wp2
    go_ret2
    refine ⟨by rw [eV.out]; rfl, ⟨.slice a L.length c, ?_⟩, But.refl _ _⟩
    rw [eL.out]
    exact H.out.mono fun k hk => .inl hk
end Go.Proofs.YtifbehkdhalfcaaDoor
