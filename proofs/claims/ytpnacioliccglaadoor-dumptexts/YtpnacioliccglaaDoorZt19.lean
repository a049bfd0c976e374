import Derived.Test.YtpnacioliccglaaDoorZt09
import Derived.Test.YtpnacioliccglaaDoorZt18
import Derived.Laws.StructEq
set_option maxRecDepth 8000
set_option maxHeartbeats 8000000
set_option linter.unusedVariables false
/-
  The document's table in memory, and its calls.
-/
namespace Go.Proofs.YtpnacioliccglaaDoor.E6
open Go.RowKit Go.Maps
structure RTab (w : World) (tb : Nat) (S : Nat → Prop) (L : List ByteArray) (v : Value) : Prop where
  blk : w.heap[tb]? = some (.cells #[v, .int .i64 (total L : Nat)] 130 (0, 0))
  own : w.ownsRow 0 9 1 v L.length (L.map Value.string)
  inS : S tb
  rowS : ∀ g, v.ownBlock = some g → S g
  nodup : L.Nodup
  small : ∀ s ∈ L, s.size ≤ 65536
  len : L.length ≤ 65536
  sum : total L ≤ 4194304
section
variable {w : World} {tb : Nat} {S : Nat → Prop} {L : List ByteArray} {v : Value}
theorem RTab.kept {T : Nat → Prop} {w' : World} (h : RTab w tb S L v) (hb : But T w w') (hd : ∀ k, S k → ¬ T k) : RTab w' tb S L v :=
  ⟨(hb.block tb (Array.getElem?_eq_some_iff.1 h.blk).1 (hd _ h.inS)).trans h.blk, own_but h.own hb fun g e => hd g (h.rowS g e), h.inS, h.rowS, h.nodup, h.small, h.len, h.sum⟩
theorem RTab.mono {T : Nat → Prop} (h : RTab w tb S L v) (hT : ∀ k, S k → T k) : RTab w tb T L v := ⟨h.blk, h.own, hT _ h.inS, fun g e => hT _ (h.rowS g e), h.nodup, h.small, h.len, h.sum⟩
theorem RTab.cell0 (h : RTab w tb S L v) : w.cell? ⟨tb, 0, none⟩ = some v := by rw [cell_of_row w tb 0 _ 130 (0, 0) h.blk]; rfl
theorem RTab.cell1 (h : RTab w tb S L v) : w.cell? ⟨tb, 1, none⟩ = some (.int .i64 (total L : Nat)) := by rw [cell_of_row w tb 1 _ 130 (0, 0) h.blk]; rfl
theorem RTab.free (h : RTab w tb S L v) (j : Nat) : w.frozen? ⟨tb, j, none⟩ = false := frozen_of_row w tb j _ 130 h.blk
theorem RTab.lt (h : RTab w tb S L v) : tb < w.heap.size := (Array.getElem?_eq_some_iff.1 h.blk).1
theorem RTab.row_tb (h : RTab w tb S L v) : ∀ g, v.ownBlock = some g → g ≠ tb := by
  intro g hg e
  rcases h.own.2 with ⟨hv, _⟩ | ⟨g', cap, cur, hv, hb, hh, _⟩
  · rw [hv] at hg; simp [Value.ownBlock] at hg
  · rw [hv] at hg; simp [Value.ownBlock] at hg; subst hg; subst e
    rw [h.blk] at hh; simp at hh
end
theorem rnew_any (w : World) :
    Calls Tryd.prog 60 #[] w fun e w' => e = .returned (.pointer (some ⟨w.heap.size, 0, none⟩)) ∧ w' = w.alloc (.cells #[.slice none 0 0, .int .i64 0] 130) := by
  go_enter Tryd.func60, Tryd.ntmps60
  go_wp2
  go_ret
  exact ⟨rfl, rfl⟩
theorem rlen_any (tb n c : Nat) (a : Option Addr) (w : World) (h0 : w.cell? ⟨tb, 0, none⟩ = some (.slice a n c)) :
    Calls Tryd.prog 110 #[.pointer (some ⟨tb, 0, none⟩)] w fun e w' => e = .returned (.int .i64 n) ∧ w' = w := by
  go_enter Tryd.func110, Tryd.ntmps110
  go_wp2
  go_ret
  exact ⟨rfl, rfl⟩
theorem rbytes_any (tb : Nat) (z : Int) (w : World) (h0 : w.cell? ⟨tb, 1, none⟩ = some (.int .i64 z)) :
    Calls Tryd.prog 107 #[.pointer (some ⟨tb, 0, none⟩)] w fun e w' => e = .returned (.int .i64 z) ∧ w' = w := by
  go_enter Tryd.func107, Tryd.ntmps107
  go_wp2
  go_ret
  exact ⟨rfl, rfl⟩
theorem rfind_any {w : World} {tb : Nat} {S : Nat → Prop} {L : List ByteArray} {v : Value} (h : RTab w tb S L v) (s : ByteArray) :
    Calls Tryd.prog 108 #[.pointer (some ⟨tb, 0, none⟩), .string s] w fun e w' => e = .returned (lookV L s) ∧ w' = w := by
  have c0 := h.cell0
  have hr := h.own
  have HN : Hid (L.Nodup) := h.nodup
  have hLi : (L.length : Int) ≤ 9223372036854775806 := by have := h.len; omega
  obtain ⟨a, c, rfl⟩ := own_form hr
  have HR : Hid (SRow w a L.length L) := SRow.of_own hr
  clear h hr
  go_enter Tryd.func108, Tryd.ntmps108
  go_wp2
  go_loopw [6] (fun i wr => ∃ k : Nat, k ≤ L.length ∧ i = .int .i64 k ∧ wr = w ∧ isIn (L.take k) s = false) (fun i _ => L.length - (intOf i).toNat)
  case atStart => exact ⟨0, Nat.zero_le _, rfl, rfl, rfl⟩
  case round =>
    obtain ⟨k, hk, rfl, rfl, he⟩ := hrel
    have HE : Hid (isIn (L.take k) s = false) := he
    clear he
    by_cases hlt : k < L.length
    · obtain ⟨bo, oo, rfl, hco⟩ := HR.out.at hlt
      have HX : Hid (if (L.getD k ByteArray.empty).toList == s.toList then lookV L s = .tuple #[.int .i64 (k : Int), .bool true] else isIn (L.take (k + 1)) s = false) := hide (by
        cases hq : (L.getD k ByteArray.empty).toList == s.toList
        · exact isIn_take_succ hlt (fun e => str_ne hq e) HE.out
        · have es := str_eq hq
          have hg : L[k]? = some s := by rw [← es, List.getD_eq_getElem?_getD]; simp [hlt]
          show lookV L s = _
          unfold lookV
          rw [isIn_iff.2 (List.mem_of_getElem? hg), place_of_get HN.out hg]; rfl)
      generalize L.getD k ByteArray.empty = x at hco HX
      go_wp2
      · go_ret2
        have := HX.out
        rw [if_pos ‹_›] at this
        exact ⟨by rw [this]; rfl, rfl⟩
      · have := HX.out
        rw [if_neg (by simp only [‹_ = false›]; decide)] at this
        exact ⟨⟨k + 1, by omega, by go_num, trivial, this⟩, by simp [intOf]; omega⟩
    · have HX : Hid (lookV L s = .tuple #[.int .i64 0, .bool false]) := hide (by
        have e := HE.out
        rw [List.take_of_length_le (by omega)] at e
        unfold lookV; rw [e]; rfl)
      go_wp2
      go_ret2
      exact ⟨by rw [HX.out]; rfl, rfl⟩
/-- Intern puts a new one. -/
theorem rput_end {w w2 : World} {tb : Nat} {S : Nat → Prop} {L : List ByteArray} {v v' : Value} {s : ByteArray} (h : RTab w tb S L v)
    (o2 : w2.ownsRow 0 9 1 v' (L.length + 1) ((L ++ [s]).map Value.string)) (g2 : (w.alloc (.cells #[.string s] 9)).grownBy w2 v.ownBlock) (hloc : v'.ownBlock = v.ownBlock ∨ v'.ownBlock = some (w.heap.size + 1))
    (hin : s ∉ L) (hs : s.size ≤ 65536) (hl : L.length < 65536) (ht : total L + s.size ≤ 4194304) :
    RTab ((w2.setCell ⟨tb, 0, none⟩ v').setCell ⟨tb, 1, none⟩ (.int .i64 ((total L : Int) + s.size))) tb (fun k => S k ∨ (w.heap.size ≤ k ∧ k < w2.heap.size)) (L ++ [s]) v' ∧ But S w ((w2.setCell ⟨tb, 0, none⟩ v').setCell ⟨tb, 1, none⟩ (.int .i64 ((total L : Int) + s.size))) := by
  have hsz : w.heap.size + 1 ≤ w2.heap.size := by have := g2.size; simpa using this
  have htl := h.lt
  have k2 : But (fun k => v.ownBlock = some k) w w2 := (But.refl _ w).alloc _ |>.grown g2 (fun k _ e => e)
  have b2 : w2.heap[tb]? = some (.cells #[v, .int .i64 (total L : Nat)] 130 (0, 0)) := (k2.block tb htl (fun e => h.row_tb tb e rfl)).trans h.blk
  have hv' : ∀ g, v'.ownBlock = some g → (v.ownBlock = some g ∨ g = w.heap.size + 1) := by
    intro g hg
    rcases hloc with e | e
    · exact .inl (e.symm.trans hg)
    · rw [e] at hg; exact .inr (by cases hg; rfl)
  have hv't : ∀ g, v'.ownBlock = some g → g ≠ tb := by
    intro g hg
    rcases hv' g hg with e | e
    · exact h.row_tb g e
    · omega
  have hS2 : But S w w2 := k2.mono (fun k e => h.rowS k e)
  have hT : But (fun k => k = tb) w2 ((w2.setCell ⟨tb, 0, none⟩ v').setCell ⟨tb, 1, none⟩ (.int .i64 ((total L : Int) + s.size))) :=
    ((But.refl (fun k => k = tb) w2).setCell ⟨tb, 0, none⟩ (fun _ => rfl) v').setCell ⟨tb, 1, none⟩ (fun _ => rfl) _
  refine ⟨⟨?_, by rw [List.length_append]; exact own_but o2 hT (fun g e => hv't g e), .inl h.inS, ?_, ?_, ?_, ?_, ?_⟩, hS2.trans hT (fun i _ e => by subst e; exact h.inS)⟩
  · have e1 := heap_setCell_same w2 tb 0 _ 130 v' b2
    have e2 := heap_setCell_same _ tb 1 _ 130 (.int .i64 ((total L : Int) + s.size)) e1
    rw [e2, total_snoc, Int.natCast_add]; rfl
  · intro g hg
    rcases hv' g hg with e | e
    · exact .inl (h.rowS g e)
    · exact .inr ⟨by omega, (o2.lt g hg).2⟩
  · rw [List.nodup_append]; exact ⟨h.nodup, by simp, by intro x hx y hy; simp at hy; subst hy; exact fun e => hin (e ▸ hx)⟩
  · intro t ht; rcases List.mem_append.1 ht with ht | ht
    · exact h.small t ht
    · simp at ht; subst ht; omega
  · simp; omega
  · rw [total_snoc]; exact ht
set_option maxRecDepth 4000 in
set_option maxHeartbeats 800000 in
theorem rintern_any {w : World} {tb : Nat} {S : Nat → Prop} {L : List ByteArray} {v : Value} (h : RTab w tb S L v) (s : ByteArray) (hs : s.size ≤ maxLen) :
    Calls Tryd.prog 85 #[.pointer (some ⟨tb, 0, none⟩), .string s] w fun e w' => e = .returned (internV L s) ∧ (∃ v', RTab w' tb (fun k => S k ∨ (w.heap.size ≤ k ∧ k < w'.heap.size)) (internL L s) v') ∧ But S w w' := by
  have HF := rfind_any h s
  have c0 := h.cell0
  have c1 := h.cell1
  have fr := h.free
  have HT0 := h
  obtain ⟨a, c, rfl⟩ := own_form h.own
  have H : Hid (RTab w tb S L (.slice a L.length c)) := h
  obtain ⟨Z, hZ⟩ : ∃ Z : Int, Z = ((s.size : Nat) : Int) := ⟨_, rfl⟩
  have hlen : ∀ (ty : TypeId) (W : World), (Builtin.len_ #[9] ty #[.string s]).run Tryd.prog W = .ok (.int .i64 Z) W := fun ty W => by rw [hZ]; exact run_len_string W 9 ty s Tryd.underlying9
  have hZ0 : 0 ≤ Z := by omega
  have hZm : Z ≤ 9223372036854775807 := by have := hs; unfold maxLen at this; omega
  obtain ⟨T, hT⟩ : ∃ T : Int, T = ((total L : Nat) : Int) := ⟨_, rfl⟩
  have hT0 : 0 ≤ T := by omega
  have hTm : T ≤ 4194304 := by have := h.sum; omega
  rw [← hT] at c1
  obtain ⟨N, hN⟩ : ∃ N : Int, N = ((L.length : Nat) : Int) := ⟨_, rfl⟩
  have HN : Hid (N = ((L.length : Nat) : Int) ∧ L.length ≤ 65536) := ⟨hN, h.len⟩
  have HZ : Hid (Z = ((s.size : Nat) : Int)) := hZ
  have HTt : Hid (T = ((total L : Nat) : Int)) := hT
  unfold lookV at HF
  cases hin : isIn L s
  · rw [hin] at HF
    have HF1 : Hid _ := hide HF
    have eV : Hid (internV L s = if roomy L.length (total L) s.size then .tuple #[.int .i64 (L.length : Int), .int .i64 0] else .tuple #[.int .i64 0, .int .i64 3]) := hide (by unfold internV; rw [hin]; rfl)
    have eL : Hid (internL L s = if roomy L.length (total L) s.size then L ++ [s] else L) := hide (by unfold internL; rw [hin]; rfl)
    have HIN : Hid (isIn L s = false) := hin
    clear HF hin h HT0 hZ hT hN
    cases hro : roomy L.length (total L) s.size
    · have Hro := of_decide_eq_false hro
      have HRo : Hid (roomy L.length (total L) s.size = false) := hro
      clear hro
      by_cases g1 : 65536 < Z
      · have q1 : decide (65536 < Z) = true := decide_eq_true g1
        clear Hro
        go_enter Tryd.func85, Tryd.ntmps85
        go_wp2_with fail
        refine HF1.out.mono ?_
        rintro e w1 ⟨rfl, rfl⟩
        go_wp2
        go_ret2
        refine ⟨by rw [eV.out, HRo.out]; rfl, ⟨.slice a L.length c, ?_⟩, But.refl _ _⟩
        rw [eL.out, HRo.out]
        exact H.out.mono fun k hk => .inl hk
      · have q1 : decide (65536 < Z) = false := decide_eq_false g1
        by_cases g2 : L.length = 65536
        · have q2 : ((L.length : Int) == 65536) = true := by rw [beq_iff_eq]; omega
          clear Hro g2
          go_enter Tryd.func85, Tryd.ntmps85
          go_wp2_with fail
          refine HF1.out.mono ?_
          rintro e w1 ⟨rfl, rfl⟩
          go_wp2
          go_ret2
          refine ⟨by rw [eV.out, HRo.out]; rfl, ⟨.slice a L.length c, ?_⟩, But.refl _ _⟩
          rw [eL.out, HRo.out]
          exact H.out.mono fun k hk => .inl hk
        · have q2 : ((L.length : Int) == 65536) = false := by rw [beq_eq_false_iff_ne]; omega
          have q3 : decide (4194304 < T + Z) = true := decide_eq_true (by have h1 := HN.out; have h2 := HZ.out; have h3 := HTt.out; omega)
          clear Hro g2
          go_enter Tryd.func85, Tryd.ntmps85
          go_wp2_with fail
          refine HF1.out.mono ?_
          rintro e w1 ⟨rfl, rfl⟩
          go_wp2
          go_ret2
          refine ⟨by rw [eV.out, HRo.out]; rfl, ⟨.slice a L.length c, ?_⟩, But.refl _ _⟩
          rw [eL.out, HRo.out]
          exact H.out.mono fun k hk => .inl hk
    · have Hro := of_decide_eq_true hro
      have HRo : Hid (roomy L.length (total L) s.size = true) := hro
      have q1 : decide (65536 < Z) = false := decide_eq_false (by have h2 := HZ.out; omega)
      have q2 : ((L.length : Int) == 65536) = false := by rw [beq_eq_false_iff_ne]; omega
      have q3 : decide (4194304 < T + Z) = false := decide_eq_false (by have h2 := HZ.out; have h3 := HTt.out; omega)
      have hZ6 : Z ≤ 65536 := by have h2 := HZ.out; omega
      have HR : Hid ((s.size : Int) ≤ 65536 ∧ L.length < 65536 ∧ total L + s.size ≤ 4194304) := ⟨by omega, by omega, by omega⟩
      have hLi : (L.length : Int) ≤ 9223372036854775806 := by omega
      clear Hro hro
      go_enter Tryd.func85, Tryd.ntmps85
      go_wp2_with fail
      refine HF1.out.mono ?_
      rintro e w1 ⟨rfl, rfl⟩
      go_wp2_with (first
        | (at_builtin; refine append_str _ rfl _ _ rfl 0 (.slice a L.length c) L rfl (H.out.own.alloc _) w1.heap.size s rfl (cell_new _ _ _) (by have := HR.out; omega) (Nat.zero_le _) ?_
           intro a' c' w2 o2' g2' hloc'
           have b2 : Hid (w2.heap[tb]? = some (.cells #[.slice a L.length c, .int .i64 (total L : Nat)] 130 (0, 0))) := hide ((((But.refl (fun k => (Value.slice a L.length c).ownBlock = some k) w1).alloc _ |>.grown g2' (fun k _ e => e)).block tb H.out.lt (fun e => H.out.row_tb tb e rfl)).trans H.out.blk)
           have d0 : w2.cell? ⟨tb, 0, none⟩ = some (.slice a L.length c) := by rw [cell_of_row w2 tb 0 _ 130 (0, 0) b2.out]; rfl
           have d1 : w2.cell? ⟨tb, 1, none⟩ = some (.int .i64 T) := by rw [cell_of_row w2 tb 1 _ 130 (0, 0) b2.out, HTt.out]; rfl
           have f2 : ∀ j, w2.frozen? ⟨tb, j, none⟩ = false := fun j => frozen_of_row w2 tb j _ 130 b2.out
           have o2 : Hid (w2.ownsRow 0 9 1 (.slice a' (L.length + 1) c') (L.length + 1) ((L ++ [s]).map Value.string)) := hide o2'
           have g2 : Hid _ := hide g2'
           have hloc : Hid _ := hide hloc'
           clear o2' g2' hloc')
        | go_in)
      go_ret2
      have E := rput_end H.out o2.out g2.out (by simpa using hloc.out) (isIn_not.1 HIN.out) (by have := HR.out; omega) HR.out.2.1 HR.out.2.2
      rw [← HTt.out, ← HZ.out] at E
      refine ⟨?_, ⟨.slice a' (L.length + 1) c', ?_⟩, E.2⟩
      · rw [eV.out, HRo.out]
        rfl
      · rw [eL.out, HRo.out]
        exact E.1.mono fun k hk => by rw [size_set, size_set]; exact hk
  · rw [hin] at HF
    have HF1 : Hid _ := hide HF
    have eV : Hid (internV L s = .tuple #[.int .i64 (place L s : Int), .int .i64 0]) := hide (by unfold internV; rw [hin]; rfl)
    have eL : Hid (internL L s = L) := hide (by unfold internL; rw [hin]; rfl)
    clear HF hin h HT0 hZ hT hN
    go_enter Tryd.func85, Tryd.ntmps85
    go_wp2_with fail
    refine HF1.out.mono ?_
    rintro e w1 ⟨rfl, rfl⟩
    go_wp2
    go_ret2
    refine ⟨by rw [eV.out]; rfl, ⟨.slice a L.length c, ?_⟩, But.refl _ _⟩
    rw [eL.out]
    exact H.out.mono fun k hk => .inl hk
end Go.Proofs.YtpnacioliccglaaDoor.E6
/-
  The document's forest in memory: New, Len, find, within.
-/
namespace Go.Proofs.YtpnacioliccglaaDoor.E6
open Go.RowKit Go.Maps Go.Shelf
structure RFr (w : World) (fb tb : Nat) (S : Nat → Prop) (N : List Nd) (v : Value) : Prop where
  blk : w.heap[fb]? = some (.cells #[.pointer (some ⟨tb, 0, none⟩), v] 128 (0, 0))
  own : w.ownsRow 0 134 2 v N.length (ncells N)
  inS : S fb
  rowS : ∀ g, v.ownBlock = some g → S g
  len : N.length ≤ 262144
  small : ∀ n ∈ N, n.1 ≤ 262144 ∧ n.2 ≤ 65536
section
variable {w : World} {fb tb : Nat} {S : Nat → Prop} {N : List Nd} {v : Value}
theorem RFr.kept {T : Nat → Prop} {w' : World} (h : RFr w fb tb S N v) (hb : But T w w') (hd : ∀ k, S k → ¬ T k) : RFr w' fb tb S N v :=
  ⟨(hb.block fb (Array.getElem?_eq_some_iff.1 h.blk).1 (hd _ h.inS)).trans h.blk, own_but h.own hb fun g e => hd g (h.rowS g e), h.inS, h.rowS, h.len, h.small⟩
theorem RFr.mono {T : Nat → Prop} (h : RFr w fb tb S N v) (hT : ∀ k, S k → T k) : RFr w fb tb T N v := ⟨h.blk, h.own, hT _ h.inS, fun g e => hT _ (h.rowS g e), h.len, h.small⟩
theorem RFr.drewN (h : RFr w fb tb S N v) (j : Nat) : RFr (w.drewN j) fb tb S N v := h.kept (T := fun _ => False) (But.of_below (below_drewN (Below.refl _ _) j)) (fun _ _ e => e)
theorem RFr.cell0 (h : RFr w fb tb S N v) : w.cell? ⟨fb, 0, none⟩ = some (.pointer (some ⟨tb, 0, none⟩)) := by rw [cell_of_row w fb 0 _ 128 (0, 0) h.blk]; rfl
theorem RFr.cell1 (h : RFr w fb tb S N v) : w.cell? ⟨fb, 1, none⟩ = some v := by rw [cell_of_row w fb 1 _ 128 (0, 0) h.blk]; rfl
theorem RFr.free (h : RFr w fb tb S N v) (j : Nat) : w.frozen? ⟨fb, j, none⟩ = false := frozen_of_row w fb j _ 128 h.blk
theorem RFr.lt (h : RFr w fb tb S N v) : fb < w.heap.size := (Array.getElem?_eq_some_iff.1 h.blk).1
theorem RFr.row_fb (h : RFr w fb tb S N v) : ∀ g, v.ownBlock = some g → g ≠ fb := by
  intro g hg e
  rcases h.own.2 with ⟨hv, _⟩ | ⟨g', cap, cur, hv, hb, hh, _⟩
  · rw [hv] at hg; simp [Value.ownBlock] at hg
  · rw [hv] at hg; simp [Value.ownBlock] at hg; subst hg; subst e
    rw [h.blk] at hh; simp at hh
theorem RFr.node_at (h : RFr w fb tb S N v) {i : Nat} {n : Nd} (hn : N[i]? = some n) : ∃ g c, v = .slice (some ⟨g, 0, none⟩) N.length c ∧ w.cell? ⟨g, i * 2, none⟩ = some (.int .i64 (n.1 : Int)) ∧ w.cell? ⟨g, i * 2 + 1, none⟩ = some (.int .i64 (n.2 : Int)) := by
  have hi := (List.getElem?_eq_some_iff.1 hn).1
  rcases h.own.2 with ⟨hv, h0⟩ | ⟨g, cap, cur, hv, hb, hg, _⟩
  · omega
  · have hc := ncells_at N i n hn
    have c1 := h.own.cells (g := g) (by rw [hv]; rfl) (i * 2) _ hc.1
    have c2 := h.own.cells (g := g) (by rw [hv]; rfl) (i * 2 + 1) _ hc.2
    have ha : ∀ j, (⟨g, 0, none⟩ : Addr).add j = ⟨g, j, none⟩ := fun j => by unfold Addr.add; split <;> simp_all
    rw [ha] at c1 c2
    exact ⟨g, cap, hv, c1, c2⟩
end
theorem rnew_f (tb : Nat) (w : World) :
    Calls Tryd.prog 59 #[.pointer (some ⟨tb, 0, none⟩)] w fun e w' => e = .returned (.pointer (some ⟨w.heap.size, 0, none⟩)) ∧ RFr w' w.heap.size tb (fun k => k = w.heap.size) [] (.slice none 0 0) ∧ w' = w.alloc (.cells #[.pointer (some ⟨tb, 0, none⟩), .slice none 0 0] 128) := by
  go_enter Tryd.func59, Tryd.ntmps59
  go_wp2
  go_ret
  exact ⟨rfl, ⟨heap_alloc_new w _, World.ownsRow_nil _ _ _ _, rfl, by simp [Value.ownBlock], by simp, by simp⟩, rfl⟩
theorem within_any (a : Option Addr) (n c : Nat) (L : List ByteArray) (s : ByteArray) (w : World) (hr : SRow w a n L) (hn : (n : Int) ≤ 9223372036854775806) :
    Calls Tryd.prog 109 #[.slice a n c, .string s] w fun e w' => e = .returned (.bool (isIn L s)) ∧ w' = w := by
  have HR : Hid (SRow w a n L) := hr
  have hl := hr.len
  clear hr
  go_enter Tryd.func109, Tryd.ntmps109
  go_wp2
  go_loopw [5] (fun i wr => ∃ k : Nat, k ≤ n ∧ i = .int .i64 k ∧ wr = w ∧ isIn (L.take k) s = false) (fun i _ => n - (intOf i).toNat)
  case atStart => exact ⟨0, Nat.zero_le _, rfl, rfl, rfl⟩
  case round =>
    obtain ⟨k, hk, rfl, rfl, he⟩ := hrel
    have HE : Hid (isIn (L.take k) s = false) := he
    clear he
    by_cases hlt : k < n
    · obtain ⟨bo, oo, rfl, hco⟩ := HR.out.at hlt
      have HX : Hid (if (L.getD k ByteArray.empty).toList == s.toList then isIn L s = true else isIn (L.take (k + 1)) s = false) := hide (by
        cases hq : (L.getD k ByteArray.empty).toList == s.toList
        · exact isIn_take_succ (by omega) (str_ne hq) HE.out
        · have es := str_eq hq
          have hg : L[k]? = some s := by rw [← es]; exact getD_get (by omega)
          exact isIn_iff.2 (List.mem_of_getElem? hg))
      generalize L.getD k ByteArray.empty = x at hco HX
      go_wp2
      · go_ret
        have := HX.out
        rw [if_pos ‹_›] at this
        exact ⟨by rw [this]; rfl, rfl⟩
      · have := HX.out
        rw [if_neg (by simp only [‹_ = false›]; decide)] at this
        exact ⟨⟨k + 1, by omega, by go_num, trivial, this⟩, by simp [intOf]; omega⟩
    · have HX : Hid (isIn L s = false) := hide (by
        have e := HE.out
        rwa [List.take_of_length_le (by omega)] at e)
      go_wp2
      go_ret
      exact ⟨by rw [HX.out]; rfl, rfl⟩
theorem nid_take {N : List Nd} {n : Nd} {k : Nat} (hk : N[k]? = some n) (h : n ∉ N.take k) : nid N n = k + 1 := by
  have hm := List.mem_of_getElem? hk
  have hl := (List.getElem?_eq_some_iff.1 hk).1
  rw [nid, if_pos hm]
  have e : N = N.take k ++ N.drop k := (List.take_append_drop k N).symm
  have hd : N.drop k = n :: N.drop (k + 1) := by
    rw [List.drop_eq_getElem_cons hl, (List.getElem?_eq_some_iff.1 hk).2]
  rw [e, List.idxOf_append, if_neg h, hd]
  simp
  omega
theorem guardNode : Tryd.prog.eqGuardType Tryd.prog.depth 134 = false := by kernel_rfl
theorem eql_node (w : World) (a b c d : Int) : (binOp .eql 134 (.agg #[.int .i64 a, .int .i64 b]) (.agg #[.int .i64 c, .int .i64 d])).run Tryd.prog w = .ok (.bool (a == c && b == d)) w := by
  have hu : Tryd.prog.underlying 134 = some (.struct (Tryd.prog.fieldsOf 134)) := by simp [Program.fieldsOf, Tryd.underlying134]
  have hp : Tryd.prog.stoodInHeld 134 = false := by kernel_rfl
  rw [run_eql_struct, show (10000 : Nat) = 9998 + 1 + 1 from rfl, run_equalIn_struct w _ _ _ _ hu hp]
  simp only [Program.fieldsOf, Tryd.underlying134]
  cases h : (a == c) <;> simp [Op.eqFields, go_sem, Tryd.underlying3, h]
  by_cases e : b = d <;> simp [e]
theorem find_f {w : World} {fb tb : Nat} {S : Nat → Prop} {N : List Nd} {v : Value} (hF : RFr w fb tb S N v) (n : Nd) :
    Calls Tryd.prog 86 #[.pointer (some ⟨fb, 0, none⟩), nodeV n] w fun e w' => e = .returned (.int .i64 (nid N n : Int)) ∧ Below w.heap.size w w' := by
  obtain ⟨W1, hW1⟩ : ∃ W1, W1 = w.alloc (.cells #[.int .i64 (n.1 : Int), .int .i64 (n.2 : Int)] 134) := ⟨_, rfl⟩
  have b1 : Below w.heap.size w W1 := by rw [hW1]; exact (Below.refl _ w).alloc (Nat.le_refl _) _
  have hF1 := hF.kept (T := fun _ => False) (But.of_below b1) (fun _ _ e => e)
  have r1 : W1.heap[w.heap.size]? = some (.cells #[.int .i64 (n.1 : Int), .int .i64 (n.2 : Int)] 134 (0, 0)) := by rw [hW1]; exact heap_alloc_new w _
  have q0 : W1.cell? ⟨w.heap.size, 0, none⟩ = some (.int .i64 (n.1 : Int)) := by rw [cell_of_row W1 w.heap.size 0 _ 134 (0, 0) r1]; rfl
  have q1 : W1.cell? ⟨w.heap.size, 1, none⟩ = some (.int .i64 (n.2 : Int)) := by rw [cell_of_row W1 w.heap.size 1 _ 134 (0, 0) r1]; rfl
  have HF : Hid (RFr W1 fb tb S N v) := hF1
  have HB : Hid _ := hide b1
  have HQ : Hid _ := hide (And.intro q0 q1)
  have c1 := hF1.cell1
  obtain ⟨va, vc, rfl⟩ := own_form hF1.own
  have hNl : (N.length : Int) ≤ 262144 := by have := hF.len; omega
  unfold nodeV
  clear hF hF1 b1 r1 q0 q1
  go_enter Tryd.func86, Tryd.ntmps86
  go_wp2
  rw [← hW1]
  clear hW1
  go_loopw [5] (fun i wr => ∃ k q : Nat, k ≤ N.length ∧ i = .int .i64 k ∧ wr = W1.drewN q ∧ n ∉ N.take k) (fun i _ => N.length - (intOf i).toNat)
  case atStart => exact ⟨0, 0, Nat.zero_le _, rfl, rfl, by simp⟩
  case round =>
    obtain ⟨k, q, hk, rfl, hw, he⟩ := hrel
    have HE : Hid (n ∉ N.take k) := he
    have HW : Hid (Below w.heap.size w wr) := hide (by rw [hw]; exact below_drewN HB.out q)
    have HWq : Hid (wr = W1.drewN q) := hw
    have hFr : RFr wr fb tb S N (.slice va N.length vc) := by rw [hw]; exact HF.out.drewN q
    have q0 : wr.cell? ⟨w.heap.size, 0, none⟩ = some (.int .i64 (n.1 : Int)) := by rw [hw]; exact cell_drewN HQ.out.1 q
    have q1 : wr.cell? ⟨w.heap.size, 1, none⟩ = some (.int .i64 (n.2 : Int)) := by rw [hw]; exact cell_drewN HQ.out.2 q
    have k1 := hFr.cell1
    clear hw he c1
    by_cases hlt : k < N.length
    · obtain ⟨g, gc, hv, n0, n1⟩ := hFr.node_at (List.getElem?_eq_getElem hlt)
      cases hv
      have hkI : (k : Int) < N.length := by omega
      obtain ⟨m, hm⟩ : ∃ m, m = N[k] := ⟨_, rfl⟩
      have hmg : N[k]? = some m := by rw [hm]; exact List.getElem?_eq_getElem hlt
      rw [← hm] at n0 n1
      obtain ⟨b, hb⟩ : ∃ b, b = ((m.1 : Int) == n.1 && (m.2 : Int) == n.2) := ⟨_, rfl⟩
      have hq : ∀ W : World, (binOp .eql 134 (.agg #[.int .i64 (m.1 : Int), .int .i64 (m.2 : Int)]) (.agg #[.int .i64 (n.1 : Int), .int .i64 (n.2 : Int)])).run Tryd.prog W = .ok (.bool b) W := fun W => by rw [hb]; exact eql_node W _ _ _ _
      have hgn := guardNode
      have HX : Hid (if b = true then nid N n = k + 1 else n ∉ N.take (k + 1)) := hide (by
        cases b with
        | true =>
          have h1 := hb.symm
          simp at h1
          have e : m = n := Prod.ext (by omega) (by omega)
          subst e
          exact nid_take hmg HE.out
        | false =>
          show n ∉ N.take (k + 1)
          have ne : m ≠ n := by rintro rfl; simp at hb
          rw [List.take_add_one, hmg]
          simp only [Option.toList_some, List.mem_append, List.mem_singleton, not_or]
          exact ⟨HE.out, fun e => ne e.symm⟩)
      clear hFr hm hmg hb
      go_wp2
      go_quiet (fail)
      clear hq hgn
      go_wp2
      · go_ret
        have := HX.out
        rw [if_pos ‹_›] at this
        exact ⟨by rw [this]; simp, below_drewN HW.out nq⟩
      · have := HX.out
        rw [if_neg (by simp only [‹_ = false›]; decide)] at this
        exact ⟨⟨k + 1, q + nq, by omega, by go_num, by rw [HWq.out]; exact World.drewN_drewN _ _ _, this⟩, by simp [intOf]; omega⟩
    · have HX : Hid (nid N n = 0) := hide (nid_none (by have e := HE.out; rwa [List.take_of_length_le (by omega)] at e))
      clear hFr
      go_wp2
      go_ret
      exact ⟨by rw [HX.out]; rfl, HW.out⟩
end Go.Proofs.YtpnacioliccglaaDoor.E6
