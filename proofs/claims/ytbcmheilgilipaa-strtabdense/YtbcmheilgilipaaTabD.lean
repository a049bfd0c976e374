/-
  The statements' own 'table': of the strings that fit.
-/
import Derived.Test.YtbcmheilgilipaaTabC
namespace Go.Proofs.Ytbcmheilgilipaa
open Go.RowKit Go.Maps
/-- The last place of a string among the first j, or -1. -/
def lastAt (L : List ByteArray) (s : ByteArray) (j : Nat) : Int := if isIn (L.take j) s then (place L s : Int) else -1
theorem lastAt_zero (L : List ByteArray) (s : ByteArray) : lastAt L s 0 = -1 := by simp [lastAt, isIn]
theorem lastAt_hit {L : List ByteArray} {s : ByteArray} {j : Nat} (hd : L.Nodup) (hj : j < L.length) (h : L.getD j ByteArray.empty = s) : lastAt L s (j + 1) = (j : Int) := by
  have hg : L[j]? = some s := by rw [List.getD_eq_getElem?_getD] at h; simp [hj] at h ⊢; exact h
  unfold lastAt
  rw [if_pos (isIn_iff.2 (by rw [List.mem_take_iff_getElem]; exact ⟨j, by omega, (List.getElem?_eq_some_iff.1 hg).2⟩)), place_of_get hd hg]
theorem lastAt_miss {L : List ByteArray} {s : ByteArray} {j : Nat} (hj : j < L.length) (h : L.getD j ByteArray.empty ≠ s) : lastAt L s (j + 1) = lastAt L s j := by
  unfold lastAt
  have : isIn (L.take (j + 1)) s = isIn (L.take j) s := by
    rw [List.take_succ_eq_append_getElem hj, isIn_snoc_ne]
    intro e; apply h; rw [List.getD_eq_getElem?_getD]; simp [hj, ← e]
  rw [this]
theorem lastAt_all (L : List ByteArray) (s : ByteArray) {j : Nat} (hj : L.length ≤ j) : lastAt L s j = if isIn L s then (place L s : Int) else -1 := by
  unfold lastAt; rw [List.take_of_length_le hj]
theorem SRow.but {S : Nat → Prop} {w w' : World} {a : Option Addr} {n : Nat} {L : List ByteArray} (h : SRow w a n L) (hb : But S w w') (hd : ∀ x, a = some x → ¬ S x.block) : SRow w' a n L := by
  refine ⟨h.len, h.cells.imp id ?_⟩
  rintro ⟨b, off, ha, hc⟩
  refine ⟨b, off, ha, fun i hi => ?_⟩
  rw [World.cell?_of_block (w := w) (hb.block b (World.block_lt_of_cell? w _ (hc i hi)) (hd _ ha))]
  exact hc i hi
theorem SRow.below {w w' : World} {a : Option Addr} {n : Nat} {L : List ByteArray} (h : SRow w a n L) (hb : Below w.heap.size w w') : SRow w' a n L :=
  h.but (S := fun _ => False) (But.of_below hb) (fun _ _ e => e)
/-- A table and a list of its strings beside it, both new since w0. -/
structure Both (w0 w : World) (tb : Nat) (S : Nat → Prop) (L : List ByteArray) (v mv : Value) (a : Option Addr) (c : Nat) : Prop where
  tab : Tab w tb S L v mv
  own : w.ownsRow w0.heap.size 9 1 (.slice a L.length c) L.length (L.map Value.string)
  apart : ∀ g, (Value.slice a L.length c).ownBlock = some g → ¬ S g
  newS : ∀ k, S k → w0.heap.size ≤ k ∧ k < w.heap.size
  below : Below w0.heap.size w0 w
theorem Both.row {w0 w : World} {tb : Nat} {S : Nat → Prop} {L : List ByteArray} {v mv : Value} {a : Option Addr} {c : Nat} (h : Both w0 w tb S L v mv a c) : SRow w a L.length L := SRow.of_own h.own
/-- Intern of a string that is there or has room. -/
theorem Both.intern {w0 w w' : World} {tb : Nat} {S : Nat → Prop} {L : List ByteArray} {v mv v' mv' : Value} {a : Option Addr} {c : Nat} (h : Both w0 w tb S L v mv a c) (hb : But S w w') (ht : Tab w' tb (fun k => S k ∨ (w.heap.size ≤ k ∧ k < w'.heap.size)) L v' mv') :
    Both w0 w' tb (fun k => S k ∨ (w.heap.size ≤ k ∧ k < w'.heap.size)) L v' mv' a c := by
  refine ⟨ht, own_but h.own hb h.apart, ?_, ?_, h.below.trans (hb.below h.below.size fun k hk => (h.newS k hk).1)⟩
  · intro g hg e
    rcases e with e | e
    · exact h.apart g hg e
    · have := h.own.lt g hg; omega
  · intro k hk
    have := hb.size
    have := h.below.size
    rcases hk with e | e
    · have := h.newS k e; omega
    · omega
theorem str_eq {a b : ByteArray} (h : (a.toList == b.toList) = true) : a = b := by
  have e := eq_of_beq h
  rw [ByteArray.toList_eq, ByteArray.toList_eq] at e
  exact skey_inj (by unfold skey; rw [e])
theorem str_ne {a b : ByteArray} (h : (a.toList == b.toList) = false) : a ≠ b := by
  intro e; subst e; simp at h
theorem intern_old {w : World} {tb : Nat} {S : Nat → Prop} {L : List ByteArray} {v mv : Value} (h : Tab w tb S L v mv) (s : ByteArray) (hs : s.size ≤ maxLen) (hin : isIn L s = true) :
    Calls Try.prog 20 #[.pointer (some ⟨tb, 0, none⟩), .string s] w fun e w' => e = .returned (.tuple #[.int .i64 (place L s : Int), .int .i64 0]) ∧ (∃ v' mv', Tab w' tb (fun k => S k ∨ (w.heap.size ≤ k ∧ k < w'.heap.size)) L v' mv') ∧ But S w w' := by
  have h1 : internV L s = .tuple #[.int .i64 (place L s : Int), .int .i64 0] := by unfold internV; rw [hin]; rfl
  have h2 : internL L s = L := by unfold internL; rw [hin]; rfl
  have := intern_any h s hs
  rw [h1, h2] at this
  exact this
theorem intern_new {w : World} {tb : Nat} {S : Nat → Prop} {L : List ByteArray} {v mv : Value} (h : Tab w tb S L v mv) (s : ByteArray) (hs : s.size ≤ maxLen) (hin : isIn L s = false) (hr : roomy L.length (total L) s.size = true) :
    Calls Try.prog 20 #[.pointer (some ⟨tb, 0, none⟩), .string s] w fun e w' => e = .returned (.tuple #[.int .i64 (L.length : Int), .int .i64 0]) ∧ (∃ v' mv', Tab w' tb (fun k => S k ∨ (w.heap.size ≤ k ∧ k < w'.heap.size)) (L ++ [s]) v' mv') ∧ But S w w' := by
  have h1 : internV L s = .tuple #[.int .i64 (L.length : Int), .int .i64 0] := by unfold internV; rw [hin, hr]; rfl
  have h2 : internL L s = L ++ [s] := by unfold internL; rw [hin, hr]; rfl
  have := intern_any h s hs
  rw [h1, h2] at this
  exact this
/-- The list grows, then the table. -/
theorem Both.grow {w0 w w1 w2 : World} {tb : Nat} {S : Nat → Prop} {L : List ByteArray} {v mv v' mv' : Value} {a a' : Option Addr} {c c' : Nat} {s : ByteArray} (h : Both w0 w tb S L v mv a c)
    (o1 : w1.ownsRow w0.heap.size 9 1 (.slice a' (L.length + 1) c') (L.length + 1) ((L ++ [s]).map Value.string)) (g1 : (w.alloc (.cells #[.string s] 9)).grownBy w1 (Value.slice a L.length c).ownBlock)
    (hl : (Value.slice a' (L.length + 1) c').ownBlock = (Value.slice a L.length c).ownBlock ∨ (Value.slice a' (L.length + 1) c').ownBlock = some (w.alloc (.cells #[.string s] 9)).heap.size) :
    Tab w1 tb S L v mv ∧ (But S w1 w2 → Tab w2 tb (fun k => S k ∨ (w1.heap.size ≤ k ∧ k < w2.heap.size)) (L ++ [s]) v' mv' →
      Both w0 w2 tb (fun k => S k ∨ (w1.heap.size ≤ k ∧ k < w2.heap.size)) (L ++ [s]) v' mv' a' c') := by
  have k1 : But (fun k => (Value.slice a L.length c).ownBlock = some k) w w1 := (But.refl _ w).alloc _ |>.grown g1 (fun k _ e => e)
  refine ⟨h.tab.kept k1 (fun k hk e => h.apart k e hk), fun hb ht => ?_⟩
  have hnot : ∀ g, (Value.slice a' (L.length + 1) c').ownBlock = some g → ¬ S g := by
    intro g hg e
    rcases hl with e1 | e1
    · exact h.apart g (e1.symm.trans hg) e
    · rw [e1] at hg
      have := (h.newS g e).2
      simp at hg; omega
  have hs1 := k1.size
  have hs0 := h.below.size
  refine ⟨ht, ?_, ?_, ?_, (h.below.trans (k1.below hs0 (fun k hk => (h.own.lt k hk).1))).trans (hb.below (Nat.le_trans hs0 hs1) (fun k hk => (h.newS k hk).1))⟩
  · rw [List.length_append]; exact own_but o1 hb hnot
  · intro g hg e
    rw [List.length_append] at hg
    rcases e with e | e
    · exact hnot g hg e
    · have := o1.lt g hg; omega
  · intro k hk
    have := hb.size
    rcases hk with e | e
    · have := h.newS k e; omega
    · omega
set_option maxRecDepth 4000 in
theorem table_any (a : Option Addr) (n c : Nat) (l : List ByteArray) (w : World) (hr : SRow w a n l) (hn : (n : Int) ≤ 9223372036854775807) (hz : ∀ s ∈ l, s.size ≤ maxLen) :
    Calls Try.prog 10 #[.slice a n c] w fun e w' => ∃ tb S L v mv aO cO, e = .returned (.tuple #[.pointer (some ⟨tb, 0, none⟩), .slice aO L.length cO, .bool true]) ∧ Both w w' tb S L v mv aO cO := by
  have HZ : Hid (∀ s ∈ l, s.size ≤ maxLen) := hz
  clear hz
  go_enter Try.func10, Try.ntmps10
  go_wp2_with fail
  refine (new_any w).mono ?_
  rintro e w' ⟨rfl, rfl⟩
  have B0 : Hid (Both w (w.alloc (.cells #[.slice none 0 0, .map none, .int .i64 0] 71)) w.heap.size (fun k => k = w.heap.size) [] (.slice none 0 0) (.map none) none 0) := hide
    ⟨⟨heap_alloc_new w _, World.ownsRow_nil _ _ _ _, .inl ⟨rfl, rfl⟩, rfl, fun g e => by simp [Value.ownBlock] at e, List.nodup_nil, by simp, by simp, by simp [total]⟩, World.ownsRow_nil _ _ _ _, fun g e => by simp [Value.ownBlock] at e, fun k e => by subst e; simp, (Below.refl _ w).alloc (Nat.le_refl _) _⟩
  obtain ⟨tb, hA⟩ : ∃ tb, tb = w.heap.size := ⟨_, rfl⟩
  rw [← hA] at B0 ⊢
  generalize hw1 : w.alloc (.cells #[.slice none 0 0, .map none, .int .i64 0] 71) = w1 at B0 ⊢
  clear hA hw1
  go_wp2
  go_loopw [6, 7, 8] (fun o z i wr => ∃ (k : Nat) (S : Nat → Prop) (L : List ByteArray) (v mv : Value) (aO : Option Addr) (cO : Nat), k ≤ n ∧ (k : Int) ≤ 60000 ∧ o = .slice aO L.length cO ∧ z = .int .i64 (total L : Nat) ∧ i = .int .i64 k ∧ L.length ≤ k ∧ Both w wr tb S L v mv aO cO) (fun _ _ i _ => n - (intOf i).toNat)
  case atStart => exact ⟨0, _, [], _, _, none, 0, Nat.zero_le _, by decide, rfl, rfl, rfl, Nat.zero_le _, B0.out⟩
  case round =>
    obtain ⟨k, S, L, v, mv, aO, cO, hk, hk6, rfl, rfl, rfl, hLk, hB⟩ := hrel
    have HB : Hid (Both w wr tb S L v mv aO cO) := hB
    have hl4 := hB.tab.sum
    have ht4 : (total L : Int) ≤ 4194304 := by omega
    have hL6 : (L.length : Int) ≤ 60000 := by omega
    obtain ⟨T, hT⟩ : ∃ T : Int, T = ((total L : Nat) : Int) := ⟨_, rfl⟩
    have hT0 : 0 ≤ T := by omega
    rw [← hT] at ht4 ⊢
    have HT : Hid (T = ((total L : Nat) : Int)) := hT
    clear hl4 hT
    by_cases hlt : k < n
    · by_cases h6 : (k : Int) < 60000
      · obtain ⟨b, off, rfl, hc⟩ := (hr.below hB.below).at hlt
        have hzs : Hid ((l.getD k ByteArray.empty).size ≤ maxLen) := hide (HZ.out _ (by
          have hl := hr.len
          rw [List.getD_eq_getElem?_getD]; simp [hl, hlt]))
        generalize l.getD k ByteArray.empty = s at hc hzs
        obtain ⟨Z, hZ⟩ : ∃ Z : Int, Z = ((s.size : Nat) : Int) := ⟨_, rfl⟩
        have hsz : Z ≤ 9223372036854775807 := by have := hzs.out; unfold maxLen at this; omega
        have hZ0 : 0 ≤ Z := by omega
        have hlen : ∀ (ty : TypeId) (W : World), (Builtin.len_ #[9] ty #[.string s]).run Try.prog W = .ok (.int .i64 Z) W := fun ty W => by rw [hZ]; exact run_len_string W 9 ty s Try.underlying9
        have HZ' : Hid (Z = ((s.size : Nat) : Int)) := hZ
        clear hB hZ
        by_cases h1 : Z ≤ 65536
        · have q1 : decide (65536 < Z) = false := decide_eq_false (by omega)
          by_cases h2 : T + Z ≤ 4194304
          · have q2 : decide (4194304 < T + Z) = false := decide_eq_false (by omega)
            have H1 : Hid (Z ≤ 65536) := h1
            have H2 : Hid (T + Z ≤ 4194304) := h2
            clear h2
            go_wp2
            have H6 : Hid ((k : Int) < 60000 ∧ L.length ≤ k) := ⟨h6, hLk⟩
            clear hL6 hk6 h6 q1 q2 hsz
            go_loopw [10, 11] (fun t j wr' => ∃ i : Nat, i ≤ L.length ∧ t = .int .i64 (lastAt L s i) ∧ j = .int .i64 i ∧ wr' = wr) (fun _ j _ => L.length - (intOf j).toNat)
            case atStart => exact ⟨0, Nat.zero_le _, by rw [lastAt_zero], rfl, rfl⟩
            case round =>
              obtain ⟨i, hi, rfl, rfl, rfl⟩ := hrel
              by_cases hil : i < L.length
              · obtain ⟨bo, oo, rfl, hco⟩ := HB.out.row.at hil
                have HX : Hid (lastAt L s (i + 1) = if (L.getD i ByteArray.empty).toList == s.toList then (i : Int) else lastAt L s i) := hide (by
                  cases hq : (L.getD i ByteArray.empty).toList == s.toList
                  · exact lastAt_miss hil (str_ne hq)
                  · exact lastAt_hit HB.out.tab.nodup hil (str_eq hq))
                generalize L.getD i ByteArray.empty = x at hco HX
                go_wp2
                · exact ⟨⟨i + 1, by omega, by rw [HX.out, if_pos ‹_›], by go_num, trivial⟩, by simp [intOf]; omega⟩
                · exact ⟨⟨i + 1, by omega, by rw [HX.out, if_neg (by simp only [‹_ = false›]; decide)], by go_num, trivial⟩, by simp [intOf]; omega⟩
              · rw [lastAt_all L s (by omega)]
                cases hin : isIn L s
                · have HIN : Hid (isIn L s = false) := hin
                  rw [if_neg (by simp)]
                  clear hin
                  go_wp2_with (first
                    | (at_builtin; refine append_str _ rfl _ _ rfl w.heap.size (.slice aO L.length cO) L rfl (HB.out.own.alloc _) wr.heap.size s rfl (cell_new _ _ _) (by have := H6.out; omega) (by have := HB.out.below.size; simp; omega) ?_
                       intro a' c' w2 o2 g2 hloc)
                    | fail)
                  have G2 : Hid ((wr.alloc (.cells #[.string s] 9)).grownBy w2 (Value.slice aO L.length cO).ownBlock) := g2
                  have O2 : Hid (w2.ownsRow w.heap.size 9 1 (.slice a' (L.length + 1) c') (L.length + 1) ((L ++ [s]).map Value.string)) := o2
                  have HL2 : Hid _ := hide hloc
                  clear o2 g2 hloc
                  refine (intern_new (HB.out.grow (w2 := w2) (v' := v) (mv' := mv) O2.out G2.out HL2.out).1 s hzs.out HIN.out (decide_eq_true (by have := H1.out; have := H2.out; have := H6.out; have := HT.out; have := HZ'.out; omega))).mono ?_
                  rintro e w3 ⟨rfl, ⟨v', mv', ht⟩, hb⟩
                  have HB2 : Hid (Both w w3 tb _ (L ++ [s]) v' mv' a' c') := hide ((HB.out.grow O2.out G2.out HL2.out).2 hb ht)
                  have hln : (L ++ [s]).length = L.length + 1 := by simp
                  have c0 := ht.cell0
                  have c2 := ht.cell2
                  obtain ⟨a2, k2, rfl⟩ := own_form ht.own
                  clear ht hb
                  have q0 := len_any tb _ k2 a2 w3 c0
                  have q2 := bytes_any tb _ w3 c2
                  rw [total_snoc, Int.natCast_add, ← HT.out, ← HZ'.out] at q2
                  rw [hln] at q0
                  have Q0 : Hid _ := hide q0
                  have Q2 : Hid _ := hide q2
                  clear q0 q2 c0 c2 hln
                  go_wp2_with fail
                  refine Q0.out.mono ?_
                  rintro e w4 ⟨rfl, rfl⟩
                  go_wp2_with fail
                  refine Q2.out.mono ?_
                  rintro e w4 ⟨rfl, rfl⟩
                  go_wp2
                  refine ⟨⟨k + 1, _, L ++ [s], _, mv', a', c', by omega, by have := H6.out; omega, by simp, by rw [total_snoc, Int.natCast_add, ← HT.out, ← HZ'.out], by go_num, by simp; omega, HB2.out⟩, by simp [intOf]; omega⟩
                · have HIN : Hid (isIn L s = true) := hin
                  rw [if_pos rfl]
                  clear hin
                  go_wp2_with fail
                  refine (intern_old HB.out.tab s hzs.out HIN.out).mono ?_
                  rintro e w2 ⟨rfl, ⟨v', mv', ht⟩, hb⟩
                  have HB2 : Hid (Both w w2 tb _ L v' mv' aO cO) := hide (HB.out.intern hb ht)
                  have c0 := ht.cell0
                  have c2 := ht.cell2
                  obtain ⟨a2, k2, rfl⟩ := own_form ht.own
                  clear ht hb
                  have q0 := len_any tb L.length k2 a2 w2 c0
                  have q2 := bytes_any tb _ w2 c2
                  rw [← HT.out] at q2
                  have Q0 : Hid _ := hide q0
                  have Q2 : Hid _ := hide q2
                  clear q0 q2
                  clear c0 c2
                  go_wp2_with fail
                  refine Q0.out.mono ?_
                  rintro e w4 ⟨rfl, rfl⟩
                  go_wp2_with fail
                  refine Q2.out.mono ?_
                  rintro e w4 ⟨rfl, rfl⟩
                  go_wp2
                  refine ⟨⟨k + 1, _, L, _, mv', aO, cO, by omega, by have := H6.out; omega, rfl, by rw [HT.out], by go_num, by omega, HB2.out⟩, by simp [intOf]; omega⟩
          · have q2 : decide (4194304 < T + Z) = true := decide_eq_true (by omega)
            clear h2
            go_wp2
            exact ⟨⟨k + 1, S, L, v, mv, aO, cO, by omega, by omega, rfl, by rw [HT.out], by go_num, by omega, HB.out⟩, by simp [intOf]; omega⟩
        · go_wp2
          exact ⟨⟨k + 1, S, L, v, mv, aO, cO, by omega, by omega, rfl, by rw [HT.out], by go_num, by omega, HB.out⟩, by simp [intOf]; omega⟩
      · go_wp2
        go_ret3
        exact ⟨tb, S, L, v, mv, aO, cO, rfl, HB.out⟩
    · go_wp2
      go_ret3
      exact ⟨tb, S, L, v, mv, aO, cO, rfl, HB.out⟩
end Go.Proofs.Ytbcmheilgilipaa
