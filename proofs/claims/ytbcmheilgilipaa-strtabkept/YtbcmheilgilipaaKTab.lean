/-
  The statements' own 'table' again, with the number of its strings.
-/
import Derived.Test.YtbcmheilgilipaaTabD
namespace Go.Proofs.Ytbcmheilgilipaa
open Go.RowKit Go.Maps
set_option maxRecDepth 4000 in
theorem table_60 (a : Option Addr) (n c : Nat) (l : List ByteArray) (w : World) (hr : SRow w a n l) (hn : (n : Int) ≤ 9223372036854775807) (hz : ∀ s ∈ l, s.size ≤ maxLen) :
    Calls Try.prog 10 #[.slice a n c] w fun e w' => ∃ tb S L v mv aO cO, e = .returned (.tuple #[.pointer (some ⟨tb, 0, none⟩), .slice aO L.length cO, .bool true]) ∧ Both w w' tb S L v mv aO cO ∧ (L.length : Int) ≤ 60000 := by
  have HZ : Hid (∀ s ∈ l, s.size ≤ maxLen) := hz
  clear hz
  go_enter Try.func10, Try.ntmps10
  go_wp2_with fail
  refine (new_any w).mono ?_
  rintro e w' ⟨rfl, rfl⟩
  have B0 : Hid (Both w (w.alloc (.cells #[.slice none 0 0, .map none, .int .i64 0] 71)) w.heap.size (fun k => k = w.heap.size) [] (.slice none 0 0) (.map none) none 0) := hide
    ⟨⟨heap_alloc_new w _, World.ownsRow_nil _ _ _ _, .inl ⟨rfl, rfl⟩, rfl, fun g e => by simp [Value.ownBlock] at e, List.nodup_nil, by simp, by simp, by simp [total]⟩, World.ownsRow_nil _ _ _ _, fun g e => by simp [Value.ownBlock] at e, fun k e => by subst e; simp, (Below.refl _ w).alloc (Nat.le_refl _) _⟩
  obtain ⟨tb, hA⟩ : ∃ tb, tb = w.heap.size := ⟨_, rfl⟩
  rw [← hA] at B0 ⊢
  generalize hw1 : w.alloc (.cells #[.slice none 0 0, .map none, .int .i64 0] 71) = w1 at B0 ⊢
  clear hA hw1
  go_wp2
  go_loopw [6, 7, 8] (fun o z i wr => ∃ (k : Nat) (S : Nat → Prop) (L : List ByteArray) (v mv : Value) (aO : Option Addr) (cO : Nat), k ≤ n ∧ (k : Int) ≤ 60000 ∧ o = .slice aO L.length cO ∧ z = .int .i64 (total L : Nat) ∧ i = .int .i64 k ∧ L.length ≤ k ∧ Both w wr tb S L v mv aO cO) (fun _ _ i _ => n - (intOf i).toNat)
  case atStart => exact ⟨0, _, [], _, _, none, 0, Nat.zero_le _, by decide, rfl, rfl, rfl, Nat.zero_le _, B0.out⟩
  case round =>
    obtain ⟨k, S, L, v, mv, aO, cO, hk, hk6, rfl, rfl, rfl, hLk, hB⟩ := hrel
    have HB : Hid (Both w wr tb S L v mv aO cO) := hB
    have hl4 := hB.tab.sum
    have ht4 : (total L : Int) ≤ 4194304 := by omega
    have hL6 : (L.length : Int) ≤ 60000 := by omega
    obtain ⟨T, hT⟩ : ∃ T : Int, T = ((total L : Nat) : Int) := ⟨_, rfl⟩
    have hT0 : 0 ≤ T := by omega
    rw [← hT] at ht4 ⊢
    have HT : Hid (T = ((total L : Nat) : Int)) := hT
    clear hl4 hT
    by_cases hlt : k < n
    · by_cases h6 : (k : Int) < 60000
      · obtain ⟨b, off, rfl, hc⟩ := (hr.below hB.below).at hlt
        have hzs : Hid ((l.getD k ByteArray.empty).size ≤ maxLen) := hide (HZ.out _ (by
          have hl := hr.len
          rw [List.getD_eq_getElem?_getD]; simp [hl, hlt]))
        generalize l.getD k ByteArray.empty = s at hc hzs
        obtain ⟨Z, hZ⟩ : ∃ Z : Int, Z = ((s.size : Nat) : Int) := ⟨_, rfl⟩
        have hsz : Z ≤ 9223372036854775807 := by have := hzs.out; unfold maxLen at this; omega
        have hZ0 : 0 ≤ Z := by omega
        have hlen : ∀ (ty : TypeId) (W : World), (Builtin.len_ #[9] ty #[.string s]).run Try.prog W = .ok (.int .i64 Z) W := fun ty W => by rw [hZ]; exact run_len_string W 9 ty s Try.underlying9
        have HZ' : Hid (Z = ((s.size : Nat) : Int)) := hZ
        clear hB hZ
        by_cases h1 : Z ≤ 65536
        · have q1 : decide (65536 < Z) = false := decide_eq_false (by omega)
          by_cases h2 : T + Z ≤ 4194304
          · have q2 : decide (4194304 < T + Z) = false := decide_eq_false (by omega)
            have H1 : Hid (Z ≤ 65536) := h1
            have H2 : Hid (T + Z ≤ 4194304) := h2
            clear h2
            go_wp2
            have H6 : Hid ((k : Int) < 60000 ∧ L.length ≤ k) := ⟨h6, hLk⟩
            clear hL6 hk6 h6 q1 q2 hsz
            go_loopw [10, 11] (fun t j wr' => ∃ i : Nat, i ≤ L.length ∧ t = .int .i64 (lastAt L s i) ∧ j = .int .i64 i ∧ wr' = wr) (fun _ j _ => L.length - (intOf j).toNat)
            case atStart => exact ⟨0, Nat.zero_le _, by rw [lastAt_zero], rfl, rfl⟩
            case round =>
              obtain ⟨i, hi, rfl, rfl, rfl⟩ := hrel
              by_cases hil : i < L.length
              · obtain ⟨bo, oo, rfl, hco⟩ := HB.out.row.at hil
                have HX : Hid (lastAt L s (i + 1) = if (L.getD i ByteArray.empty).toList == s.toList then (i : Int) else lastAt L s i) := hide (by
                  cases hq : (L.getD i ByteArray.empty).toList == s.toList
                  · exact lastAt_miss hil (str_ne hq)
                  · exact lastAt_hit HB.out.tab.nodup hil (str_eq hq))
                generalize L.getD i ByteArray.empty = x at hco HX
                go_wp2
                · exact ⟨⟨i + 1, by omega, by rw [HX.out, if_pos ‹_›], by go_num, trivial⟩, by simp [intOf]; omega⟩
                · exact ⟨⟨i + 1, by omega, by rw [HX.out, if_neg (by simp only [‹_ = false›]; decide)], by go_num, trivial⟩, by simp [intOf]; omega⟩
              · rw [lastAt_all L s (by omega)]
                cases hin : isIn L s
                · have HIN : Hid (isIn L s = false) := hin
                  rw [if_neg (by simp)]
                  clear hin
                  go_wp2_with (first
                    | (at_builtin; refine append_str _ rfl _ _ rfl w.heap.size (.slice aO L.length cO) L rfl (HB.out.own.alloc _) wr.heap.size s rfl (cell_new _ _ _) (by have := H6.out; omega) (by have := HB.out.below.size; simp; omega) ?_
                       intro a' c' w2 o2 g2 hloc)
                    | fail)
                  have G2 : Hid ((wr.alloc (.cells #[.string s] 9)).grownBy w2 (Value.slice aO L.length cO).ownBlock) := g2
                  have O2 : Hid (w2.ownsRow w.heap.size 9 1 (.slice a' (L.length + 1) c') (L.length + 1) ((L ++ [s]).map Value.string)) := o2
                  have HL2 : Hid _ := hide hloc
                  clear o2 g2 hloc
                  refine (intern_new (HB.out.grow (w2 := w2) (v' := v) (mv' := mv) O2.out G2.out HL2.out).1 s hzs.out HIN.out (decide_eq_true (by have := H1.out; have := H2.out; have := H6.out; have := HT.out; have := HZ'.out; omega))).mono ?_
                  rintro e w3 ⟨rfl, ⟨v', mv', ht⟩, hb⟩
                  have HB2 : Hid (Both w w3 tb _ (L ++ [s]) v' mv' a' c') := hide ((HB.out.grow O2.out G2.out HL2.out).2 hb ht)
                  have hln : (L ++ [s]).length = L.length + 1 := by simp
                  have c0 := ht.cell0
                  have c2 := ht.cell2
                  obtain ⟨a2, k2, rfl⟩ := own_form ht.own
                  clear ht hb
                  have q0 := len_any tb _ k2 a2 w3 c0
                  have q2 := bytes_any tb _ w3 c2
                  rw [total_snoc, Int.natCast_add, ← HT.out, ← HZ'.out] at q2
                  rw [hln] at q0
                  have Q0 : Hid _ := hide q0
                  have Q2 : Hid _ := hide q2
                  clear q0 q2 c0 c2 hln
                  go_wp2_with fail
                  refine Q0.out.mono ?_
                  rintro e w4 ⟨rfl, rfl⟩
                  go_wp2_with fail
                  refine Q2.out.mono ?_
                  rintro e w4 ⟨rfl, rfl⟩
                  go_wp2
                  refine ⟨⟨k + 1, _, L ++ [s], _, mv', a', c', by omega, by have := H6.out; omega, by simp, by rw [total_snoc, Int.natCast_add, ← HT.out, ← HZ'.out], by go_num, by simp; omega, HB2.out⟩, by simp [intOf]; omega⟩
                · have HIN : Hid (isIn L s = true) := hin
                  rw [if_pos rfl]
                  clear hin
                  go_wp2_with fail
                  refine (intern_old HB.out.tab s hzs.out HIN.out).mono ?_
                  rintro e w2 ⟨rfl, ⟨v', mv', ht⟩, hb⟩
                  have HB2 : Hid (Both w w2 tb _ L v' mv' aO cO) := hide (HB.out.intern hb ht)
                  have c0 := ht.cell0
                  have c2 := ht.cell2
                  obtain ⟨a2, k2, rfl⟩ := own_form ht.own
                  clear ht hb
                  have q0 := len_any tb L.length k2 a2 w2 c0
                  have q2 := bytes_any tb _ w2 c2
                  rw [← HT.out] at q2
                  have Q0 : Hid _ := hide q0
                  have Q2 : Hid _ := hide q2
                  clear q0 q2
                  clear c0 c2
                  go_wp2_with fail
                  refine Q0.out.mono ?_
                  rintro e w4 ⟨rfl, rfl⟩
                  go_wp2_with fail
                  refine Q2.out.mono ?_
                  rintro e w4 ⟨rfl, rfl⟩
                  go_wp2
                  refine ⟨⟨k + 1, _, L, _, mv', aO, cO, by omega, by have := H6.out; omega, rfl, by rw [HT.out], by go_num, by omega, HB2.out⟩, by simp [intOf]; omega⟩
          · have q2 : decide (4194304 < T + Z) = true := decide_eq_true (by omega)
            clear h2
            go_wp2
            exact ⟨⟨k + 1, S, L, v, mv, aO, cO, by omega, by omega, rfl, by rw [HT.out], by go_num, by omega, HB.out⟩, by simp [intOf]; omega⟩
        · go_wp2
          exact ⟨⟨k + 1, S, L, v, mv, aO, cO, by omega, by omega, rfl, by rw [HT.out], by go_num, by omega, HB.out⟩, by simp [intOf]; omega⟩
      · go_wp2
        go_ret3
        exact ⟨tb, S, L, v, mv, aO, cO, rfl, HB.out, hL6⟩
    · go_wp2
      go_ret3
      exact ⟨tb, S, L, v, mv, aO, cO, rfl, HB.out, hL6⟩
end Go.Proofs.Ytbcmheilgilipaa
