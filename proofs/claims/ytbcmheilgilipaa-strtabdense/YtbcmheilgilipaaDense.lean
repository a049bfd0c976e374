/-
  The walk of StrtabDense.
-/
import Derived.Test.YtbcmheilgilipaaTabD
import Derived.Laws.BytesArg
import Derived.Laws.MakeOwn
namespace Go.Proofs.Ytbcmheilgilipaa
open Go.RowKit Go.Maps
theorem Try.info5 : (Try.prog.info? 5).map (fun i => (i.zero, i.size, i.bytes)) = some (some (.int .u8 0), 1, 1) := by kernel_rfl
/-- 'string(make([]byte, n))'. -/
theorem mk_str (n : Nat) (hn : (n : Int) ≤ 1000000) : ∃ (M : Array Value) (big : ByteArray), Hid (big.size = n) ∧
    (∀ W : World, (Instr.makeSlice 31 (.int .i64 (n : Int)) (.int .i64 (n : Int))).run Try.prog W = .ok (.slice (some ⟨W.heap.size, 0, none⟩) n n) (W.alloc (.cells M 5))) ∧
    (∀ W : World, (convert 31 9 (.slice (some ⟨W.heap.size, 0, none⟩) n n)).run Try.prog (W.alloc (.cells M 5)) = .ok (.string big) (W.alloc (.cells M 5))) := by
  obtain ⟨i0, hi, hz0, hz1, hz2⟩ := info_parts Try.info5
  refine ⟨madeCells #[.int .u8 0] n, strOfNums (List.replicate n 0), hide (by rw [strOfNums_size, List.length_replicate]), fun W => ?_, fun W => ?_⟩
  · have h := run_make (P := Try.prog) W 31 5 i0 (.int .u8 0) Try.underlying31 hi hz0 .i64 .i64 (n : Int) (n : Int) (by omega) (Int.le_refl _) (by rw [hz2]; omega) (by omega)
    rw [hz1] at h
    simpa [Value.cells] using h
  · refine run_convert_bytes_arg (P := Try.prog) _ 31 5 Try.underlying31 Try.underlying5 W.heap.size 0 n n (List.replicate n 0) (by simp) (fun i hi => ?_) 9 Try.underlying9
    rw [cell_of_row _ W.heap.size (0 + i) _ 5 (0, 0) (heap_alloc_new W _), Nat.zero_add, ← Array.getElem?_toList, toList_madeCells_one]
    simp [hi, List.getD_eq_getElem?_getD]
theorem Both.alloc {w0 w : World} {tb : Nat} {S : Nat → Prop} {L : List ByteArray} {v mv : Value} {a : Option Addr} {c : Nat} (h : Both w0 w tb S L v mv a c) (o : Obj) : Both w0 (w.alloc o) tb S L v mv a c := by
  have k : But (fun _ => False) w (w.alloc o) := (But.refl _ w).alloc o
  exact ⟨h.tab.kept k (fun _ _ e => e), own_but h.own k (fun _ _ e => e), h.apart, fun i hi => ⟨(h.newS i hi).1, by have := (h.newS i hi).2; simp; omega⟩, h.below.alloc h.below.size o⟩
theorem textV_in {L : List ByteArray} {k : Nat} (h : k < L.length) : textV L k = .tuple #[.string (L.getD k ByteArray.empty), .int .i64 0] := by
  unfold textV; rw [if_pos (by omega)]; simp
theorem textV_out {L : List ByteArray} {i : Int} (h : i < 0 ∨ (L.length : Int) ≤ i) : textV L i = .tuple #[.string ⟨#[]⟩, .int .i64 40] := by
  unfold textV; rw [if_neg (by omega)]; rfl
theorem getD_get {L : List ByteArray} {k : Nat} (h : k < L.length) : L[k]? = some (L.getD k ByteArray.empty) := by
  rw [List.getD_eq_getElem?_getD]; simp [h]
/-- Numbers that no string has. -/
def oddAt (n : Nat) (k : Nat) : Int := if k = 0 then -1 else if k = 1 then n else if k = 2 then 4611686018427387904 else -9223372036854775808
theorem oddAt_out (L : List ByteArray) (hl : (L.length : Int) ≤ 65536) (k : Nat) : oddAt L.length k < 0 ∨ (L.length : Int) ≤ oddAt L.length k := by
  unfold oddAt; split
  · omega
  · split
    · omega
    · split <;> omega
theorem oddAt_bd (n : Nat) (hl : (n : Int) ≤ 65536) (k : Nat) : -9223372036854775808 ≤ oddAt n k ∧ oddAt n k ≤ 9223372036854775807 := by
  unfold oddAt; split
  · omega
  · split
    · omega
    · split <;> omega
theorem odd_cell (w : World) (n : Nat) (k : Nat) (hk : k < 4) : (w.alloc (.cells #[.int .i64 (-1), .int .i64 n, .int .i64 4611686018427387904, .int .i64 (-9223372036854775808)] 3)).cell? ⟨w.heap.size, k, none⟩ = some (.int .i64 (oddAt n k)) := by
  rw [cell_of_row _ _ k _ 3 (0, 0) (heap_alloc_new w _)]
  match k, hk with
  | 0, _ => rfl
  | 1, _ => rfl
  | 2, _ => rfl
  | 3, _ => rfl
theorem intern_large {w : World} {tb : Nat} {S : Nat → Prop} {L : List ByteArray} {v mv : Value} (h : Tab w tb S L v mv) (s : ByteArray) (hs : s.size ≤ maxLen) (hb : (s.size : Int) > 65536) :
    Calls Try.prog 20 #[.pointer (some ⟨tb, 0, none⟩), .string s] w fun e w' => e = .returned (.tuple #[.int .i64 0, .int .i64 3]) ∧ (∃ v' mv', Tab w' tb (fun k => S k ∨ (w.heap.size ≤ k ∧ k < w'.heap.size)) L v' mv') ∧ But S w w' := by
  have hin : isIn L s = false := isIn_not.2 (fun hm => by have := h.small s hm; omega)
  have hr : roomy L.length (total L) s.size = false := decide_eq_false (fun h => by omega)
  have h1 : internV L s = .tuple #[.int .i64 0, .int .i64 3] := by unfold internV; rw [hin, hr]; rfl
  have h2 : internL L s = L := by unfold internL; rw [hin, hr]; rfl
  have := intern_any h s hs
  rw [h1, h2] at this
  exact this
set_option maxRecDepth 4000 in
theorem dense_any (a : Option Addr) (n c : Nat) (l : List ByteArray) (other : ByteArray) (w : World) (hr : SRow w a n l) (hn : (n : Int) ≤ 9223372036854775807) (hz : ∀ s ∈ l, s.size ≤ maxLen) (ho : other.size ≤ maxLen) :
    Calls Try.prog 8 #[.slice a n c, .string other] w fun e w' => e = .returned (.bool true) ∧ Below w.heap.size w w' := by
  have HT : Hid _ := hide (table_any a n c l w hr hn hz)
  have HO : Hid (other.size ≤ maxLen) := ho
  clear hr hz ho
  go_enter Try.func8, Try.ntmps8
  go_wp2_with fail
  refine HT.out.mono ?_
  rintro e w1 ⟨tb, S, L, v, mv, aO, cO, rfl, hB⟩
  have HB : Hid (Both w w1 tb S L v mv aO cO) := hB
  have HLm : Hid ((L.length : Int) ≤ 65536) := hide (by have := hB.tab.len; omega)
  have hLm : (L.length : Int) ≤ 9223372036854775806 := by have := hB.tab.len; omega
  clear hB HT
  go_wp2
  go_loopw [8] (fun i wr => ∃ (k : Nat) (S : Nat → Prop) (v mv : Value), k ≤ L.length ∧ i = .int .i64 k ∧ Both w wr tb S L v mv aO cO) (fun i _ => L.length - (intOf i).toNat)
  case atStart => exact ⟨0, S, v, mv, Nat.zero_le _, rfl, HB.out⟩
  case round =>
    clear HB
    obtain ⟨k, S, v, mv, hk, rfl, hB⟩ := hrel
    have HB : Hid (Both w wr tb S L v mv aO cO) := hB
    by_cases hlt : k < L.length
    · obtain ⟨bo, oo, rfl, hco⟩ := hB.row.at hlt
      have hsm : Hid ((L.getD k ByteArray.empty).size ≤ maxLen) := hide (by have := hB.tab.small _ (List.mem_of_getElem? (getD_get hlt)); unfold maxLen; omega)
      have hpl : place L (L.getD k ByteArray.empty) = k := place_of_get hB.tab.nodup (getD_get hlt)
      have hin : isIn L (L.getD k ByteArray.empty) = true := isIn_iff.2 (List.mem_of_getElem? (getD_get hlt))
      have c0 := hB.tab.cell0
      obtain ⟨a2, k2, rfl⟩ := own_form hB.tab.own
      have Q1 := text_any tb L.length k2 a2 L k wr c0 (SRow.of_own hB.tab.own) (by omega) (by omega)
      rw [textV_in hlt] at Q1
      have Q2 := find_any hB.tab _ hsm.out
      have e2 : lookV L (L.getD k ByteArray.empty) = .tuple #[.int .i64 (k : Int), .bool true] := by unfold lookV; rw [hin, hpl]; rfl
      rw [e2] at Q2
      have Q3 := intern_old hB.tab _ hsm.out hin
      rw [hpl] at Q3
      obtain ⟨s, hs⟩ : ∃ s, s = L.getD k ByteArray.empty := ⟨_, rfl⟩
      rw [← hs] at hco Q1 Q2 Q3
      have HS : Hid (s = L.getD k ByteArray.empty) := hs
      have H1 : Hid _ := hide Q1
      have H2 : Hid _ := hide Q2
      have H3 : Hid _ := hide Q3
      clear Q1 Q2 Q3 e2 hin hpl c0 hB hsm hs
      go_wp2_with fail
      refine H1.out.mono ?_
      rintro e w2 ⟨rfl, rfl⟩
      go_wp2_with fail
      refine H2.out.mono ?_
      rintro e w3 ⟨rfl, rfl⟩
      go_wp2_with fail
      refine H3.out.mono ?_
      rintro e w4 ⟨rfl, ⟨v', mv', ht⟩, hb⟩
      have HB2 : Hid (Both w w4 tb _ L v' mv' (some ⟨bo, oo, none⟩) cO) := hide (HB.out.intern hb ht)
      have hco2 : w4.cell? ⟨bo, oo + k, none⟩ = some (.string s) := by
        obtain ⟨b', o', e', h'⟩ := HB2.out.row.at hlt
        cases e'
        rw [HS.out]; exact h'
      clear ht hb
      go_wp2
      exact ⟨⟨k + 1, _, v', mv', by omega, by go_num, HB2.out⟩, by simp [intOf]; omega⟩
    · clear hB
      go_wp2
      have C4 : Hid (∀ j, j < 4 → (wr.alloc (.cells #[.int .i64 (-1), .int .i64 L.length, .int .i64 4611686018427387904, .int .i64 (-9223372036854775808)] 3)).cell? ⟨wr.heap.size, j, none⟩ = some (.int .i64 (oddAt L.length j))) := hide (odd_cell wr L.length)
      go_loopw [96] (fun i wr' => ∃ j : Nat, j ≤ 4 ∧ i = .int .i64 j ∧ Both w wr' tb S L v mv aO cO ∧ (∀ j, j < 4 → wr'.cell? ⟨wr.heap.size, j, none⟩ = some (.int .i64 (oddAt L.length j)))) (fun i _ => 4 - (intOf i).toNat)
      case atStart => exact ⟨0, by decide, rfl, HB.out.alloc _, C4.out⟩
      case round =>
        clear HB C4
        obtain ⟨j, hj, rfl, hB, hc⟩ := hrel
        have HB : Hid (Both w wr tb S L v mv aO cO) := hB
        by_cases hj4 : j < 4
        · have c0 := hB.tab.cell0
          obtain ⟨a2, k2, rfl⟩ := own_form hB.tab.own
          have Q1 := text_any tb L.length k2 a2 L (oddAt L.length j) wr c0 (SRow.of_own hB.tab.own) (oddAt_bd _ HLm.out j).1 (oddAt_bd _ HLm.out j).2
          rw [textV_out (oddAt_out L HLm.out j)] at Q1
          have hcj := hc j hj4
          have HC : Hid _ := hide hc
          generalize oddAt L.length j = z at Q1 hcj
          have H1 : Hid _ := hide Q1
          clear Q1 hc hB c0
          go_wp2_with fail
          refine H1.out.mono ?_
          rintro e w2 ⟨rfl, rfl⟩
          go_wp2
          exact ⟨⟨j + 1, by omega, by go_num, HB.out, HC.out⟩, by simp [intOf]; omega⟩
        · clear hB hc
          go_wp2
          go_loopw [19, 20] (fun t i wr' => ∃ i' : Nat, i' ≤ L.length ∧ t = .int .i64 (lastAt L other i') ∧ i = .int .i64 i' ∧ wr' = wr) (fun _ i _ => L.length - (intOf i).toNat)
          case atStart => exact ⟨0, Nat.zero_le _, by rw [lastAt_zero], rfl, rfl⟩
          case round =>
            obtain ⟨i, hi, rfl, rfl, rfl⟩ := hrel
            by_cases hil : i < L.length
            · obtain ⟨bo, oo, rfl, hco⟩ := HB.out.row.at hil
              have HX : Hid (lastAt L other (i + 1) = if (L.getD i ByteArray.empty).toList == other.toList then (i : Int) else lastAt L other i) := hide (by
                cases hq : (L.getD i ByteArray.empty).toList == other.toList
                · exact lastAt_miss hil (str_ne hq)
                · exact lastAt_hit HB.out.tab.nodup hil (str_eq hq))
              generalize L.getD i ByteArray.empty = x at hco HX
              go_wp2
              · exact ⟨⟨i + 1, by omega, by rw [HX.out, if_pos ‹_›], by go_num, trivial⟩, by simp [intOf]; omega⟩
              · exact ⟨⟨i + 1, by omega, by rw [HX.out, if_neg (by simp only [‹_ = false›]; decide)], by go_num, trivial⟩, by simp [intOf]; omega⟩
            · rw [lastAt_all L other (by omega)]
              have Q1 := find_any HB.out.tab other HO.out
              unfold lookV at Q1
              obtain ⟨N, hN⟩ : ∃ N : Nat, (N : Int) = 65537 := ⟨65537, rfl⟩
              obtain ⟨M, big, hbs, hmk, hcv⟩ := mk_str N (by omega)
              simp only [hN] at hmk
              have HBG : Hid ((big.size : Int) > 65536) := hide (by have := hbs.out; omega)
              have HBM : Hid (big.size ≤ maxLen) := hide (by have := hbs.out; unfold maxLen; omega)
              clear hN hbs
              have Q2 := fun W S v mv (h : Both w W tb S L v mv aO cO) => intern_large h.tab big HBM.out HBG.out
              have H2 : Hid _ := hide Q2
              clear Q2
              cases hin : isIn L other
              · rw [hin] at Q1
                have H1 : Hid _ := hide Q1
                clear Q1
                rw [if_neg (by simp)]
                clear hin
                go_wp2_with fail
                refine H1.out.mono ?_
                rintro e w2 ⟨rfl, rfl⟩
                go_wp2_with fail
                refine (H2.out _ _ _ _ (HB.out.alloc _)).mono ?_
                rintro e w3 ⟨rfl, ⟨v', mv', ht⟩, hb⟩
                have HB3 : Hid (Both w w3 tb _ L v' mv' aO cO) := hide ((HB.out.alloc _).intern hb ht)
                have c0 := ht.cell0
                obtain ⟨a2, k2, rfl⟩ := own_form ht.own
                have H3 : Hid _ := hide (len_any tb L.length k2 a2 w3 c0)
                clear ht hb c0
                go_wp2_with fail
                refine H3.out.mono ?_
                rintro e w4 ⟨rfl, rfl⟩
                go_wp2
                go_ret
                exact ⟨rfl, HB3.out.below⟩
              · rw [hin] at Q1
                have H1 : Hid _ := hide Q1
                clear Q1
                rw [if_pos rfl]
                clear hin
                go_wp2_with fail
                refine H1.out.mono ?_
                rintro e w2 ⟨rfl, rfl⟩
                go_wp2_with fail
                refine (H2.out _ _ _ _ (HB.out.alloc _)).mono ?_
                rintro e w3 ⟨rfl, ⟨v', mv', ht⟩, hb⟩
                have HB3 : Hid (Both w w3 tb _ L v' mv' aO cO) := hide ((HB.out.alloc _).intern hb ht)
                have c0 := ht.cell0
                obtain ⟨a2, k2, rfl⟩ := own_form ht.own
                have H3 : Hid _ := hide (len_any tb L.length k2 a2 w3 c0)
                clear ht hb c0
                go_wp2_with fail
                refine H3.out.mono ?_
                rintro e w4 ⟨rfl, rfl⟩
                go_wp2
                go_ret
                exact ⟨rfl, HB3.out.below⟩
end Go.Proofs.Ytbcmheilgilipaa
