/-
  bytes.Equal, slices.EqualFunc.
-/
import Derived.Test.YtdppbaipmmcjbaaDoorLists
import Derived.Laws.BytesArg
namespace Go.Proofs.YtdppbaipmmcjbaaDoor
open Go.RowKit
theorem str_eq {a b : ByteArray} (h : (a.toList == b.toList) = true) : a = b := by
  have e := eq_of_beq h
  rw [ByteArray.toList_eq, ByteArray.toList_eq] at e
  cases a; cases b
  congr 1
  exact Array.toList_inj.1 e
/-- 'string(b)'. -/
theorem conv_any {w : World} {a : Option Addr} {n : Nat} {zs : List Int} (c : Nat) (h : Row w a n zs) (h0 : a = none → n = 0) : (convert 35 9 (.slice a n c)).run Tryd.prog w = .ok (.string (strOfNums zs)) w := by
  rcases h.cells with hz | ⟨b, off, rfl, hc⟩
  · subst hz
    have e := List.length_eq_zero_iff.1 h.len
    subst e
    cases a with
    | none => exact run_convert_bytes_nil (P := Tryd.prog) w 35 5 Tryd.underlying35 Tryd.underlying5 0 c 9 Tryd.underlying9
    | some x =>
      rw [run_convert_bytes_string w 35 9 5 _ 0 c Tryd.underlying35 Tryd.underlying5 Tryd.underlying9, run_bytesToString w _ 0 c [] (by simp [loadCells, loadCellsFrom])]
      rfl
  · exact run_convert_bytes_arg (P := Tryd.prog) w 35 5 Tryd.underlying35 Tryd.underlying5 b off n c zs h.len hc 9 Tryd.underlying9
theorem u8_inj {x y : Int} (hx : 0 ≤ x ∧ x ≤ 255) (hy : 0 ≤ y ∧ y ≤ 255) (h : UInt8.ofNat x.toNat = UInt8.ofNat y.toNat) : x = y := by
  have e := congrArg UInt8.toNat h
  simp at e
  omega
theorem strOf_inj {A B : List Int} (hA : ∀ z ∈ A, 0 ≤ z ∧ z ≤ 255) (hB : ∀ z ∈ B, 0 ≤ z ∧ z ≤ 255) (h : strOfNums A = strOfNums B) : A = B := by
  have e := congrArg (fun s : ByteArray => s.data.toList) h
  simp only [strOfNums_data] at e
  clear h
  induction A generalizing B with
  | nil => cases B with
    | nil => rfl
    | cons y B => simp at e
  | cons x A ih => cases B with
    | nil => simp at e
    | cons y B =>
      simp only [List.map_cons, List.cons.injEq] at e
      rw [u8_inj (hA x (by simp)) (hB y (by simp)) e.1, ih (fun z hz => hA z (by simp [hz])) (fun z hz => hB z (by simp [hz])) e.2]
theorem strs_eq {A B : List Int} (hA : ∀ z ∈ A, 0 ≤ z ∧ z ≤ 255) (hB : ∀ z ∈ B, 0 ≤ z ∧ z ≤ 255) : ((strOfNums A).toList == (strOfNums B).toList) = decide (A = B) := by
  by_cases h : A = B
  · subst h; simp
  · rw [decide_eq_false h]
    cases hq : ((strOfNums A).toList == (strOfNums B).toList)
    · rfl
    · exact absurd (strOf_inj hA hB (str_eq hq)) h
theorem equal_any (a b : Option Addr) (la ca lb cb : Nat) (A B : List Int) (w : World) (hA : Row w a la A) (hB : Row w b lb B) (ha : a = none → la = 0) (hb : b = none → lb = 0) :
    Calls Tryd.prog 53 #[.slice a la ca, .slice b lb cb] w fun e w' => e = .returned (.bool (decide (A = B))) ∧ w' = w := by
  have h1 := fun c => conv_any c hA ha
  have h2 := fun c => conv_any c hB hb
  have HE : Hid (((strOfNums A).toList == (strOfNums B).toList) = decide (A = B)) := strs_eq (mem_of_u8 hA.u8) (mem_of_u8 hB.u8)
  generalize decide (A = B) = r at HE ⊢
  generalize strOfNums A = s at h1 HE
  generalize strOfNums B = t at h2 HE
  clear hA hB
  go_enter Tryd.func53, Tryd.ntmps53
  go_wp2
  go_ret
  exact ⟨ret_bool HE.out, rfl⟩
theorem take_eq_step {A B : List (List Int)} {k : Nat} {x y : List Int} (hA : A[k]? = some x) (hB : B[k]? = some y) (he : A.take k = B.take k) : (A.take (k + 1) = B.take (k + 1)) ↔ x = y := by
  have h1 := (List.getElem?_eq_some_iff.1 hA)
  have h2 := (List.getElem?_eq_some_iff.1 hB)
  rw [List.take_succ_eq_append_getElem h1.1, List.take_succ_eq_append_getElem h2.1, he, h1.2, h2.2]
  simp
theorem eqf_any (a b : Option Addr) (n ca m cb : Nat) (A B : List (List Int)) (w : World) (hA : LRow w a n A) (hB : LRow w b m B) (hn : (n : Int) ≤ 9223372036854775806) :
    Calls Tryd.prog 52 #[.slice a n ca, .slice b m cb, .func (.func 53) #[] #[]] w fun e w' => e = .returned (.bool (decide (A = B))) ∧ w' = w := by
  have hla := hA.len
  have hlb := hB.len
  by_cases hnm : n = m
  · subst hnm
    have H1 : Hid (LRow w a n A) := hA
    have H2 : Hid (LRow w b n B) := hB
    have L1 : Hid (A.length = n) := hla
    have L2 : Hid (B.length = n) := hlb
    clear hA hB hla hlb
    go_enter Tryd.func52, Tryd.ntmps52
    go_wp2
    go_loopw [17] (fun i wr => ∃ k : Nat, k ≤ n ∧ i = .int .i64 k ∧ wr = w ∧ A.take k = B.take k) (fun i _ => n - (intOf i).toNat)
    case atStart => exact ⟨0, Nat.zero_le _, rfl, rfl, rfl⟩
    case round =>
      obtain ⟨k, hk, rfl, rfl, he⟩ := hrel
      have HE : Hid (A.take k = B.take k) := he
      clear he
      by_cases hlt : k < n
      · obtain ⟨b1, o1, x, ax, cx, rfl, hx, hcx, hrx, hnx, _⟩ := H1.out.at hlt
        obtain ⟨b2, o2, y, ay, cy, rfl, hy, hcy, hry, hny, _⟩ := H2.out.at hlt
        have HQ : Hid _ := hide (equal_any ax ay x.length cx y.length cy x y wr hrx hry hnx hny)
        have HS : Hid ((A.take (k + 1) = B.take (k + 1)) ↔ x = y) := take_eq_step hx hy HE.out
        clear hx hy hrx hry hnx hny
        go_wp2_with fail
        refine HQ.out.mono ?_
        rintro e w1 ⟨rfl, rfl⟩
        by_cases hxy : x = y
        · rw [decide_eq_true hxy]
          have HN : Hid (A.take (k + 1) = B.take (k + 1)) := HS.out.2 hxy
          clear hxy
          go_wp2
          exact ⟨⟨k + 1, by omega, by go_num, trivial, HN.out⟩, by simp [intOf]; omega⟩
        · rw [decide_eq_false hxy]
          have HN : Hid (decide (A = B) = false) := decide_eq_false (fun e => hxy (HS.out.1 (by rw [e])))
          clear hxy
          go_wp2
          go_ret
          exact ⟨ret_bool HN.out.symm, rfl⟩
      · have HN : Hid (decide (A = B) = true) := hide (decide_eq_true (by
          have e := HE.out
          rwa [List.take_of_length_le (by have := L1.out; omega), List.take_of_length_le (by have := L2.out; omega)] at e))
        go_wp2
        go_ret
        exact ⟨ret_bool HN.out.symm, rfl⟩
  · have HN : Hid (decide (A = B) = false) := decide_eq_false (fun e => hnm (by rw [← hla, ← hlb, e]))
    have hq : ((n : Int) != (m : Int)) = true := by simp; omega
    generalize decide (A = B) = r at HN ⊢
    clear hA hB hla hlb
    go_enter Tryd.func52, Tryd.ntmps52
    go_wp2
    go_ret
    exact ⟨ret_bool HN.out.symm, rfl⟩
theorem same_f (a b : Option Addr) (n ca m cb : Nat) (A B : List (List Int)) (w : World) (hA : LRow w a n A) (hB : LRow w b m B) (hn : (n : Int) ≤ 9223372036854775806) :
    Calls Tryd.prog 44 #[.slice a n ca, .slice b m cb] w fun e w' => e = .returned (.bool (decide (A = B))) ∧ w' = w := by
  have HQ : Hid _ := hide (eqf_any a b n ca m cb A B w hA hB hn)
  clear hA hB
  go_enter Tryd.func44, Tryd.ntmps44
  go_wp2_with fail
  refine HQ.out.mono ?_
  rintro e w1 ⟨rfl, rfl⟩
  go_wp2
  go_ret
  exact ⟨rfl, rfl⟩
theorem lm_any (l : Int) (w : World) : Calls Tryd.prog 42 #[.int .i64 l] w fun e w' => e = .returned (.bool (decide (64 ≤ l ∧ l ≤ 1048576))) ∧ w' = w := by
  by_cases h1 : 64 ≤ l
  · by_cases h2 : l ≤ 1048576
    · rw [decide_eq_true ⟨h1, h2⟩]
      go_enter Tryd.func42, Tryd.ntmps42
      go_wp2
      go_ret
      exact ⟨rfl, rfl⟩
    · rw [decide_eq_false (fun h => h2 h.2)]
      go_enter Tryd.func42, Tryd.ntmps42
      go_wp2
      go_ret
      exact ⟨rfl, rfl⟩
  · rw [decide_eq_false (fun h => h1 h.1)]
    go_enter Tryd.func42, Tryd.ntmps42
    go_wp2
    go_ret
    exact ⟨rfl, rfl⟩
end Go.Proofs.YtdppbaipmmcjbaaDoor
