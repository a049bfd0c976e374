/-
  Plain mathematics: what turned bits change, and in which order they come. No walk here.
-/
import Derived.Test.YtancibbhkhjcbaaComb
namespace Go.Proofs.Ytancibbhkhjcbaa
open Go.RowKit
/-- What the bit k of n bytes changes. -/
def flip1 (n : Nat) (k : Int) : B := stps (8 * (n - k.toNat / 8)) (bit (k.toNat % 8))
/-- What the bits change together. -/
def fl (n : Nat) (zs : List Int) : B := zs.foldl (fun r k => r ^^^ flip1 n k) 0#32
theorem fl_snoc (n : Nat) (zs : List Int) (k : Int) : fl n (zs ++ [k]) = fl n zs ^^^ flip1 n k := by unfold fl; rw [List.foldl_append]; rfl
theorem fl_take (n : Nat) (zs : List Int) (i : Nat) (h : i < zs.length) : fl n (zs.take (i + 1)) = fl n (zs.take i) ^^^ flip1 n (zs.getD i 0) := by
  rw [List.take_succ_eq_append_getElem h, fl_snoc]; congr 2; simp [h]
theorem fl_perm {n : Nat} {a b : List Int} (h : a.Perm b) : fl n a = fl n b := by
  unfold fl
  exact h.foldl_eq' (fun x _ y _ z => xor3 z _ _) _
/-- All the bits are there. -/
def good (n : Int) (zs : List Int) : Bool := zs.all fun z => decide (0 ≤ z) && decide (z < 8 * n)
theorem good_get {n : Int} {zs : List Int} (h : good n zs = true) (i : Nat) (hi : i < zs.length) : 0 ≤ zs.getD i 0 ∧ zs.getD i 0 < 8 * n := by
  unfold good at h
  rw [List.all_eq_true] at h
  have := h zs[i] (List.getElem_mem hi)
  simp only [Bool.and_eq_true, decide_eq_true_eq] at this
  have e : zs.getD i 0 = zs[i] := by simp [hi]
  rw [e]; exact this
theorem good_of {n : Int} {zs : List Int} (h : ∀ i, i < zs.length → 0 ≤ zs.getD i 0 ∧ zs.getD i 0 < 8 * n) : good n zs = true := by
  unfold good
  rw [List.all_eq_true]
  intro x hx
  obtain ⟨i, hi, rfl⟩ := List.getElem_of_mem hx
  have := h i hi
  have e : zs.getD i 0 = zs[i] := by simp [hi]
  rw [e] at this
  simp [this.1, this.2]
theorem bad_of {n : Int} {zs : List Int} (i : Nat) (hi : i < zs.length) (h : ¬ (0 ≤ zs.getD i 0 ∧ zs.getD i 0 < 8 * n)) : good n zs = false := by
  cases e : good n zs
  · rfl
  · exact absurd (good_get e i hi) h
theorem good_perm {n : Int} {a b : List Int} (h : a.Perm b) : good n a = good n b := by
  unfold good; exact h.all_eq
/-- The error that Flip answers. -/
def flipErr (n : Int) (zs : List Int) : Int := if 0 ≤ n ∧ n ≤ 67108864 then (if good n zs then 0 else 2) else 20
/-- The number that Flip answers. -/
def flipSum (n : Int) (zs : List Int) : B := if 0 ≤ n ∧ n ≤ 67108864 then (if good n zs then fl n.toNat zs else 0#32) else 0#32
theorem flip_out {n : Int} {zs : List Int} (h : ¬ (0 ≤ n ∧ n ≤ 67108864)) : flipErr n zs = 20 ∧ flipSum n zs = 0#32 := ⟨by unfold flipErr; rw [if_neg h], by unfold flipSum; rw [if_neg h]⟩
theorem flip_bad {n : Nat} {zs : List Int} (h : n ≤ 67108864) (hg : good n zs = false) : flipErr n zs = 2 ∧ flipSum n zs = 0#32 := by
  have : 0 ≤ (n : Int) ∧ (n : Int) ≤ 67108864 := by omega
  exact ⟨by unfold flipErr; rw [if_pos this, hg]; rfl, by unfold flipSum; rw [if_pos this, hg]; rfl⟩
theorem flip_good {n : Nat} {zs : List Int} (h : n ≤ 67108864) (hg : good n zs = true) : flipErr n zs = 0 ∧ flipSum n zs = fl n zs := by
  have : 0 ≤ (n : Int) ∧ (n : Int) ≤ 67108864 := by omega
  exact ⟨by unfold flipErr; rw [if_pos this, hg]; rfl, by unfold flipSum; rw [if_pos this, hg]; rfl⟩
/-- A list in order. -/
def inOrder (zs : List Int) : List Int := zs.mergeSort fun x y => decide (x ≤ y)
theorem inOrder_perm (zs : List Int) : (inOrder zs).Perm zs := List.mergeSort_perm _ _
theorem inOrder_length (zs : List Int) : (inOrder zs).length = zs.length := List.length_mergeSort _
theorem inOrder_le (zs : List Int) (i : Nat) (h : i + 1 < zs.length) : (inOrder zs).getD i 0 ≤ (inOrder zs).getD (i + 1) 0 := by
  have hp : (inOrder zs).Pairwise fun x y => decide (x ≤ y) = true := List.pairwise_mergeSort (fun a b c h1 h2 => by simp at h1 h2 ⊢; omega) (fun a b => by simp; omega) zs
  have hl := inOrder_length zs
  have := List.pairwise_iff_getElem.1 hp i (i + 1) (by omega) (by omega) (by omega)
  have e1 : (inOrder zs).getD i 0 = (inOrder zs)[i] := by rw [List.getD_eq_getElem?_getD, List.getElem?_eq_getElem (by omega)]; rfl
  have e2 : (inOrder zs).getD (i + 1) 0 = (inOrder zs)[i + 1] := by rw [List.getD_eq_getElem?_getD, List.getElem?_eq_getElem (by omega)]; rfl
  rw [e1, e2]; simpa using this
/-- One bit more, in their order. -/
theorem flip_step {n at' k : Nat} {r acc : B} (h1 : at' ≤ k / 8) (h2 : k / 8 ≤ n) (h : stps (8 * (n - at')) r = acc) :
    stps (8 * (n - k / 8)) (stps (8 * (k / 8 - at')) r ^^^ bit (k % 8)) = acc ^^^ flip1 n (k : Int) := by
  unfold flip1
  rw [stps_xor, ← stps_add, ← h, Int.toNat_natCast]
  congr 2; omega
/-- One bit alone, as the document has it. -/
theorem flip_one {n k : Nat} (h : k / 8 < n) : stps (8 * (n - 1 - k / 8)) (stps 8 (bit (k % 8))) = flip1 n (k : Int) := by
  unfold flip1
  rw [← stps_add, Int.toNat_natCast]
  congr 1; omega
end Go.Proofs.Ytancibbhkhjcbaa
