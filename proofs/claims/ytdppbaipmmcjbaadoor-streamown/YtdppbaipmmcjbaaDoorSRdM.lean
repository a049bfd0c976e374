/-
  Reading all bodies, as mathematics.
-/
import Derived.Test.YtdppbaipmmcjbaaDoorSChk
namespace Go.Proofs.YtdppbaipmmcjbaaDoor
open Go.RowKit
/-- May these records stand behind those? -/
def meets (acc part : List Rc) : Bool := match acc.getLast?, part.head? with
  | some x, some y => decide (x.stamp < y.stamp)
  | _, _ => true
def readV : List Rc → List (List Int) → List Rc × Int
  | acc, [] => (acc, 0)
  | acc, z :: l => if (chunkV z).2 ≠ 0 then ([], (chunkV z).2) else if meets acc (chunkV z).1 = false then ([], 80) else readV (acc ++ (chunkV z).1) l
def decV (lim : Nat) (bs : List (List Int)) : List Rc × Int :=
  if (readV [] bs).2 ≠ 0 then ([], (readV [] bs).2) else if cutS lim [] St.zero (readV [] bs).1 = bs then ((readV [] bs).1, 0) else ([], 43)
theorem readV_bad {acc : List Rc} {bs : List (List Int)} {k : Nat} {z : List Int} (h : bs[k]? = some z) (he : (chunkV z).2 ≠ 0) : readV acc (bs.drop k) = ([], (chunkV z).2) := by
  rw [drop_get h, readV, if_pos he]
theorem readV_low {acc : List Rc} {bs : List (List Int)} {k : Nat} {z : List Int} (h : bs[k]? = some z) (he : (chunkV z).2 = 0) (hm : meets acc (chunkV z).1 = false) : readV acc (bs.drop k) = ([], 80) := by
  rw [drop_get h, readV, if_neg (by omega), if_pos hm]
theorem readV_on {acc : List Rc} {bs : List (List Int)} {k : Nat} {z : List Int} (h : bs[k]? = some z) (he : (chunkV z).2 = 0) (hm : meets acc (chunkV z).1 = true) : readV acc (bs.drop k) = readV (acc ++ (chunkV z).1) (bs.drop (k + 1)) := by
  rw [drop_get h, readV, if_neg (by omega), if_neg (by simp [hm])]
theorem strE_step {m : Int} {r : Rc} {l : List Rc} : strE m (r :: l) = 0 ↔ putE St.zero r = 0 ∧ m ≤ r.stamp ∧ strE (r.stamp + 1) l = 0 := by
  rw [strE]
  by_cases h1 : putE St.zero r = 0
  · rw [if_neg (by omega)]
    by_cases h2 : r.stamp < m
    · rw [if_pos h2]; constructor
      · intro h; exact absurd h (by decide)
      · intro h; omega
    · rw [if_neg h2]; exact ⟨fun h => ⟨h1, by omega, h⟩, fun h => h.2.2⟩
  · rw [if_pos h1]; exact ⟨fun h => absurd h h1, fun h => absurd h.1 h1⟩
theorem strE_len : ∀ (L : List Rc) (m : Int), 0 ≤ m → m ≤ 1048576 → strE m L = 0 → m + (L.length : Int) ≤ 1048576
  | [], m, h0, h1, _ => by simp; omega
  | r :: l, m, h0, h1, h => by
    obtain ⟨a, b, c⟩ := strE_step.1 h
    have hk := putE_ok a
    have := strE_len l (r.stamp + 1) (by omega) (by omega) c
    rw [List.length_cons]; omega
theorem strE_join : ∀ (A B : List Rc) (m : Int), strE m A = 0 → strE 0 B = 0 → (A = [] → ∀ y ∈ B.head?, m ≤ y.stamp) → (∀ x ∈ A.getLast?, ∀ y ∈ B.head?, x.stamp < y.stamp) → strE m (A ++ B) = 0
  | [], [], m, _, _, _, _ => rfl
  | [], y :: l, m, _, hB, h0, _ => by
    obtain ⟨a, b, c⟩ := strE_step.1 hB
    exact strE_step.2 ⟨a, h0 rfl y (by simp), c⟩
  | r :: l, B, m, hA, hB, _, hl => by
    obtain ⟨a, b, c⟩ := strE_step.1 hA
    rw [List.cons_append]
    refine strE_step.2 ⟨a, b, strE_join l B (r.stamp + 1) c hB (fun e y hy => ?_) (fun x hx y hy => hl x ?_ y hy)⟩
    · subst e
      have := hl r (by simp) y hy
      omega
    · cases l with
      | nil => simp at hx
      | cons u l => rw [List.getLast?_cons_cons]; exact hx
theorem meets_join {A B : List Rc} (hA : strE 0 A = 0) (hB : strE 0 B = 0) (hm : meets A B = true) : strE 0 (A ++ B) = 0 := by
  refine strE_join A B 0 hA hB (fun _ y hy => ?_) (fun x hx y hy => ?_)
  · cases B with
    | nil => simp at hy
    | cons u l => simp at hy; subst hy; exact (strE_step.1 hB).2.1
  · unfold meets at hm
    rw [Option.mem_def.1 hx, Option.mem_def.1 hy] at hm
    exact of_decide_eq_true hm
/-- What is read is a stream. -/
theorem readV_inv : ∀ (bs : List (List Int)) (acc L : List Rc), (∀ z ∈ bs, ∀ i : Nat, 0 ≤ z[i]?.getD 0 ∧ z[i]?.getD 0 ≤ 255) → strE 0 acc = 0 → (∀ r ∈ acc, r.ok) → readV acc bs = (L, 0) → strE 0 L = 0 ∧ (∀ r ∈ L, r.ok)
  | [], acc, L, _, h1, h2, h => by
    have e : acc = L := congrArg Prod.fst h
    subst e
    exact ⟨h1, h2⟩
  | z :: l, acc, L, hu, h1, h2, h => by
    rw [readV] at h
    by_cases he : (chunkV z).2 = 0
    · rw [if_neg (by omega)] at h
      obtain ⟨_, _, e3, e4, _⟩ := chunk_inv (L := (chunkV z).1) (hu z (by simp)) (by rw [← he])
      by_cases hm : meets acc (chunkV z).1 = false
      · rw [if_pos hm] at h; exact absurd (congrArg Prod.snd h) (by simp)
      · rw [if_neg hm] at h
        refine readV_inv l _ L (fun y hy => hu y (by simp [hy])) (meets_join h1 e3 (by simpa using hm)) (fun r hr => ?_) h
        rcases List.mem_append.1 hr with e | e
        · exact h2 r e
        · exact e4 r e
    · rw [if_pos he] at h
      exact absurd (congrArg Prod.snd h) he
theorem readV_ne2 : ∀ (bs : List (List Int)) (acc : List Rc), (∀ z ∈ bs, ∀ i : Nat, 0 ≤ z[i]?.getD 0 ∧ z[i]?.getD 0 ≤ 255) → (readV acc bs).2 ≠ 2
  | [], acc, _ => by rw [readV]; simp
  | z :: l, acc, hu => by
    rw [readV]
    split
    · exact (chunk_ne2 (hu z (by simp))).1
    · split
      · simp
      · exact readV_ne2 l _ (fun y hy => hu y (by simp [hy]))
theorem decV_ne2 {lim : Nat} {bs : List (List Int)} (hu : ∀ z ∈ bs, ∀ i : Nat, 0 ≤ z[i]?.getD 0 ∧ z[i]?.getD 0 ≤ 255) : (decV lim bs).2 ≠ 2 := by
  unfold decV
  split
  · exact readV_ne2 bs [] hu
  · split <;> simp
theorem decV_inv {lim : Nat} {bs : List (List Int)} {L : List Rc} (hu : ∀ z ∈ bs, ∀ i : Nat, 0 ≤ z[i]?.getD 0 ∧ z[i]?.getD 0 ≤ 255) (h : decV lim bs = (L, 0)) : strE 0 L = 0 ∧ (∀ r ∈ L, r.ok) ∧ cutS lim [] St.zero L = bs := by
  unfold decV at h
  split at h
  · rename_i h1; exact absurd (congrArg Prod.snd h) h1
  · rename_i h1
    split at h
    · rename_i h2
      have e : (readV [] bs).1 = L := congrArg Prod.fst h
      obtain ⟨a, b⟩ := readV_inv bs [] L hu rfl (by simp) (by rw [← e]; exact Prod.ext rfl (by simpa using h1))
      exact ⟨a, b, by rw [← e]; exact h2⟩
    · exact absurd (congrArg Prod.snd h) (by simp)
end Go.Proofs.YtdppbaipmmcjbaaDoor
