/-
  Bodies of a table, by their cutting. No walk here.
-/
import Derived.Test.YtbcmheilgilipaaTab
import Derived.Test.YtbcmheilgilipaaRowz
namespace Go.Proofs.Ytbcmheilgilipaa
open Go.RowKit
def sbytes (s : ByteArray) : List Int := s.data.toList.map (fun b => (b.toNat : Int))
def recd (s : ByteArray) : List Int := enc s.size ++ sbytes s
theorem sbytes_len (s : ByteArray) : (sbytes s).length = s.size := by unfold sbytes; rw [List.length_map, Array.length_toList]; rfl
theorem recd_len (s : ByteArray) : (recd s).length = (enc s.size).length + s.size := by unfold recd; rw [List.length_append, sbytes_len]
theorem recd_pos (s : ByteArray) : 0 < (recd s).length := by rw [recd_len]; have := enc_pos s.size; omega
theorem sbytes_u8 (s : ByteArray) : ∀ z ∈ sbytes s, 0 ≤ z ∧ z ≤ 255 := by
  intro z hz
  obtain ⟨b, _, rfl⟩ := List.mem_map.1 hz
  have := b.toNat_lt
  omega
theorem recd_u8 (s : ByteArray) : ∀ z ∈ recd s, 0 ≤ z ∧ z ≤ 255 := by
  intro z hz
  rcases List.mem_append.1 hz with h | h
  · exact enc_mem _ z h
  · exact sbytes_u8 s z h
/-- The body of cnt strings from first on. -/
def bodyOf (L : List ByteArray) (first cnt : Nat) : List Int := enc first ++ ((L.drop first).take cnt).flatMap recd
theorem bodyOf_zero (L : List ByteArray) (first : Nat) : bodyOf L first 0 = enc first := by simp [bodyOf]
theorem bodyOf_succ {L : List ByteArray} {first k : Nat} {s : ByteArray} (h : L[first + k]? = some s) : bodyOf L first (k + 1) = bodyOf L first k ++ recd s := by
  unfold bodyOf
  have : (L.drop first)[k]? = some s := by rw [List.getElem?_drop]; exact h
  have hk := (List.getElem?_eq_some_iff.1 this).1
  rw [List.take_succ_eq_append_getElem hk, List.flatMap_append, (List.getElem?_eq_some_iff.1 this).2]
  simp
theorem bodyOf_u8 (L : List ByteArray) (first cnt : Nat) : ∀ z ∈ bodyOf L first cnt, 0 ≤ z ∧ z ≤ 255 := by
  intro z hz
  rcases List.mem_append.1 hz with h | h
  · exact enc_mem _ z h
  · obtain ⟨s, _, hs⟩ := List.mem_flatMap.1 h
    exact recd_u8 s z hs
theorem recds_len (l : List ByteArray) (h : ∀ s ∈ l, s.size ≤ 65536) : (l.flatMap recd).length ≤ total l + 10 * l.length := by
  induction l with
  | nil => simp [total]
  | cons x l ih =>
    have h1 := ih (fun s hs => h s (by simp [hs]))
    have h2 := h x (by simp)
    have h3 := enc_le x.size (by omega)
    rw [List.flatMap_cons, List.length_append, recd_len]
    have : total (x :: l) = x.size + total l := by simp [total]
    rw [this, List.length_cons]; omega
theorem total_sub {l L : List ByteArray} (h : l.Sublist L) : total l ≤ total L := by
  induction h with
  | slnil => exact Nat.le_refl _
  | cons a _ ih => simp only [total, List.map_cons, List.sum_cons] at ih ⊢; omega
  | cons_cons a _ ih => simp only [total, List.map_cons, List.sum_cons] at ih ⊢; omega
theorem bodyOf_len {L : List ByteArray} {first : Nat} (hf : first ≤ L.length) (hl : L.length ≤ 65536) (ht : total L ≤ 4194304) (hs : ∀ s ∈ L, s.size ≤ 65536) (cnt : Nat) : (bodyOf L first cnt).length ≤ 10000000 := by
  unfold bodyOf
  have hsub : ((L.drop first).take cnt).Sublist L := (List.take_sublist _ _).trans (List.drop_sublist _ _)
  have h1 := recds_len _ (fun s h => hs s (hsub.subset h))
  have h2 := total_sub hsub
  have h3 := hsub.length_le
  have h4 := enc_le first (by omega)
  rw [List.length_append]; omega
/-- cnt strings from first on are what a body takes. -/
structure Cut (L : List ByteArray) (lim first cnt : Nat) : Prop where
  pos : 1 ≤ cnt
  le : first + cnt ≤ L.length
  fits : 1 < cnt → (bodyOf L first cnt).length ≤ lim
  full : ∀ s, L[first + cnt]? = some s → lim < (bodyOf L first cnt).length + (recd s).length
def Cutting (L : List ByteArray) (lim : Nat) : Nat → List (List Int) → Prop
  | first, [] => first = L.length
  | first, b :: bs => ∃ cnt, Cut L lim first cnt ∧ b = bodyOf L first cnt ∧ Cutting L lim (first + cnt) bs
/-- What stands ahead of the place first, cut. -/
def CutTo (L : List ByteArray) (lim : Nat) : Nat → List (List Int) → Nat → Prop
  | first, [], last => first = last
  | first, b :: bs, last => ∃ cnt, Cut L lim first cnt ∧ b = bodyOf L first cnt ∧ CutTo L lim (first + cnt) bs last
theorem CutTo.snoc {L : List ByteArray} {lim : Nat} {bs : List (List Int)} {first last cnt : Nat} (h : CutTo L lim first bs last) (hc : Cut L lim last cnt) : CutTo L lim first (bs ++ [bodyOf L last cnt]) (last + cnt) := by
  induction bs generalizing first with
  | nil => cases h; exact ⟨cnt, hc, rfl, rfl⟩
  | cons b bs ih => obtain ⟨c, h1, h2, h3⟩ := h; exact ⟨c, h1, h2, ih h3⟩
theorem CutTo.all {L : List ByteArray} {lim : Nat} {bs : List (List Int)} {first : Nat} (h : CutTo L lim first bs L.length) : Cutting L lim first bs := by
  induction bs generalizing first with
  | nil => exact h
  | cons b bs ih => obtain ⟨c, h1, h2, h3⟩ := h; exact ⟨c, h1, h2, ih h3⟩
theorem Cutting.drop {L : List ByteArray} {lim : Nat} {first : Nat} {b : List Int} {bs : List (List Int)} (h : Cutting L lim first (b :: bs)) : ∃ cnt, Cut L lim first cnt ∧ b = bodyOf L first cnt ∧ Cutting L lim (first + cnt) bs := h
end Go.Proofs.Ytbcmheilgilipaa
