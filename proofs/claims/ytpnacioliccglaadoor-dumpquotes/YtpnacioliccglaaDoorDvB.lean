/-
  A word, sign by sign.
-/
import Derived.Test.YtpnacioliccglaaDoorDuN
namespace Go.Proofs.YtpnacioliccglaaDoor
open Go.RowKit
set_option linter.unusedVariables false
/-- Bytes, and how they are written. -/
inductive Wq : List UInt8 → List UInt8 → Prop
  | nil : Wq [] []
  | one (b : UInt8) (t w : List UInt8) : 32 ≤ b.toNat → b.toNat ≤ 126 → b.toNat ≠ 34 → b.toNat ≠ 92 → Wq t w → Wq (b :: t) (b :: w)
  | esc (b : UInt8) (t w : List UInt8) : (b.toNat = 34 ∨ b.toNat = 92) → Wq t w → Wq (b :: t) (92 :: b :: w)
  | ltr (b c : UInt8) (t w : List UInt8) : ((c.toNat = 110 ∧ b.toNat = 10) ∨ (c.toNat = 114 ∧ b.toNat = 13) ∨ (c.toNat = 116 ∧ b.toNat = 9)) → Wq t w → Wq (b :: t) (92 :: c :: w)
  | hex (b : UInt8) (t w : List UInt8) : Wq t w → Wq (b :: t) (92 :: 120 :: dgt (b.toNat / 16) :: dgt (b.toNat % 16) :: w)
  | seq (s : ByteArray) (i : Nat) (t w : List UInt8) : 2 ≤ wl s i → i + wl s i ≤ s.size → ¬ (wl s i = 2 ∧ bA s i = 194 ∧ bA s (i + 1) < 160) → Wq t w → Wq (bsA s i (wl s i) ++ t) (bsA s i (wl s i) ++ w)
theorem drop_get {s : ByteArray} {i : Nat} (h : i < s.size) : s.data.toList.drop i = s.get! i :: s.data.toList.drop (i + 1) := by
  have hl : i < s.data.toList.length := by rw [Array.length_toList]; exact h
  rw [List.drop_eq_getElem_cons hl]
  congr 1
  rw [gB_get h]
  simp
  rfl
theorem bsA_drop {s : ByteArray} {i : Nat} : ∀ n, i + n ≤ s.size → s.data.toList.drop i = bsA s i n ++ s.data.toList.drop (i + n)
  | 0, _ => by simp [bsA]
  | n + 1, h => by
    rw [bsA, List.append_assoc, bsA_drop n (by omega), drop_get (i := i + n) (by omega)]
    simp [Nat.add_assoc]
theorem nat_of {c n : Nat} {b : UInt8} (h : c = n) (hb : b.toNat = n) : c = b.toNat := h.trans hb.symm
theorem get_nat (s : ByteArray) (i : Nat) : (s.get! i).toNat = bA s i := rfl
theorem wq_qtF (s : ByteArray) : ∀ (f i : Nat), s.size ≤ i + f → Wq (s.data.toList.drop i) (qtF s f i)
  | 0, i, h => by
    rw [qtF_end (by omega), List.drop_eq_nil_of_le (by rw [Array.length_toList]; exact h)]
    exact .nil
  | f + 1, i, h => by
    by_cases hi : i < s.size
    · rw [qtF_on hi]
      have hp := stp_pos s i
      have hin := stp_in hi
      have ih := wq_qtF s f (i + stp s i) (by omega)
      have h1 : stp s i = 1 → s.data.toList.drop i = s.get! i :: s.data.toList.drop (i + stp s i) := fun e => by rw [e]; exact drop_get hi
      unfold sg
      by_cases c1 : bA s i = 92 ∨ bA s i = 34
      · have e : stp s i = 1 := by unfold stp; rcases wlc s i with ⟨q, _⟩ | ⟨q, _⟩ | ⟨q, _⟩ | ⟨q, _⟩ | ⟨q, _⟩ <;> rw [q] <;> simp <;> omega
        rw [if_pos c1, h1 e]
        exact .esc _ _ _ (by rw [get_nat]; omega) ih
      rw [if_neg c1]
      by_cases c2 : bA s i = 10
      · have e : stp s i = 1 := by unfold stp; rcases wlc s i with ⟨q, _⟩ | ⟨q, _⟩ | ⟨q, _⟩ | ⟨q, _⟩ | ⟨q, _⟩ <;> rw [q] <;> simp <;> omega
        rw [if_pos c2, h1 e]
        exact .ltr _ _ _ _ (.inl ⟨rfl, by rw [get_nat]; exact c2⟩) ih
      rw [if_neg c2]
      by_cases c3 : bA s i = 13
      · have e : stp s i = 1 := by unfold stp; rcases wlc s i with ⟨q, _⟩ | ⟨q, _⟩ | ⟨q, _⟩ | ⟨q, _⟩ | ⟨q, _⟩ <;> rw [q] <;> simp <;> omega
        rw [if_pos c3, h1 e]
        exact .ltr _ _ _ _ (.inr (.inl ⟨rfl, by rw [get_nat]; exact c3⟩)) ih
      rw [if_neg c3]
      by_cases c4 : bA s i = 9
      · have e : stp s i = 1 := by unfold stp; rcases wlc s i with ⟨q, _⟩ | ⟨q, _⟩ | ⟨q, _⟩ | ⟨q, _⟩ | ⟨q, _⟩ <;> rw [q] <;> simp <;> omega
        rw [if_pos c4, h1 e]
        exact .ltr _ _ _ _ (.inr (.inr ⟨rfl, by rw [get_nat]; exact c4⟩)) ih
      rw [if_neg c4]
      by_cases c5 : wl s i = 1 ∧ 32 ≤ bA s i ∧ bA s i ≤ 126
      · have e : stp s i = 1 := by unfold stp; rw [c5.1]; rfl
        rw [if_pos c5, h1 e]
        exact .one _ _ _ (by rw [get_nat]; omega) (by rw [get_nat]; omega) (by rw [get_nat]; omega) (by rw [get_nat]; omega) ih
      rw [if_neg c5]
      by_cases c6 : wl s i ≤ 1
      · have e : stp s i = 1 := by unfold stp; split <;> omega
        rw [if_pos c6, h1 e]
        exact .hex _ _ _ ih
      rw [if_neg c6]
      have e : stp s i = wl s i := by unfold stp; rw [if_neg (by omega)]
      by_cases c7 : wl s i = 2 ∧ bA s i = 194 ∧ bA s (i + 1) < 160
      · rw [if_pos c7]
        rw [e, c7.1] at ih hin
        rw [drop_get hi, drop_get (i := i + 1) (by omega), e, c7.1]
        exact .hex _ _ _ (.hex _ _ _ ih)
      · rw [if_neg c7, bsA_drop (wl s i) (by rw [← e]; exact hin)]
        rw [e] at ih hin ⊢
        exact .seq _ _ _ _ (by omega) hin c7 ih
    · rw [qtF_end hi, List.drop_eq_nil_of_le (by rw [Array.length_toList]; exact Nat.not_lt.1 hi)]
      exact .nil
theorem wq_wrd (s : ByteArray) : ∃ W, wrd s = 34 :: (W ++ [34]) ∧ Wq s.data.toList W := by
  refine ⟨qtF s s.size 0, ?_, ?_⟩
  · unfold wrd; simp
  · have := wq_qtF s s.size 0 (by omega)
    simpa using this
end Go.Proofs.YtpnacioliccglaaDoor
