/-
  Plain mathematics: the bytes of a number (base 128), how many they are, and how they are read. No walk here.
-/
import Derived.Test.YtajkenbcndmjpabMath
import Derived.Lib.BitFns
namespace Go.Proofs.Ytajkenbcndmjpab.W1
open Go.RowKit

def enc (x : Nat) : List Int := if x < 128 then [(x : Int)] else ((x % 128 + 128 : Nat) : Int) :: enc (x / 128)
termination_by x
decreasing_by omega

theorem enc_small (x : Nat) (h : x < 128) : enc x = [(x : Int)] := by rw [enc, if_pos h]
theorem enc_big (x : Nat) (h : ¬ x < 128) : enc x = ((x % 128 + 128 : Nat) : Int) :: enc (x / 128) := by rw [enc, if_neg h]
theorem enc_pos (x : Nat) : 0 < (enc x).length := by
  by_cases h : x < 128
  · rw [enc_small x h]; simp
  · rw [enc_big x h]; simp

theorem pow7 (s : Nat) : 2 ^ (7 * (s + 1)) = 128 * 2 ^ (7 * s) := by rw [show 7 * (s + 1) = 7 + 7 * s by omega, Nat.pow_add]

theorem enc_len (s x : Nat) (h1 : x < 2 ^ (7 * (s + 1))) (h2 : s = 0 ∨ 2 ^ (7 * s) ≤ x) : (enc x).length = s + 1 := by
  induction s generalizing x with
  | zero => rw [enc_small x (by simpa using h1)]; rfl
  | succ s ih =>
    have hp := Nat.two_pow_pos (7 * s)
    have h2' : 2 ^ (7 * (s + 1)) ≤ x := by rcases h2 with h | h; · omega
                                           · exact h
    rw [pow7] at h1 h2'
    rw [enc_big x (by omega), List.length_cons, ih (x / 128) (by omega) (by
      by_cases h0 : s = 0
      · exact .inl h0
      · right; obtain ⟨r, rfl⟩ : ∃ r, s = r + 1 := ⟨s - 1, by omega⟩
        omega)]

theorem enc_len_inv (x : Nat) : x < 2 ^ (7 * (enc x).length) ∧ ((enc x).length = 1 ∨ 2 ^ (7 * ((enc x).length - 1)) ≤ x) := by
  induction x using Nat.strongRecOn with
  | _ x ih =>
    by_cases h : x < 128
    · rw [enc_small x h]; exact ⟨by simpa using h, .inl rfl⟩
    · obtain ⟨i1, i2⟩ := ih (x / 128) (by omega)
      have hp := enc_pos (x / 128)
      rw [enc_big x h, List.length_cons]
      generalize (enc (x / 128)).length = L at i1 i2 hp ⊢
      obtain ⟨r, rfl⟩ : ∃ r, L = r + 1 := ⟨L - 1, by omega⟩
      rw [pow7] at i1
      refine ⟨by rw [pow7, pow7]; omega, .inr ?_⟩
      simp only [Nat.add_sub_cancel]
      rw [pow7]
      rcases i2 with i2 | i2
      · have : r = 0 := by omega
        subst this; simp; omega
      · simp only [Nat.add_sub_cancel] at i2; omega

theorem enc_le (x : Nat) (h : x < 18446744073709551616) : (enc x).length ≤ 10 := by
  obtain ⟨_, h2⟩ := enc_len_inv x
  rcases h2 with h2 | h2
  · omega
  · by_cases hc : (enc x).length ≤ 10
    · exact hc
    · have : 2 ^ 70 ≤ 2 ^ (7 * ((enc x).length - 1)) := Nat.pow_le_pow_right (by decide) (by omega)
      omega

/-- The k-th byte. -/
theorem enc_get (x k : Nat) (h : k < (enc x).length) : (enc x)[k]? = some (((x / 2 ^ (7 * k) % 128 + if k + 1 < (enc x).length then 128 else 0 : Nat) : Int)) := by
  induction k generalizing x with
  | zero =>
    by_cases hx : x < 128
    · rw [enc_small x hx]; simp; omega
    · have := enc_pos (x / 128)
      rw [enc_big x hx]; simp
      rw [if_pos this]; simp
  | succ k ih =>
    by_cases hx : x < 128
    · rw [enc_small x hx] at h; simp at h
    · rw [enc_big x hx] at h ⊢
      simp only [List.length_cons, Nat.add_lt_add_iff_right] at h ⊢
      rw [List.getElem?_cons_succ, ih (x / 128) h, pow7, Nat.div_div_eq_div_mul]

theorem enc_u8 (x k : Nat) (h : k < (enc x).length) : 0 ≤ (enc x)[k]?.getD 0 ∧ (enc x)[k]?.getD 0 ≤ 255 := by
  rw [enc_get x k h]; simp only [Option.getD_some]; split <;> omega

/-! ### how many -/
theorem or_one (x : Int) (h1 : 0 ≤ x) (h2 : x ≤ 18446744073709551615) : bits .or .u64 x 1 = ((x.toNat / 2 * 2 + 1 : Nat) : Int) := by
  obtain ⟨n, rfl⟩ := Int.eq_ofNat_of_zero_le h1
  have h := (bits_nat .u64 64 (by decide) wraps_u64 n 1 (by omega) (by omega)).2
  have e : ((1 : Nat) : Int) = 1 := rfl
  rw [e] at h; rw [h, Int.toNat_natCast]
  congr 1
  have g := Nat.two_pow_add_eq_or_of_lt (i := 1) (b := 1) (by omega) (n / 2)
  have g0 := Nat.two_pow_add_eq_or_of_lt (i := 1) (b := n % 2) (by omega) (n / 2)
  have hn : 2 ^ 1 * (n / 2) + n % 2 = n := by omega
  rw [hn] at g0
  rcases Nat.mod_two_eq_zero_or_one n with hm | hm
  · rw [hm, Nat.or_zero] at g0
    rw [← g0] at g; omega
  · rw [hm] at g0
    have : n ||| 1 = n := by
      conv => lhs; rw [g0]
      rw [Nat.or_assoc, Nat.or_self, ← g0]
    rw [this]; omega

theorem bitLen_spec (x : Nat) (h0 : 0 < x) (h : x < 18446744073709551616) : 0 < Lib.bitLen x ∧ x < 2 ^ Lib.bitLen x ∧ 2 ^ (Lib.bitLen x - 1) ≤ x := by
  induction x using Nat.strongRecOn with
  | _ x ih =>
    have e := Lib.bitLen_half x (by omega) (by omega)
    by_cases h1 : x = 1
    · subst h1; decide
    · obtain ⟨p, a, b⟩ := ih (x / 2) (by omega) (by omega) (by omega)
      rw [e]
      generalize Lib.bitLen (x / 2) = L at p a b
      obtain ⟨r, rfl⟩ : ∃ r, L = r + 1 := ⟨L - 1, by omega⟩
      simp only [Nat.add_sub_cancel] at b
      refine ⟨by omega, ?_, ?_⟩
      · rw [Nat.add_comm 1, Nat.pow_succ]; omega
      · rw [show 1 + (r + 1) - 1 = r + 1 by omega, Nat.pow_succ]; omega

theorem size_val (x : Nat) (h : x < 18446744073709551616) : (Lib.bitLen (x / 2 * 2 + 1) + 6) / 7 = (enc x).length := by
  obtain ⟨p, a, b⟩ := bitLen_spec (x / 2 * 2 + 1) (by omega) (by omega)
  generalize Lib.bitLen (x / 2 * 2 + 1) = L at p a b
  obtain ⟨s, hs⟩ : ∃ s, (L + 6) / 7 = s + 1 := ⟨(L + 6) / 7 - 1, by omega⟩
  rw [hs]
  refine (enc_len s x ?_ ?_).symm
  · have : 2 ^ L ≤ 2 ^ (7 * (s + 1)) := Nat.pow_le_pow_right (by decide) (by omega)
    omega
  · by_cases h0 : s = 0
    · exact .inl h0
    · right
      have h1 : 2 ^ (7 * s) ≤ 2 ^ (L - 1) := Nat.pow_le_pow_right (by decide) (by omega)
      obtain ⟨r, hr⟩ : ∃ r, 7 * s = r + 1 := ⟨7 * s - 1, by omega⟩
      rw [hr, Nat.pow_succ] at h1 ⊢
      omega
end Go.Proofs.Ytajkenbcndmjpab.W1
