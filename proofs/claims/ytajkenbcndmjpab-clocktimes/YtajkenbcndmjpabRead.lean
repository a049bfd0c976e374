/-
  How bytes are read as a number: plain mathematics.
-/
import Derived.Test.YtajkenbcndmjpabEnc
namespace Go.Proofs.Ytajkenbcndmjpab.W1
open Go.RowKit

/-- From the k-th byte on, at the place p, with the number X so far. -/
def rd : List Int → Int → Nat → Int → Int × Int × Int
  | [], _, _, _ => (0, 0, 10)
  | c :: r, p, k, X =>
    if k = 9 ∧ 1 < c then (0, 0, 12)
    else if 128 ≤ c then rd r (p + 1) (k + 1) (X + c % 128 * 2 ^ (7 * k))
    else if 0 < k ∧ c = 0 then (0, 0, 11)
    else (X + c % 128 * 2 ^ (7 * k), p + 1, 0)

/-- Reading at the place 'at'. -/
def rdAt (zs : List Int) (at_ : Int) : Int × Int × Int :=
  if at_ < 0 ∨ (zs.length : Int) < at_ then (0, 0, 2) else rd (zs.drop at_.toNat) at_ 0 0

theorem rdAt_bad {zs : List Int} {t : Int} (h : t < 0 ∨ (zs.length : Int) < t) : rdAt zs t = (0, 0, 2) := by unfold rdAt; rw [if_pos h]
theorem rdAt_good {zs : List Int} {t : Nat} (h : t ≤ zs.length) : rdAt zs t = rd (zs.drop t) t 0 0 := by
  unfold rdAt; rw [if_neg (by omega), Int.toNat_natCast]

theorem drop_cons {zs : List Int} {i : Nat} {c : Int} (hi : i < zs.length) (hc : zs.getD i 0 = c) : zs.drop i = c :: zs.drop (i + 1) := by
  rw [List.drop_eq_getElem_cons hi, ← hc]; simp [hi]

theorem rd_end {zs : List Int} {i : Nat} {p : Int} {k : Nat} {X : Int} (hi : zs.length ≤ i) : rd (zs.drop i) p k X = (0, 0, 10) := by
  rw [List.drop_eq_nil_of_le hi]; rfl
theorem rd_over {zs : List Int} {i : Nat} {c p : Int} {k : Nat} {X : Int} (hi : i < zs.length) (hc : zs.getD i 0 = c) (hk : k = 9) (h1 : 1 < c) : rd (zs.drop i) p k X = (0, 0, 12) := by
  rw [drop_cons hi hc, rd, if_pos ⟨hk, h1⟩]
theorem rd_more {zs : List Int} {i : Nat} {c p : Int} {k : Nat} {X : Int} (hi : i < zs.length) (hc : zs.getD i 0 = c) (hk : k ≠ 9) (h1 : 128 ≤ c) :
    rd (zs.drop i) p k X = rd (zs.drop (i + 1)) (p + 1) (k + 1) (X + c % 128 * 2 ^ (7 * k)) := by
  rw [drop_cons hi hc, rd, if_neg (by omega), if_pos h1]
theorem rd_long {zs : List Int} {i : Nat} {c p : Int} {k : Nat} {X : Int} (hi : i < zs.length) (hc : zs.getD i 0 = c) (hk : 0 < k) (h1 : c = 0) : rd (zs.drop i) p k X = (0, 0, 11) := by
  rw [drop_cons hi hc, rd, if_neg (by omega), if_neg (by omega), if_pos ⟨hk, h1⟩]
theorem rd_done {zs : List Int} {i : Nat} {c p : Int} {k : Nat} {X : Int} (hi : i < zs.length) (hc : zs.getD i 0 = c) (h9 : ¬ (k = 9 ∧ 1 < c)) (h1 : c < 128) (h0 : ¬ (0 < k ∧ c = 0)) :
    rd (zs.drop i) p k X = (X + c % 128 * 2 ^ (7 * k), p + 1, 0) := by
  rw [drop_cons hi hc, rd, if_neg h9, if_neg (by omega), if_neg h0]

theorem pow7I (k : Nat) : (2 : Int) ^ (7 * (k + 1)) = 128 * 2 ^ (7 * k) := by rw [show 7 * (k + 1) = 7 * k + 7 by omega, Int.pow_add]; omega
theorem pow7pos (k : Nat) : (0 : Int) < 2 ^ (7 * k) := Int.pow_pos (by decide)
theorem pow7le (k : Nat) (h : k ≤ 8) : (2 : Int) ^ (7 * k) ≤ 72057594037927936 := by
  have : (2 : Nat) ^ (7 * k) ≤ 2 ^ 56 := Nat.pow_le_pow_right (by decide) (by omega)
  have h2 : ((2 ^ (7 * k) : Nat) : Int) ≤ ((2 ^ 56 : Nat) : Int) := by omega
  simpa using h2

/-- The number so far grows as it should. -/
theorem grow_bd {k : Nat} {c X : Int} (h0 : 0 ≤ X) (h1 : X < 2 ^ (7 * k)) (_hc : 0 ≤ c) : 0 ≤ X + c % 128 * 2 ^ (7 * k) ∧ X + c % 128 * 2 ^ (7 * k) < 2 ^ (7 * (k + 1)) := by
  have hp := pow7pos k
  have hc1 : 0 ≤ c % 128 := by omega
  have hc2 : c % 128 ≤ 127 := by omega
  rw [pow7I]
  generalize (2 : Int) ^ (7 * k) = P at *
  generalize c % 128 = d at *
  have a1 : 0 ≤ d * P := Int.mul_nonneg hc1 (by omega)
  have a2 : d * P ≤ 127 * P := Int.mul_le_mul_of_nonneg_right hc2 (by omega)
  omega
theorem part_bd {k : Nat} {c : Int} (hk : k ≤ 9) (_hc : 0 ≤ c) (h9 : ¬ (k = 9 ∧ 1 < c)) : 0 ≤ c % 128 * 2 ^ (7 * k) ∧ c % 128 * 2 ^ (7 * k) ≤ 9223372036854775808 := by
  have hp := pow7pos k
  have hc1 : 0 ≤ c % 128 := by omega
  have hc2 : c % 128 ≤ 127 := by omega
  have a1 : 0 ≤ c % 128 * 2 ^ (7 * k) := Int.mul_nonneg hc1 (by omega)
  refine ⟨a1, ?_⟩
  by_cases hk9 : k = 9
  · subst hk9
    have : c % 128 ≤ 1 := by omega
    have a2 : c % 128 * 2 ^ (7 * 9) ≤ 1 * 2 ^ (7 * 9) := Int.mul_le_mul_of_nonneg_right this (by omega)
    omega
  · have hq := pow7le k (by omega)
    have a2 : c % 128 * 2 ^ (7 * k) ≤ 127 * 2 ^ (7 * k) := Int.mul_le_mul_of_nonneg_right hc2 (by omega)
    omega
theorem pow63 (k : Nat) (h : k ≤ 9) : (2 : Int) ^ (7 * k) ≤ 9223372036854775808 := by
  have : (2 : Nat) ^ (7 * k) ≤ 2 ^ 63 := Nat.pow_le_pow_right (by decide) (by omega)
  have h2 : ((2 ^ (7 * k) : Nat) : Int) ≤ ((2 ^ 63 : Nat) : Int) := by omega
  simpa using h2

/-- The program's way to put a group in. -/
theorem or_part {k : Nat} {c X : Int} (hk : k ≤ 9) (h0 : 0 ≤ X) (h1 : X < 2 ^ (7 * k)) (hc : 0 ≤ c) (h9 : ¬ (k = 9 ∧ 1 < c)) :
    bits .or .u64 X (IntKind.u64.wrap (c % 128 * 2 ^ (7 * k))) = X + c % 128 * 2 ^ (7 * k) := by
  obtain ⟨a1, a2⟩ := part_bd hk hc h9
  have hw : IntKind.u64.wrap (c % 128 * 2 ^ (7 * k)) = c % 128 * 2 ^ (7 * k) := wraps_u64 _ a1 (by omega)
  rw [hw]
  have hq := pow63 k hk
  obtain ⟨x, rfl⟩ := Int.eq_ofNat_of_zero_le h0
  obtain ⟨d, hd⟩ := Int.eq_ofNat_of_zero_le (show 0 ≤ c % 128 by omega)
  rw [hd] at a1 a2 ⊢
  have e : ((d : Int) * 2 ^ (7 * k)) = ((2 ^ (7 * k) * d : Nat) : Int) := by rw [Int.natCast_mul, Int.mul_comm]; simp
  have hx : x < 2 ^ (7 * k) := by
    have h2 : (x : Int) < ((2 ^ (7 * k) : Nat) : Int) := by simpa using h1
    omega
  rw [e] at a1 a2 ⊢
  have h := (bits_nat .u64 64 (by decide) wraps_u64 x (2 ^ (7 * k) * d) (by omega) (by omega)).2
  rw [h, Nat.or_comm, ← Nat.two_pow_add_eq_or_of_lt hx d]
  omega
theorem or_nine {c X : Int} (h0 : 0 ≤ X) (h1 : X < 2 ^ (7 * 9)) (hc : 0 ≤ c) (h : c ≤ 1) :
    bits .or .u64 X (c % 128 * 9223372036854775808) = X + c % 128 * 2 ^ (7 * 9) := by
  have hp := or_part (k := 9) (by omega) h0 h1 hc (by omega)
  have e : c % 128 * 2 ^ (7 * 9) = c % 128 * 9223372036854775808 := by congr 1
  rw [e] at hp ⊢
  rwa [wraps_u64 _ (by omega) (by omega)] at hp
/-- The document's way. -/
theorem add_part {k : Nat} {c X : Int} (hk : k ≤ 9) (h0 : 0 ≤ X) (h1 : X < 2 ^ (7 * k)) (hc : 0 ≤ c) (h9 : ¬ (k = 9 ∧ 1 < c)) :
    IntKind.u64.wrap (X + IntKind.u64.wrap (2 ^ (7 * k) * (c % 128))) = X + c % 128 * 2 ^ (7 * k) := by
  obtain ⟨a1, a2⟩ := part_bd hk hc h9
  have hq := pow63 k hk
  rw [Int.mul_comm (2 ^ (7 * k))]
  rw [wraps_u64 _ a1 (by omega), wraps_u64 _ (by omega) (by omega)]
end Go.Proofs.Ytajkenbcndmjpab.W1
