/-
  Plain mathematics: numbers as bytes to the base 128, the zigzag. No walk here.
-/
import Derived.WalkKit
namespace Go.Proofs.Ytajkenbcndmjpab.W1
open Go.RowKit

/-! ### the zigzag -/
def zig (n : Int) : Int := if 0 ≤ n then 2 * n else -2 * n - 1
def zag (u : Int) : Int := if u % 2 = 0 then u / 2 else -(u / 2) - 1

theorem zig_bd (n : Int) (h1 : -9223372036854775808 ≤ n) (h2 : n ≤ 9223372036854775807) : 0 ≤ zig n ∧ zig n ≤ 18446744073709551615 := by
  unfold zig; split <;> omega
theorem zag_bd (u : Int) (h1 : 0 ≤ u) (h2 : u ≤ 18446744073709551615) : -9223372036854775808 ≤ zag u ∧ zag u ≤ 9223372036854775807 := by
  unfold zag; split <;> omega
theorem zag_zig (n : Int) : zag (zig n) = n := by
  unfold zag zig; split <;> split <;> omega
theorem zig_zag (u : Int) (h : 0 ≤ u) : zig (zag u) = u := by
  unfold zag zig; split <;> split <;> omega
theorem zag_zero : zag 0 = 0 := by decide

theorem wrapU (n : Int) : IntKind.u64.wrap n = n % 18446744073709551616 := by simp [IntKind.wrap, IntKind.bits, IntKind.signed]

theorem xor_zero_u64 (a : Int) (h1 : 0 ≤ a) (h2 : a ≤ 18446744073709551615) : bits .xor .u64 a 0 = a := by
  have e : BitVec.ofInt 64 0 = 0#64 := by decide
  show IntKind.u64.wrap ((BitVec.ofInt 64 a ^^^ BitVec.ofInt 64 0).toNat : Int) = _
  rw [e, BitVec.xor_zero, wrapU, BitVec.toNat_ofInt]
  have : ((2 ^ 64 : Nat) : Int) = 18446744073709551616 := by decide
  rw [this]; omega
theorem xor_ones_u64 (a : Int) (h1 : 0 ≤ a) (h2 : a ≤ 18446744073709551615) : bits .xor .u64 a 18446744073709551615 = 18446744073709551615 - a := by
  have e : BitVec.ofInt 64 18446744073709551615 = BitVec.allOnes 64 := by decide
  show IntKind.u64.wrap ((BitVec.ofInt 64 a ^^^ BitVec.ofInt 64 18446744073709551615).toNat : Int) = _
  rw [e, BitVec.xor_allOnes, wrapU, BitVec.toNat_not, BitVec.toNat_ofInt]
  have : ((2 ^ 64 : Nat) : Int) = 18446744073709551616 := by decide
  rw [this]; omega
theorem xor_zero_i64 (a : Int) (h1 : 0 ≤ a) (h2 : a ≤ 9223372036854775807) : bits .xor .i64 a 0 = a := by
  have e : BitVec.ofInt 64 0 = 0#64 := by decide
  show IntKind.i64.wrap ((BitVec.ofInt 64 a ^^^ BitVec.ofInt 64 0).toNat : Int) = _
  rw [e, BitVec.xor_zero, IntKind.wrap_i64, BitVec.toNat_ofInt]
  have : ((2 ^ 64 : Nat) : Int) = 18446744073709551616 := by decide
  rw [this]; omega
theorem xor_ones_i64 (a : Int) (h1 : 0 ≤ a) (h2 : a ≤ 9223372036854775807) : bits .xor .i64 a (-1) = -a - 1 := by
  have e : BitVec.ofInt 64 (-1) = BitVec.allOnes 64 := by decide
  show IntKind.i64.wrap ((BitVec.ofInt 64 a ^^^ BitVec.ofInt 64 (-1)).toNat : Int) = _
  rw [e, BitVec.xor_allOnes, IntKind.wrap_i64, BitVec.toNat_not, BitVec.toNat_ofInt]
  have : ((2 ^ 64 : Nat) : Int) = 18446744073709551616 := by decide
  rw [this]; omega

theorem wraps_u64 (n : Int) (h₀ : 0 ≤ n) (h₁ : n < 2 ^ 64) : IntKind.u64.wrap n = n := by rw [wrapU]; omega

theorem zig_val (n : Int) (h1 : -9223372036854775808 ≤ n) (h2 : n ≤ 9223372036854775807) :
    bits .xor .u64 (IntKind.u64.wrap (wrap64 (n * 2))) (IntKind.u64.wrap (n / 9223372036854775808)) = zig n := by
  by_cases h : 0 ≤ n
  · have e1 : n / 9223372036854775808 = 0 := by omega
    have e2 : IntKind.u64.wrap (wrap64 (n * 2)) = 2 * n := by rw [wrapU]; unfold wrap64; omega
    have e3 : IntKind.u64.wrap 0 = 0 := by decide
    rw [e1, e2, e3, xor_zero_u64 _ (by omega) (by omega)]; unfold zig; rw [if_pos h]
  · have e1 : n / 9223372036854775808 = -1 := by omega
    have e2 : IntKind.u64.wrap (wrap64 (n * 2)) = 2 * n + 18446744073709551616 := by rw [wrapU]; unfold wrap64; omega
    have e3 : IntKind.u64.wrap (-1) = 18446744073709551615 := by decide
    rw [e1, e2, e3, xor_ones_u64 _ (by omega) (by omega)]; unfold zig; rw [if_neg h]; omega

theorem and_one (n : Int) (h1 : 0 ≤ n) (h2 : n ≤ 18446744073709551615) : bits .and .u64 n 1 = n % 2 :=
  bits_mask .u64 64 (by decide) wraps_u64 1 (by decide) n h1 (by omega)

theorem zag_val (n : Int) (h1 : 0 ≤ n) (h2 : n ≤ 18446744073709551615) :
    bits .xor .i64 (n / 2) (wrap64 (-wrap64 (bits .and .u64 n 1))) = zag n := by
  rw [and_one n h1 h2]
  by_cases h : n % 2 = 0
  · rw [h]
    have e : wrap64 (-wrap64 0) = 0 := by unfold wrap64; omega
    rw [e, xor_zero_i64 _ (by omega) (by omega)]; unfold zag; rw [if_pos h]
  · have h' : n % 2 = 1 := by omega
    rw [h']
    have e : wrap64 (-wrap64 1) = -1 := by unfold wrap64; omega
    rw [e, xor_ones_i64 _ (by omega) (by omega)]; unfold zag; rw [if_neg h]

theorem rzig_pos (n : Int) (h : 0 ≤ n) : 2 * n = zig n := by unfold zig; rw [if_pos h]
theorem rzig_neg (n : Int) (h1 : -9223372036854775808 ≤ n) (h : n < 0) :
    IntKind.u64.wrap (IntKind.u64.wrap (2 * IntKind.u64.wrap (-IntKind.u64.wrap n)) - 1) = zig n := by
  unfold zig; rw [if_neg (by omega)]; simp only [wrapU]; omega
theorem rzag_pos (n : Int) (h : n % 2 = 0) : n / 2 = zag n := by unfold zag; rw [if_pos h]
theorem rzag_neg (n : Int) (h : ¬ n % 2 = 0) : -(n / 2) - 1 = zag n := by unfold zag; rw [if_neg h]

/-- The way from a to b. -/
def diff (a b : Int) : Int := zig (wrap64 (IntKind.u64.wrap (b - a)))
/-- Where the way d leads from a. -/
def step (a d : Int) : Int := IntKind.u64.wrap (a + IntKind.u64.wrap (zag d))
theorem wrap64_bd (n : Int) : -9223372036854775808 ≤ wrap64 n ∧ wrap64 n ≤ 9223372036854775807 := by unfold wrap64; omega
theorem wrapU_bd (n : Int) : 0 ≤ IntKind.u64.wrap n ∧ IntKind.u64.wrap n ≤ 18446744073709551615 := by rw [wrapU]; omega
theorem diff_bd (a b : Int) : 0 ≤ diff a b ∧ diff a b ≤ 18446744073709551615 := zig_bd _ (wrap64_bd _).1 (wrap64_bd _).2
theorem step_bd (a b : Int) : 0 ≤ step a b ∧ step a b ≤ 18446744073709551615 := wrapU_bd _
theorem step_diff (a b : Int) (hb : 0 ≤ b) (hb' : b ≤ 18446744073709551615) : step a (diff a b) = b := by
  unfold step diff; rw [zag_zig]; simp only [wrapU]; unfold wrap64; omega
theorem diff_step (a d : Int) (hb : 0 ≤ d) (hb' : d ≤ 18446744073709551615) : diff a (step a d) = d := by
  unfold step diff
  have h := zag_bd d hb hb'
  have e : wrap64 (IntKind.u64.wrap (IntKind.u64.wrap (a + IntKind.u64.wrap (zag d)) - a)) = zag d := by simp only [wrapU]; unfold wrap64; omega
  rw [e, zig_zag d hb]
theorem diff_self (a : Int) : diff a a = 0 := by
  unfold diff; have e : wrap64 (IntKind.u64.wrap (a - a)) = 0 := by simp only [wrapU]; unfold wrap64; omega
  rw [e]; decide
theorem diff_up (a : Int) : diff a (IntKind.u64.wrap (a + 1)) = 2 := by
  unfold diff; have e : wrap64 (IntKind.u64.wrap (IntKind.u64.wrap (a + 1) - a)) = 1 := by simp only [wrapU]; unfold wrap64; omega
  rw [e]; decide
theorem diff_down (a : Int) : diff (IntKind.u64.wrap (a + 1)) a = 1 := by
  unfold diff; have e : wrap64 (IntKind.u64.wrap (a - IntKind.u64.wrap (a + 1))) = -1 := by simp only [wrapU]; unfold wrap64; omega
  rw [e]; decide
theorem step_two (a : Int) : step a 2 = IntKind.u64.wrap (a + 1) := by
  unfold step; have e : zag 2 = 1 := by decide
  rw [e]; simp only [wrapU]; omega
theorem zig_mod (n : Int) : zig n % 2 = if n < 0 then 1 else 0 := by unfold zig; split <;> split <;> omega
theorem zig_half (n : Int) : zig n / 2 = if n < 0 then -(n + 1) else n := by unfold zig; split <;> split <;> omega
end Go.Proofs.Ytajkenbcndmjpab.W1
