/-
  Contracts of the calls on numbers: Zig, Zag, Diff, Step, Size (and bits.Len64), the program's and the document's.
-/
import Derived.Test.YtajkenbcndmjpabEnc
import Derived.Test.YtajkenbcndmjpabRows
import Derived.Lib.Tables
import Derived.WalkKit
import Derived.WalkLawsBesides
namespace Go.Proofs.Ytajkenbcndmjpab.W1
open Go.RowKit
theorem ret_int {k : IntKind} {a b : Int} (h : a = b) : Ending.returned (.int k a) = .returned (.int k b) := by rw [h]
theorem ret_boolB {a b : Bool} (h : a = b) : Ending.returned (.bool a) = .returned (.bool b) := by rw [h]

/-! ### bits.Len64 -/
theorem len_tail (s k : Nat) (x y : Int) (hx : 0 ≤ x) (hy : y = x / ((2 ^ s : Nat) : Int)) (hk : s = k) (hs : s ≤ 56) (h1 : y ≤ 255) (h2 : s = 0 ∨ (2 ^ s : Nat) ≤ x.toNat) (h3 : x ≤ 18446744073709551615) :
    (k : Int) + Lib.len8 y = (Lib.bitLen x.toNat : Int) := by
  subst hk
  have hp := Nat.two_pow_pos s
  have hy0 : 0 ≤ y := by rw [hy]; exact Int.ediv_nonneg hx (by omega)
  rw [Lib.len8_of y hy0 h1]
  obtain ⟨n, rfl⟩ := Int.eq_ofNat_of_zero_le hx
  rw [← Int.natCast_ediv] at hy
  subst hy
  rw [Int.toNat_natCast] at h2 ⊢
  rw [Int.toNat_natCast]
  rcases h2 with rfl | h2
  · simp
  · rw [Lib.bitLen_shift s n h2 (by omega)]; omega
theorem bl8 (y : Int) (h0 : 0 ≤ y) (h1 : y ≤ 255) : 0 ≤ Lib.len8 y ∧ Lib.len8 y ≤ 8 := by
  rw [Lib.len8_of y h0 h1]; have := Lib.bitLen_le8' y h0 h1; omega
theorem len_ret {a b : Int} {w : World} (h : a = b) : Ending.returned (.int .i64 a) = .returned (.int .i64 b) ∧ w = w := ⟨ret_int h, rfl⟩
theorem len_index (y : Int) (h0 : 0 ≤ y) (h1 : y ≤ 255) (w : World) : (Instr.index 9 (.string Lib.len8tab) (.int .u8 y)).run Try.prog w = .ok (.int .u8 (Lib.len8 y)) w :=
  Lib.run_index_len8tab w 9 .u8 y Try.underlying9 h0 h1
theorem len_000 (x : Int) (w : World) (h1 : 0 ≤ x) (h2 : x ≤ 18446744073709551615) (c1 : ¬ 4294967296 ≤ x) (c2 : ¬ 65536 ≤ x) (c3 : ¬ 256 ≤ x) :
    Calls Try.prog 44 #[.int .u64 x] w fun e w' => e = .returned (.int .i64 (Lib.bitLen x.toNat : Int)) ∧ w' = w := by
  have hy0 : 0 ≤ x := by omega
  have hy1 : x ≤ 255 := by omega
  have hb := bl8 (x) hy0 hy1
  have H : Hid (_ = (Lib.bitLen x.toNat : Int)) := len_tail 0 0 x (x) h1 (by omega) rfl (by omega) hy1 (by omega) h2
  have hi := len_index (x) hy0 hy1
  go_enter Try.func44, Try.ntmps44
  go_wp2
  go_ret
  exact len_ret (by have := H.out; omega)
theorem len_001 (x : Int) (w : World) (h1 : 0 ≤ x) (h2 : x ≤ 18446744073709551615) (c1 : ¬ 4294967296 ≤ x) (c2 : ¬ 65536 ≤ x) (c3 : 256 ≤ x) :
    Calls Try.prog 44 #[.int .u64 x] w fun e w' => e = .returned (.int .i64 (Lib.bitLen x.toNat : Int)) ∧ w' = w := by
  have hy0 : 0 ≤ x / 256 := by omega
  have hy1 : x / 256 ≤ 255 := by omega
  have hb := bl8 (x / 256) hy0 hy1
  have H : Hid (_ = (Lib.bitLen x.toNat : Int)) := len_tail 8 8 x (x / 256) h1 (by omega) rfl (by omega) hy1 (by omega) h2
  have hi := len_index (x / 256) hy0 hy1
  go_enter Try.func44, Try.ntmps44
  go_wp2
  go_ret
  exact len_ret (by have := H.out; omega)
theorem len_010 (x : Int) (w : World) (h1 : 0 ≤ x) (h2 : x ≤ 18446744073709551615) (c1 : ¬ 4294967296 ≤ x) (c2 : 65536 ≤ x) (c3 : ¬ 256 ≤ x / 65536) :
    Calls Try.prog 44 #[.int .u64 x] w fun e w' => e = .returned (.int .i64 (Lib.bitLen x.toNat : Int)) ∧ w' = w := by
  have hy0 : 0 ≤ x / 65536 := by omega
  have hy1 : x / 65536 ≤ 255 := by omega
  have hb := bl8 (x / 65536) hy0 hy1
  have H : Hid (_ = (Lib.bitLen x.toNat : Int)) := len_tail 16 16 x (x / 65536) h1 (by omega) rfl (by omega) hy1 (by omega) h2
  have hi := len_index (x / 65536) hy0 hy1
  go_enter Try.func44, Try.ntmps44
  go_wp2
  go_ret
  exact len_ret (by have := H.out; omega)
theorem len_011 (x : Int) (w : World) (h1 : 0 ≤ x) (h2 : x ≤ 18446744073709551615) (c1 : ¬ 4294967296 ≤ x) (c2 : 65536 ≤ x) (c3 : 256 ≤ x / 65536) :
    Calls Try.prog 44 #[.int .u64 x] w fun e w' => e = .returned (.int .i64 (Lib.bitLen x.toNat : Int)) ∧ w' = w := by
  have hy0 : 0 ≤ x / 65536 / 256 := by omega
  have hy1 : x / 65536 / 256 ≤ 255 := by omega
  have hb := bl8 (x / 65536 / 256) hy0 hy1
  have H : Hid (_ = (Lib.bitLen x.toNat : Int)) := len_tail 24 24 x (x / 65536 / 256) h1 (by omega) rfl (by omega) hy1 (by omega) h2
  have hi := len_index (x / 65536 / 256) hy0 hy1
  go_enter Try.func44, Try.ntmps44
  go_wp2
  go_ret
  exact len_ret (by have := H.out; omega)
theorem len_100 (x : Int) (w : World) (h1 : 0 ≤ x) (h2 : x ≤ 18446744073709551615) (c1 : 4294967296 ≤ x) (c2 : ¬ 65536 ≤ x / 4294967296) (c3 : ¬ 256 ≤ x / 4294967296) :
    Calls Try.prog 44 #[.int .u64 x] w fun e w' => e = .returned (.int .i64 (Lib.bitLen x.toNat : Int)) ∧ w' = w := by
  have hy0 : 0 ≤ x / 4294967296 := by omega
  have hy1 : x / 4294967296 ≤ 255 := by omega
  have hb := bl8 (x / 4294967296) hy0 hy1
  have H : Hid (_ = (Lib.bitLen x.toNat : Int)) := len_tail 32 32 x (x / 4294967296) h1 (by omega) rfl (by omega) hy1 (by omega) h2
  have hi := len_index (x / 4294967296) hy0 hy1
  go_enter Try.func44, Try.ntmps44
  go_wp2
  go_ret
  exact len_ret (by have := H.out; omega)
theorem len_101 (x : Int) (w : World) (h1 : 0 ≤ x) (h2 : x ≤ 18446744073709551615) (c1 : 4294967296 ≤ x) (c2 : ¬ 65536 ≤ x / 4294967296) (c3 : 256 ≤ x / 4294967296) :
    Calls Try.prog 44 #[.int .u64 x] w fun e w' => e = .returned (.int .i64 (Lib.bitLen x.toNat : Int)) ∧ w' = w := by
  have hy0 : 0 ≤ x / 4294967296 / 256 := by omega
  have hy1 : x / 4294967296 / 256 ≤ 255 := by omega
  have hb := bl8 (x / 4294967296 / 256) hy0 hy1
  have H : Hid (_ = (Lib.bitLen x.toNat : Int)) := len_tail 40 40 x (x / 4294967296 / 256) h1 (by omega) rfl (by omega) hy1 (by omega) h2
  have hi := len_index (x / 4294967296 / 256) hy0 hy1
  go_enter Try.func44, Try.ntmps44
  go_wp2
  go_ret
  exact len_ret (by have := H.out; omega)
theorem len_110 (x : Int) (w : World) (h1 : 0 ≤ x) (h2 : x ≤ 18446744073709551615) (c1 : 4294967296 ≤ x) (c2 : 65536 ≤ x / 4294967296) (c3 : ¬ 256 ≤ x / 4294967296 / 65536) :
    Calls Try.prog 44 #[.int .u64 x] w fun e w' => e = .returned (.int .i64 (Lib.bitLen x.toNat : Int)) ∧ w' = w := by
  have hy0 : 0 ≤ x / 4294967296 / 65536 := by omega
  have hy1 : x / 4294967296 / 65536 ≤ 255 := by omega
  have hb := bl8 (x / 4294967296 / 65536) hy0 hy1
  have H : Hid (_ = (Lib.bitLen x.toNat : Int)) := len_tail 48 48 x (x / 4294967296 / 65536) h1 (by omega) rfl (by omega) hy1 (by omega) h2
  have hi := len_index (x / 4294967296 / 65536) hy0 hy1
  go_enter Try.func44, Try.ntmps44
  go_wp2
  go_ret
  exact len_ret (by have := H.out; omega)
theorem len_111 (x : Int) (w : World) (h1 : 0 ≤ x) (h2 : x ≤ 18446744073709551615) (c1 : 4294967296 ≤ x) (c2 : 65536 ≤ x / 4294967296) (c3 : 256 ≤ x / 4294967296 / 65536) :
    Calls Try.prog 44 #[.int .u64 x] w fun e w' => e = .returned (.int .i64 (Lib.bitLen x.toNat : Int)) ∧ w' = w := by
  have hy0 : 0 ≤ x / 4294967296 / 65536 / 256 := by omega
  have hy1 : x / 4294967296 / 65536 / 256 ≤ 255 := by omega
  have hb := bl8 (x / 4294967296 / 65536 / 256) hy0 hy1
  have H : Hid (_ = (Lib.bitLen x.toNat : Int)) := len_tail 56 56 x (x / 4294967296 / 65536 / 256) h1 (by omega) rfl (by omega) hy1 (by omega) h2
  have hi := len_index (x / 4294967296 / 65536 / 256) hy0 hy1
  go_enter Try.func44, Try.ntmps44
  go_wp2
  go_ret
  exact len_ret (by have := H.out; omega)
theorem bits_any (x : Int) (w : World) (h1 : 0 ≤ x) (h2 : x ≤ 18446744073709551615) :
    Calls Try.prog 44 #[.int .u64 x] w fun e w' => e = .returned (.int .i64 (Lib.bitLen x.toNat : Int)) ∧ w' = w := by
  by_cases c1 : 4294967296 ≤ x
  · by_cases c2 : 65536 ≤ x / 4294967296
    · by_cases c3 : 256 ≤ x / 4294967296 / 65536
      · exact len_111 x w h1 h2 c1 c2 c3
      · exact len_110 x w h1 h2 c1 c2 c3
    · by_cases c3 : 256 ≤ x / 4294967296
      · exact len_101 x w h1 h2 c1 c2 c3
      · exact len_100 x w h1 h2 c1 c2 c3
  · by_cases c2 : 65536 ≤ x
    · by_cases c3 : 256 ≤ x / 65536
      · exact len_011 x w h1 h2 c1 c2 c3
      · exact len_010 x w h1 h2 c1 c2 c3
    · by_cases c3 : 256 ≤ x
      · exact len_001 x w h1 h2 c1 c2 c3
      · exact len_000 x w h1 h2 c1 c2 c3
theorem size_any (x : Int) (w : World) (h1 : 0 ≤ x) (h2 : x ≤ 18446744073709551615) :
    Calls Try.prog 38 #[.int .u64 x] w fun e w' => e = .returned (.int .i64 ((enc x.toNat).length : Int)) ∧ w' = w := by
  have H : Hid (_ = _) := or_one x h1 h2
  have S : Hid (_ = (enc x.toNat).length) := size_val x.toNat (by omega)
  have B := Lib.bitLen_le (x.toNat / 2 * 2 + 1) 64 (by omega) (by omega)
  go_enter Try.func38, Try.ntmps38
  go_wp2_with fail
  rw [H.out]
  refine (bits_any _ _ (by omega) (by omega)).mono ?_
  rintro e w' ⟨rfl, rfl⟩
  rw [Int.toNat_natCast]
  generalize Lib.bitLen (x.toNat / 2 * 2 + 1) = L at S B
  go_wp2
  go_ret
  exact len_ret (by have := S.out; omega)
end Go.Proofs.Ytajkenbcndmjpab.W1
