/-
  Numbers of 32 bits as the program has them, and the contracts of the calls on them alone: step, take, times, takeZeros, lengthMayBe.
-/
import Derived.Test.YtancibbhkhjcbaaPoly
import Derived.Test.YtancibbhkhjcbaaRows
import Derived.WalkKit
import Derived.WalkLawsBesides
namespace Go.Proofs.Ytancibbhkhjcbaa
open Go.RowKit

theorem hide {p : Prop} (h : p) : Hid p := h
theorem ret_int {k : IntKind} {a b : Int} (h : a = b) : Ending.returned (.int k a) = .returned (.int k b) := by rw [h]
theorem ret_bool {a b : Bool} (h : a = b) : Ending.returned (.bool a) = .returned (.bool b) := by rw [h]
/-- The number of 32 bits as an integer. -/
def num (r : B) : Int := (r.toNat : Int)
theorem num_lo (r : B) : 0 ≤ num r := Int.natCast_nonneg _
theorem num_hi (r : B) : num r ≤ 4294967295 := by unfold num; have := r.isLt; omega
theorem num_inj {a b : B} (h : num a = num b) : a = b := by unfold num at h; exact BitVec.eq_of_toNat_eq (by omega)
theorem num_zero : num 0#32 = 0 := rfl
theorem num_of (n : Int) (h1 : 0 ≤ n) (h2 : n ≤ 4294967295) : ∃ r : B, num r = n := ⟨BitVec.ofNat 32 n.toNat, by unfold num; rw [BitVec.toNat_ofNat]; omega⟩
theorem wrapU32 (n : Int) : IntKind.u32.wrap n = n % 4294967296 := by simp [IntKind.wrap, IntKind.bits, IntKind.signed]
theorem ofInt_num (r : B) : BitVec.ofInt 32 (num r) = r := by
  apply BitVec.eq_of_toNat_eq; unfold num; rw [BitVec.toNat_ofInt]; have := r.isLt; omega
theorem wrap_num (r : B) : IntKind.u32.wrap (r.toNat : Int) = num r := by rw [wrapU32]; unfold num; have := r.isLt; omega
theorem xor_num (a b : B) : bits .xor .u32 (num a) (num b) = num (a ^^^ b) := by
  show IntKind.u32.wrap ((BitVec.ofInt 32 (num a) ^^^ BitVec.ofInt 32 (num b)).toNat : Int) = _
  rw [ofInt_num, ofInt_num, wrap_num]
theorem and_num (a b : B) : bits .and .u32 (num a) (num b) = num (a &&& b) := by
  show IntKind.u32.wrap ((BitVec.ofInt 32 (num a) &&& BitVec.ofInt 32 (num b)).toNat : Int) = _
  rw [ofInt_num, ofInt_num, wrap_num]
theorem gen_num : num gen = 3988292384 := by decide
theorem half_num (r : B) : num r / (2 : Int) = num (r >>> 1) := by
  unfold num; rw [BitVec.toNat_ushiftRight, Nat.shiftRight_eq_div_pow]; omega
theorem low_num (r : B) : num r % 2 = if r.getLsbD 0 then 1 else 0 := by
  have h : r.getLsbD 0 = decide (r.toNat % 2 = 1) := by
    rw [← BitVec.testBit_toNat, Nat.testBit_zero]
  rw [h]; unfold num
  by_cases c : r.toNat % 2 = 1
  · simp [c]; omega
  · simp [c]; omega
theorem ones_num : (4294967295 : Int) = num (BitVec.allOnes 32) := by decide
/-- A bit of r, all over. -/
theorem mask_and (c : Bool) (x : B) (k : Int) (hk : k = if c then 1 else 0) : bits .and .u32 (num x) (-k % 4294967296) = num (if c then x else 0#32) := by
  subst hk
  cases c
  · have e : (-(if false = true then (1 : Int) else 0) % 4294967296) = num 0#32 := by decide
    rw [e, and_num]; simp
  · have e : (-(if true = true then (1 : Int) else 0) % 4294967296) = num (BitVec.allOnes 32) := by decide
    rw [e, and_num, BitVec.and_allOnes]; simp
theorem stp_val (r : B) : bits .xor .u32 (num r / 2) (bits .and .u32 3988292384 (-(num r % 2) % 4294967296)) = num (stp r) := by
  rw [← gen_num, mask_and (r.getLsbD 0) gen _ (low_num r), half_num, xor_num]; rfl
theorem rstp_odd (r : B) (h : num r % 2 = 1) : bits .xor .u32 (num r / 2) 3988292384 = num (stp r) := by
  have : r.getLsbD 0 = true := by rw [low_num] at h; revert h; cases r.getLsbD 0 <;> simp
  rw [← gen_num, half_num, xor_num, stp, this]; rfl
theorem rstp_even (r : B) (h : ¬ num r % 2 = 1) : num r / 2 = num (stp r) := by
  have : r.getLsbD 0 = false := by rw [low_num] at h; revert h; cases r.getLsbD 0 <;> simp
  rw [half_num, stp, this]; simp

theorem step_any (r : B) (w : World) :
    Calls Try.prog 20 #[.int .u32 (num r)] w fun e w' => e = .returned (.int .u32 (num (stp r))) ∧ w' = w := by
  have h0 := num_lo r
  have h1 := num_hi r
  have H := hide (stp_val r)
  go_enter Try.func20, Try.ntmps20
  go_wp2
  go_ret
  exact ⟨ret_int H.out, rfl⟩
theorem rstep_any (r : B) (w : World) :
    Calls Try.prog 19 #[.int .u32 (num r)] w fun e w' => e = .returned (.int .u32 (num (stp r))) ∧ w' = w := by
  have h0 := num_lo r
  have h1 := num_hi r
  by_cases h : num r % 2 = 1
  · have H := hide (rstp_odd r h)
    have q : (num r % 2 == 1) = true := by rw [h]; rfl
    clear h
    go_enter Try.func19, Try.ntmps19
    go_wp2
    go_ret
    exact ⟨ret_int H.out, rfl⟩
  · have H := hide (rstp_even r h)
    have q : (num r % 2 == 1) = false := by simpa using h
    clear h
    go_enter Try.func19, Try.ntmps19
    go_wp2
    go_ret
    exact ⟨ret_int H.out, rfl⟩

/-- lengthMayBe. -/
theorem may_any (n : Int) (w : World) :
    Calls Try.prog 9 #[.int .i64 n] w fun e w' => e = .returned (.bool (decide (0 ≤ n) && decide (n ≤ 67108864))) ∧ w' = w := by
  by_cases h : 0 ≤ n
  · by_cases h' : n ≤ 67108864
    · go_enter Try.func9, Try.ntmps9
      go_wp2
      go_ret
      exact ⟨ret_bool (by simp [h, h']), rfl⟩
    · go_enter Try.func9, Try.ntmps9
      go_wp2
      go_ret
      exact ⟨ret_bool (by simp; omega), rfl⟩
  · go_enter Try.func9, Try.ntmps9
    go_wp2
    go_ret
    exact ⟨ret_bool (by simp; omega), rfl⟩

/-! ### the document's take: a byte, then eight steps -/
theorem stps_snoc (k : Nat) (r : B) : stp (stps k r) = stps (k + 1) r := rfl
set_option maxHeartbeats 400000 in
theorem take_any (r : B) (c : B) (w : World) (hc : num c ≤ 255) :
    Calls Try.prog 14 #[.int .u32 (num r), .int .u8 (num c)] w fun e w' => e = .returned (.int .u32 (num (stps 8 (r ^^^ c)))) ∧ w' = w := by
  have h0 := num_lo r
  have h1 := num_hi r
  have h2 := num_lo c
  have H := hide (xor_num r c)
  go_enter Try.func14, Try.ntmps14
  go_wp2
  rw [H.out]
  generalize hx : r ^^^ c = x at H
  have HX := hide hx
  clear hx h0 h1 h2 hc
  go_loopw [0, 5] (fun s i wr => ∃ k : Nat, k ≤ 8 ∧ s = .int .u32 (num (stps k x)) ∧ i = .int .i64 k ∧ wr = w) (fun _ i _ => 8 - (intOf i).toNat)
  case atStart => exact ⟨0, by omega, rfl, rfl, rfl⟩
  case round =>
    obtain ⟨k, hk, rfl, rfl, rfl⟩ := hrel
    by_cases hlt : k < 8
    · go_wp2_with fail
      refine (rstep_any _ _).mono ?_
      rintro e w' ⟨rfl, rfl⟩
      rw [stps_snoc]
      go_wp2
      exact ⟨⟨k + 1, by omega, rfl, by go_num, trivial⟩, by simp [intOf]; omega⟩
    · have : k = 8 := by omega
      subst this
      go_wp2
      go_ret
      exact ⟨ret_int (by rw [HX.out]), rfl⟩

/-! ### the product -/
theorem shr_bit (a : B) (p : Nat) : bits .and .u32 (num a / 2 ^ (31 - p)) 1 = if a.getLsbD (31 - p) then 1 else 0 := by
  have e : num a / 2 ^ (31 - p) = num (a >>> (31 - p)) := by
    unfold num; rw [BitVec.toNat_ushiftRight, Nat.shiftRight_eq_div_pow]; simp
  have e1 : (1 : Int) = num 1#32 := rfl
  rw [e, e1, and_num]
  cases h : a.getLsbD (31 - p)
  · have : a >>> (31 - p) &&& 1#32 = 0#32 := by
      ext i hi
      rcases i with _ | i
      · simpa [BitVec.getLsbD_eq_getElem] using h
      · simp [BitVec.getLsbD_one, ← BitVec.getLsbD_eq_getElem]
    rw [this]; rfl
  · have : a >>> (31 - p) &&& 1#32 = 1#32 := by
      ext i hi
      rcases i with _ | i
      · simpa [BitVec.getLsbD_eq_getElem] using h
      · simp [BitVec.getLsbD_one, ← BitVec.getLsbD_eq_getElem]
    rw [this]; rfl
theorem prod_val (k : Nat) (a b : B) : bits .xor .u32 (num (prod k a b)) (bits .and .u32 (num (stps k b)) (-bits .and .u32 (num a / 2 ^ (31 - k)) 1 % 4294967296)) = num (prod (k + 1) a b) := by
  rw [mask_and (a.getLsbD (31 - k)) (stps k b) _ (shr_bit a k), xor_num]; rfl
theorem val_int {k : IntKind} {a b : Int} (h : a = b) : Value.int k a = .int k b := by rw [h]
set_option maxHeartbeats 400000 in
theorem times_any (a b : B) (w : World) :
    Calls Try.prog 15 #[.int .u32 (num a), .int .u32 (num b)] w fun e w' => e = .returned (.int .u32 (num (prod 32 a b))) ∧ w' = w := by
  have h0 := num_lo a
  have h1 := num_hi a
  go_enter Try.func15, Try.ntmps15
  go_wp2
  go_loopw [1, 5, 8] (fun sb sp si wr => ∃ k : Nat, k ≤ 32 ∧ sb = .int .u32 (num (stps k b)) ∧ sp = .int .u32 (num (prod k a b)) ∧ si = .int .i64 k ∧ wr = w) (fun _ _ i _ => 32 - (intOf i).toNat)
  case atStart => exact ⟨0, by omega, rfl, rfl, rfl, rfl⟩
  case round =>
    obtain ⟨k, hk, rfl, rfl, rfl, rfl⟩ := hrel
    by_cases hlt : k < 32
    · go_wp2_with fail
      refine (step_any _ _).mono ?_
      rintro e w' ⟨rfl, rfl⟩
      rw [stps_snoc]
      go_wp2
      exact ⟨⟨k + 1, by omega, rfl, val_int (prod_val k a b), by go_num, trivial⟩, by simp [intOf]; omega⟩
    · have : k = 32 := by omega
      subst this
      go_wp2
      go_ret
      exact ⟨rfl, rfl⟩
theorem zero_num : (8388608 : Int) = num (stps 8 one) := by decide
theorem odd_go (e m : Nat) (r g : B) (h : m % 2 = 1) (H : stps (e * m) r = g) : stps ((e + e) * (m / 2)) (stps e r) = g := by
  rw [← stps_add, ← H]; congr 1
  have : m = 2 * (m / 2) + 1 := by omega
  generalize m / 2 = q at *
  subst this
  rw [Nat.mul_add, Nat.mul_one, ← Nat.mul_assoc, Nat.mul_two]
theorem even_go (e m : Nat) (r g : B) (h : m % 2 ≠ 1) (H : stps (e * m) r = g) : stps ((e + e) * (m / 2)) r = g := by
  rw [← H]; congr 1
  have : m = 2 * (m / 2) := by omega
  generalize m / 2 = q at *
  subst this
  rw [← Nat.mul_assoc, Nat.mul_two]
set_option maxHeartbeats 400000 in
/-- takeZeros: n zero bytes are 8 n steps. -/
theorem zeros_any (r : B) (n : Nat) (w : World) (hn : (n : Int) ≤ 9223372036854775807) :
    Calls Try.prog 10 #[.int .u32 (num r), .int .i64 n] w fun e w' => e = .returned (.int .u32 (num (stps (8 * n) r))) ∧ w' = w := by
  generalize hg : stps (8 * n) r = g
  go_enter Try.func10, Try.ntmps10
  go_wp2
  rw [zero_num]
  have HG := hide hg
  clear hg
  go_loopw [0, 1, 5] (fun sr sn sf wr => ∃ (r' : B) (m e : Nat), sr = .int .u32 (num r') ∧ sn = .int .i64 m ∧ (m : Int) ≤ 9223372036854775807 ∧ sf = .int .u32 (num (stps e one)) ∧ stps (e * m) r' = g ∧ wr = w) (fun _ i _ _ => (intOf i).toNat)
  case atStart => exact ⟨r, n, 8, rfl, rfl, hn, rfl, HG.out, rfl⟩
  case round =>
    obtain ⟨r', m, e, rfl, rfl, hm, rfl, hs, rfl⟩ := hrel
    have HS := hide hs
    clear hs HG
    by_cases hpos : 0 < m
    · by_cases ho : m % 2 = 1
      · have q : ((m : Int) % 2 == 1) = true := by simp; omega
        go_wp2_with fail
        refine (times_any _ _ _).mono ?_
        rintro e1 w' ⟨rfl, rfl⟩
        rw [prod_pow]
        go_wp2_with fail
        refine (times_any _ _ _).mono ?_
        rintro e1 w' ⟨rfl, rfl⟩
        rw [prod_pow, ← stps_add]
        go_wp2
        exact ⟨⟨_, m / 2, _, rfl, by go_num, by omega, rfl, odd_go e m r' g ho HS.out, trivial⟩, by simp [intOf]; omega⟩
      · have q : ((m : Int) % 2 == 1) = false := by simp; omega
        go_wp2_with fail
        refine (times_any _ _ _).mono ?_
        rintro e1 w' ⟨rfl, rfl⟩
        rw [prod_pow, ← stps_add]
        go_wp2
        exact ⟨⟨_, m / 2, _, rfl, by go_num, by omega, rfl, even_go e m r' g ho HS.out, trivial⟩, by simp [intOf]; omega⟩
    · have : m = 0 := by omega
      subst this
      go_wp2
      go_ret
      exact ⟨ret_int (by have := HS.out; rw [Nat.mul_zero] at this; rw [← this]; rfl), rfl⟩
theorem two_any (n : Int) (w : World) (h : ¬ (0 ≤ n ∧ n ≤ 67108864)) (a b : B) :
    Calls Try.prog 5 #[.int .u32 (num a), .int .u32 (num b), .int .i64 n] w fun e w' => e = .returned (.tuple #[.int .u32 0, .int .i64 20]) ∧ w' = w := by
  have hq : (decide (0 ≤ n) && decide (n ≤ 67108864)) = false := by simp; omega
  go_enter Try.func5, Try.ntmps5
  go_wp2_with fail
  refine (may_any _ _).mono ?_
  rintro e w' ⟨rfl, rfl⟩
  rw [hq]
  go_wp2
  go_ret2
  exact ⟨rfl, rfl⟩
theorem combine_any (n : Nat) (w : World) (h : n ≤ 67108864) (a b : B) :
    Calls Try.prog 5 #[.int .u32 (num a), .int .u32 (num b), .int .i64 n] w fun e w' => e = .returned (.tuple #[.int .u32 (num (stps (8 * n) a ^^^ b)), .int .i64 0]) ∧ w' = w := by
  have hq : (decide (0 ≤ (n : Int)) && decide ((n : Int) ≤ 67108864)) = true := by simp; omega
  have H := hide (xor_num (stps (8 * n) a) b)
  go_enter Try.func5, Try.ntmps5
  go_wp2_with fail
  refine (may_any _ _).mono ?_
  rintro e w' ⟨rfl, rfl⟩
  rw [hq]
  go_wp2_with fail
  refine (zeros_any _ _ _ (by omega)).mono ?_
  rintro e w' ⟨rfl, rfl⟩
  go_wp2
  go_ret2
  exact ⟨by rw [← H.out]; rfl, rfl⟩
end Go.Proofs.Ytancibbhkhjcbaa
