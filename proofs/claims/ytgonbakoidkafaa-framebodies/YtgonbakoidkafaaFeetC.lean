/-
  number, high: four bytes as a number, the lowest first.
-/
import Derived.Test.YtgonbakoidkafaaFeetB
namespace Go.Proofs.Ytgonbakoidkafaa
open Go.RowKit
/-- Bytes as a number, the lowest first. -/
def val : List Int → Int
  | [] => 0
  | z :: r => z + 256 * val r
theorem val_nil : val [] = 0 := rfl
theorem val_cons (z : Int) (r : List Int) : val (z :: r) = z + 256 * val r := rfl
theorem val_snoc (l : List Int) (z : Int) : val (l ++ [z]) = val l + z * 2 ^ (8 * l.length) := by
  induction l with
  | nil => simp [val]
  | cons a r ih =>
    rw [List.cons_append, val_cons, ih, val_cons, List.length_cons]
    have e : (2 : Int) ^ (8 * (r.length + 1)) = 256 * 2 ^ (8 * r.length) := by rw [show 8 * (r.length + 1) = 8 + 8 * r.length by omega, Int.pow_add]; rfl
    rw [e, Int.mul_add, Int.mul_left_comm]; omega
theorem val_bd (l : List Int) (h : ∀ z ∈ l, 0 ≤ z ∧ z ≤ 255) : 0 ≤ val l ∧ val l < 2 ^ (8 * l.length) := by
  induction l with
  | nil => simp [val]
  | cons a r ih =>
    obtain ⟨i1, i2⟩ := ih (fun z hz => h z (by simp [hz]))
    obtain ⟨a1, a2⟩ := h a (by simp)
    have e : (2 : Int) ^ (8 * (r.length + 1)) = 256 * 2 ^ (8 * r.length) := by rw [show 8 * (r.length + 1) = 8 + 8 * r.length by omega, Int.pow_add]; rfl
    rw [val_cons, List.length_cons, e]; omega
theorem val_take {l : List Int} {k : Nat} {z : Int} (h : k < l.length) (hz : l.getD k 0 = z) : val (l.take (k + 1)) = val (l.take k) + z * 2 ^ (8 * k) := by
  rw [List.take_succ_eq_append_getElem h, val_snoc, List.length_take, Nat.min_eq_left (by omega), ← hz]; simp [h]
theorem val_drop {l : List Int} {k : Nat} {z : Int} (h : k < l.length) (hz : l.getD k 0 = z) : val (l.drop k) = z + 256 * val (l.drop (k + 1)) := by
  rw [List.drop_eq_getElem_cons h, val_cons, ← hz]; simp [h]
theorem wraps_u32 (n : Int) (h₀ : 0 ≤ n) (h₁ : n < 2 ^ 32) : IntKind.u32.wrap n = n := by
  have : IntKind.u32.wrap n = n % 4294967296 := by simp [IntKind.wrap, IntKind.bits, IntKind.signed]
  rw [this]; omega
theorem or8 {k : Nat} {z X : Int} (hk : k ≤ 3) (h0 : 0 ≤ X) (h1 : X < 2 ^ (8 * k)) (hz0 : 0 ≤ z) (hz1 : z ≤ 255) :
    bits .or .u32 X (z * 2 ^ (8 * k) % 4294967296) = X + z * 2 ^ (8 * k) := by
  have hp : (0 : Int) < 2 ^ (8 * k) := Int.pow_pos (by decide)
  have hq : (2 : Int) ^ (8 * k) ≤ 16777216 := by
    have : (2 : Nat) ^ (8 * k) ≤ 2 ^ 24 := Nat.pow_le_pow_right (by decide) (by omega)
    have h2 : ((2 ^ (8 * k) : Nat) : Int) ≤ ((2 ^ 24 : Nat) : Int) := by omega
    simpa using h2
  have a1 : 0 ≤ z * 2 ^ (8 * k) := Int.mul_nonneg hz0 (by omega)
  have a2 : z * 2 ^ (8 * k) ≤ 255 * 2 ^ (8 * k) := Int.mul_le_mul_of_nonneg_right hz1 (by omega)
  rw [Int.emod_eq_of_lt a1 (by omega)]
  obtain ⟨x, rfl⟩ := Int.eq_ofNat_of_zero_le h0
  obtain ⟨d, rfl⟩ := Int.eq_ofNat_of_zero_le hz0
  have e : ((d : Int) * 2 ^ (8 * k)) = ((2 ^ (8 * k) * d : Nat) : Int) := by rw [Int.natCast_mul, Int.mul_comm]; simp
  have hx : x < 2 ^ (8 * k) := by
    have h2 : (x : Int) < ((2 ^ (8 * k) : Nat) : Int) := by simpa using h1
    omega
  rw [e] at a1 a2 ⊢
  have h := (bits_nat .u32 32 (by decide) wraps_u32 x (2 ^ (8 * k) * d) (by omega) (by omega)).2
  rw [h, Nat.or_comm, ← Nat.two_pow_add_eq_or_of_lt hx d]
  omega
set_option maxHeartbeats 800000 in
theorem nb_any (b off c : Nat) (zs : List Int) (w : World) (hz : zs.length = 4) (hu : ∀ z ∈ zs, 0 ≤ z ∧ z ≤ 255)
    (hc : ∀ i, i < 4 → w.cell? ⟨b, off + i, none⟩ = some (.int .u8 (zs.getD i 0))) :
    Calls Try.prog 25 #[.slice (some ⟨b, off, none⟩) 4 c] w fun e w' => e = .returned (.int .u32 (val zs)) ∧ w' = w := by
  go_enter Try.func25, Try.ntmps25
  go_wp2
  go_loop [3, 8] (fun sx si => ∃ (k : Nat) (X : Int), k ≤ 4 ∧ si = .int .i64 k ∧ sx = .int .u32 X ∧ X = val (zs.take k))
    (fun _ si => 4 - (intOf si).toNat)
  case atStart => exact ⟨0, 0, by omega, rfl, rfl, rfl⟩
  case round =>
    obtain ⟨k, X, hk, rfl, rfl, hX⟩ := hrel
    by_cases hlt : k < 4
    · have hck := hc k hlt
      obtain ⟨d, hd⟩ : ∃ d, d = zs.getD k 0 := ⟨_, rfl⟩
      rw [← hd] at hck
      have hdm : 0 ≤ d ∧ d ≤ 255 := hu d (by rw [hd]; simp [hz, hlt])
      have hb := val_bd (zs.take k) (fun z h => hu z (List.mem_of_mem_take h))
      rw [← hX, List.length_take, Nat.min_eq_left (by omega)] at hb
      have HO := hide (or8 (by omega) hb.1 hb.2 hdm.1 hdm.2)
      have HV := hide (val_take (l := zs) (k := k) (by omega) hd.symm)
      rw [← hX] at HV
      have hd0 := hdm.1
      have hd1 := hdm.2
      clear hd hdm hb hc hu hX
      go_wp2
      exact ⟨⟨k + 1, _, by omega, by go_num, rfl, HO.out.trans HV.out.symm⟩, by simp [intOf]; omega⟩
    · have hk4 : k = 4 := by omega
      subst hk4
      have HX : Hid (X = val zs) := by rw [List.take_of_length_le (by omega)] at hX; exact hX
      clear hX hc hu
      go_wp2
      go_ret
      exact ⟨ret_int HX.out, rfl⟩
set_option maxHeartbeats 800000 in
theorem hg_any (b off n c t : Nat) (zs : List Int) (w : World) (ht : t + 4 ≤ n) (hn : (n : Int) ≤ 9223372036854700000) (hz : zs.length = 4) (hu : ∀ z ∈ zs, 0 ≤ z ∧ z ≤ 255)
    (hc : ∀ i, i < 4 → w.cell? ⟨b, off + (t + i), none⟩ = some (.int .u8 (zs.getD i 0))) :
    Calls Try.prog 26 #[.slice (some ⟨b, off, none⟩) n c, .int .i64 t, .int .i64 (t + 4)] w fun e w' => e = .returned (.int .u64 (val zs)) ∧ w' = w := by
  have ht0 : (0 : Int) ≤ (t : Int) := by omega
  have htn : (t : Int) + 4 ≤ (n : Int) := by omega
  go_enter Try.func26, Try.ntmps26
  go_wp2
  go_loop [7, 8] (fun sx si => ∃ (k : Nat) (X i : Int), k ≤ 4 ∧ si = .int .i64 i ∧ i = (t : Int) + k - 1 ∧ sx = .int .u64 X ∧ X = val (zs.drop k))
    (fun _ si => (intOf si + 1 - t).toNat)
  case atStart => exact ⟨4, 0, _, by omega, rfl, by omega, rfl, by rw [List.drop_eq_nil_of_le (by omega)]; rfl⟩
  case round =>
    obtain ⟨k, X, i, hk, rfl, hi, rfl, hX⟩ := hrel
    by_cases hlt : 0 < k
    · obtain ⟨j, rfl⟩ : ∃ j, k = j + 1 := ⟨k - 1, by omega⟩
      have hck := hc j (by omega)
      obtain ⟨d, hd⟩ : ∃ d, d = zs.getD j 0 := ⟨_, rfl⟩
      rw [← hd] at hck
      have hdm : 0 ≤ d ∧ d ≤ 255 := hu d (by rw [hd]; have : j < 4 := by omega
                                             simp [hz, this])
      have hb := val_bd (zs.drop (j + 1)) (fun z h => hu z (List.mem_of_mem_drop h))
      rw [← hX, List.length_drop] at hb
      have hX0 := hb.1
      have hX1 : X < 16777216 := by
        have h1 : (2 : Nat) ^ (8 * (zs.length - (j + 1))) ≤ 2 ^ 24 := Nat.pow_le_pow_right (by decide) (by omega)
        have h2 : ((2 ^ (8 * (zs.length - (j + 1))) : Nat) : Int) ≤ ((2 ^ 24 : Nat) : Int) := by omega
        have h3 : (2 : Int) ^ (8 * (zs.length - (j + 1))) ≤ 16777216 := by simpa using h2
        omega
      have HV := hide (val_drop (l := zs) (k := j) (by omega) hd.symm)
      rw [← hX] at HV
      have hd0 := hdm.1
      have hd1 := hdm.2
      have hi' : i = (t : Int) + j := by omega
      subst hi'
      have hin : ((t : Int) + (j : Int)).toNat = t + j := by omega
      have hlt' : (t : Int) + (j : Int) < (n : Int) := by omega
      have hj : j ≤ 3 := by omega
      clear hd hdm hb hc hu hX hi hlt hk
      go_wp2
      exact ⟨⟨j, _, _, by omega, rfl, rfl, rfl, by rw [HV.out]; omega⟩, by simp [intOf]; omega⟩
    · have hk4 : k = 0 := by omega
      subst hk4
      have HX : Hid (X = val zs) := by rw [List.drop_zero] at hX; exact hX
      have hi' : i = (t : Int) - 1 := by omega
      subst hi'
      clear hX hc hu hi
      go_wp2
      go_ret
      exact ⟨ret_int HX.out, rfl⟩
end Go.Proofs.Ytgonbakoidkafaa
