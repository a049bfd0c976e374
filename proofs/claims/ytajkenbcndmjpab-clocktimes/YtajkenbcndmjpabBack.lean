/-
  Plain mathematics: what is written is read, what is read was written.
-/
import Derived.Test.YtajkenbcndmjpabRead
namespace Go.Proofs.Ytajkenbcndmjpab.W1
open Go.RowKit

theorem rd_enc (y : Nat) : ∀ (rest : List Int) (p : Int) (k : Nat) (X : Int), k ≤ 9 → y * 2 ^ (7 * k) < 18446744073709551616 → (k = 0 ∨ 0 < y) →
    rd (enc y ++ rest) p k X = (X + (y : Int) * 2 ^ (7 * k), p + (enc y).length, 0) := by
  induction y using Nat.strongRecOn with
  | _ y ih =>
    intro rest p k X hk hy h0
    by_cases h : y < 128
    · have hov : ¬ (k = 9 ∧ 1 < (y : Int)) := by
        rintro ⟨rfl, h1⟩
        have : 2 ≤ y := by omega
        have : 2 * 2 ^ (7 * 9) ≤ y * 2 ^ (7 * 9) := Nat.mul_le_mul_right _ this
        omega
      rw [enc_small y h, List.singleton_append, rd, if_neg hov, if_neg (by omega), if_neg (by omega)]
      have e : (y : Int) % 128 = y := by omega
      rw [e]; rfl
    · have hk8 : k ≤ 8 := by
        by_cases hk9 : k = 9
        · subst hk9
          have : 128 * 2 ^ (7 * 9) ≤ y * 2 ^ (7 * 9) := Nat.mul_le_mul_right _ (by omega)
          omega
        · omega
      rw [enc_big y h, List.cons_append, rd, if_neg (by omega), if_pos (by omega)]
      have hy2 : y / 128 * 2 ^ (7 * (k + 1)) < 18446744073709551616 := by
        rw [pow7]
        have : y / 128 * (128 * 2 ^ (7 * k)) = (y / 128 * 128) * 2 ^ (7 * k) := by rw [Nat.mul_assoc]
        rw [this]
        exact Nat.lt_of_le_of_lt (Nat.mul_le_mul_right _ (by omega)) hy
      rw [ih (y / 128) (by omega) rest (p + 1) (k + 1) _ (by omega) hy2 (.inr (by omega))]
      have e1 : ((y % 128 + 128 : Nat) : Int) % 128 = ((y % 128 : Nat) : Int) := by omega
      have e2 : ((y % 128 : Nat) : Int) + ((y / 128 : Nat) : Int) * 128 = (y : Int) := by omega
      rw [e1, pow7I]
      simp only [Prod.mk.injEq, List.length_cons]
      refine ⟨?_, by omega, trivial⟩
      rw [← Int.mul_assoc, Int.add_assoc, ← Int.add_mul, e2]

theorem rdAt_enc (pre rest : List Int) (x : Nat) (h : x < 18446744073709551616) : rdAt (pre ++ (enc x ++ rest)) pre.length = ((x : Int), (pre.length : Int) + (enc x).length, 0) := by
  rw [rdAt_good (by simp), List.drop_left, rd_enc x rest _ 0 0 (by omega) (by simpa using h) (.inl rfl)]
  simp

theorem rd_inv : ∀ (l : List Int) (p : Int) (k : Nat) (X x q : Int), (∀ z ∈ l, 0 ≤ z ∧ z ≤ 255) → rd l p k X = (x, q, 0) →
    ∃ y : Nat, l.take (q - p).toNat = enc y ∧ x = X + (y : Int) * 2 ^ (7 * k) ∧ p ≤ q ∧ (k = 0 ∨ 0 < y)
  | [], p, k, X, x, q, _, h => by simp [rd] at h
  | c :: r, p, k, X, x, q, hl, h => by
    obtain ⟨c0, c1⟩ := hl c (by simp)
    rw [rd] at h
    split at h
    · simp at h
    · split at h
      · rename_i h128
        obtain ⟨y, e1, e2, e3, e4⟩ := rd_inv r (p + 1) (k + 1) _ x q (fun z hz => hl z (by simp [hz])) h
        have hy : 0 < y := by omega
        have hpos := (rd_place' r (p + 1) (k + 1) _ (by rw [h])).1
        rw [h] at hpos
        refine ⟨y * 128 + (c.toNat - 128), ?_, ?_, by omega, .inr (by omega)⟩
        · rw [enc_big _ (by omega)]
          have hq : (q - p).toNat = (q - (p + 1)).toNat + 1 := by simp only at hpos; omega
          rw [hq, List.take_succ_cons, e1]
          have a1 : ((y * 128 + (c.toNat - 128)) % 128 + 128 : Nat) = c.toNat := by omega
          have a2 : (y * 128 + (c.toNat - 128)) / 128 = y := by omega
          rw [a1, a2, Int.toNat_of_nonneg c0]
        · rw [e2, pow7I]
          have a3 : c % 128 = ((c.toNat - 128 : Nat) : Int) := by omega
          have a4 : (y : Int) * (128 * 2 ^ (7 * k)) = ((y : Int) * 128) * 2 ^ (7 * k) := by rw [Int.mul_assoc]
          have a5 : ((c.toNat - 128 : Nat) : Int) + (y : Int) * 128 = ((y * 128 + (c.toNat - 128) : Nat) : Int) := by omega
          rw [a3, a4, Int.add_assoc, ← Int.add_mul, a5]
      · split at h
        · simp at h
        · rename_i h128 h0
          simp only [Prod.mk.injEq, and_true] at h
          obtain ⟨e1, e2⟩ := h
          refine ⟨c.toNat, ?_, ?_, by omega, by omega⟩
          · rw [enc_small _ (by omega), show (q - p).toNat = 1 by omega, Int.toNat_of_nonneg c0]; rfl
          · rw [← e1, Int.toNat_of_nonneg c0]
            have : c % 128 = c := by omega
            rw [this]
where
  rd_place' : ∀ (l : List Int) (p : Int) (k : Nat) (X : Int), (rd l p k X).2.2 = 0 → p < (rd l p k X).2.1 ∧ (rd l p k X).2.1 ≤ p + l.length
  | [], p, k, X => by simp [rd]
  | c :: r, p, k, X => by
    rw [rd]
    split
    · simp
    · split
      · intro h
        have := rd_place' r (p + 1) (k + 1) _ h
        simp only [List.length_cons]
        omega
      · split
        · simp
        · intro _; simp only [List.length_cons]; omega

/-- What is read of any bytes is written as just these bytes. -/
theorem rdAt_inv (zs : List Int) (t : Nat) (x q : Int) (hu : ∀ i : Nat, 0 ≤ zs[i]?.getD 0 ∧ zs[i]?.getD 0 ≤ 255) (h : rdAt zs t = (x, q, 0)) :
    (zs.drop t).take (q - t).toNat = enc x.toNat ∧ 0 ≤ x := by
  have ht : t ≤ zs.length := by
    by_cases hb : t ≤ zs.length
    · exact hb
    · rw [rdAt_bad (by omega)] at h; simp at h
  rw [rdAt_good ht] at h
  obtain ⟨y, e1, e2, _, _⟩ := rd_inv _ _ _ _ _ _ (fun z hz => by
    obtain ⟨i, hi, rfl⟩ := List.getElem_of_mem (List.mem_of_mem_drop hz)
    have := hu i
    simpa [hi] using this) h
  have e3 : x = (y : Int) := by rw [e2]; simp
  rw [e1, e3]
  exact ⟨by simp, by omega⟩
end Go.Proofs.Ytajkenbcndmjpab.W1
