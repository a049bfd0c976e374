/-
  ReadUvarint and ReadVarint of any row of bytes.
-/
import Derived.Test.YtajkenbcndmjpabReads
namespace Go.Proofs.Ytajkenbcndmjpab.W1
open Go.RowKit

/-- What is read of a row of bytes. -/
theorem ru_any (a : Option Addr) (n c : Nat) (t : Int) (zs : List Int) (w : World) (hr : Row w a n zs) (hn : (n : Int) ≤ 9223372036854700000) :
    Calls Try.prog 39 #[.slice a n c, .int .i64 t] w fun e w' => e = .returned (out3 .u64 (rdAt zs t)) ∧ w' = w := by
  by_cases hb : t < 0 ∨ (n : Int) < t
  · exact ru_bad a n c t w zs hr.len hb
  · obtain ⟨k, rfl⟩ := Int.eq_ofNat_of_zero_le (show 0 ≤ t by omega)
    by_cases he : k = n
    · subst he; exact ru_none a k c w zs hr.len (by omega)
    · obtain ⟨b, off, rfl, hc⟩ := hr.cells.resolve_left (by omega)
      exact ru_core b off n c k zs w hr.len hn (by omega) hr.u8 hc
theorem rru_any (a : Option Addr) (n c : Nat) (t : Int) (zs : List Int) (w : World) (hr : Row w a n zs) (hn : (n : Int) ≤ 9223372036854700000) :
    Calls Try.prog 29 #[.slice a n c, .int .i64 t] w fun e w' => e = .returned (out3 .u64 (rdAt zs t)) ∧ w' = w := by
  by_cases hb : t < 0 ∨ (n : Int) < t
  · exact rru_bad a n c t w zs hr.len hb
  · obtain ⟨k, rfl⟩ := Int.eq_ofNat_of_zero_le (show 0 ≤ t by omega)
    by_cases he : k = n
    · subst he; exact rru_none a k c w zs hr.len (by omega)
    · obtain ⟨b, off, rfl, hc⟩ := hr.cells.resolve_left (by omega)
      exact rru_core b off n c k zs w hr.len hn (by omega) hr.u8 hc

/-- What a reading answers: a number of 64 bits; with an error all is 0. -/
theorem rd_bd : ∀ (l : List Int) (p : Int) (k : Nat) (X : Int), k ≤ 9 → 0 ≤ X → X < 2 ^ (7 * k) → (∀ z ∈ l, 0 ≤ z) →
    0 ≤ (rd l p k X).1 ∧ (rd l p k X).1 ≤ 18446744073709551615 ∧ ((rd l p k X).2.2 ≠ 0 → (rd l p k X).1 = 0 ∧ (rd l p k X).2.1 = 0)
  | [], p, k, X, _, _, _, _ => by simp [rd]
  | c :: r, p, k, X, hk, h0, h1, hl => by
    have hc : 0 ≤ c := hl c (by simp)
    rw [rd]
    split
    · simp
    · rename_i hov
      split
      · exact rd_bd r (p + 1) (k + 1) _ (by omega) (grow_bd h0 h1 hc).1 (grow_bd h0 h1 hc).2 (fun z hz => hl z (by simp [hz]))
      · split
        · simp
        · have := part_bd hk hc hov
          have hq := pow63 k hk
          refine ⟨?_, ?_, by simp⟩
          · show 0 ≤ X + c % 128 * 2 ^ (7 * k); omega
          · show X + c % 128 * 2 ^ (7 * k) ≤ _; omega
theorem rdAt_bd (zs : List Int) (t : Int) (h : ∀ i : Nat, 0 ≤ zs[i]?.getD 0 ∧ zs[i]?.getD 0 ≤ 255) :
    0 ≤ (rdAt zs t).1 ∧ (rdAt zs t).1 ≤ 18446744073709551615 ∧ ((rdAt zs t).2.2 ≠ 0 → (rdAt zs t).1 = 0 ∧ (rdAt zs t).2.1 = 0) := by
  unfold rdAt
  split
  · simp
  · refine rd_bd _ _ 0 0 (by omega) (by omega) (by decide) (fun z hz => ?_)
    obtain ⟨i, hi, rfl⟩ := List.getElem_of_mem (List.mem_of_mem_drop hz)
    have := (h i).1
    simpa [hi] using this

/-- Reading a signed number. -/
def rvAt (zs : List Int) (t : Int) : Int × Int × Int := (zag (rdAt zs t).1, (rdAt zs t).2.1, (rdAt zs t).2.2)

theorem rd_place : ∀ (l : List Int) (p : Int) (k : Nat) (X : Int), (rd l p k X).2.2 = 0 → p < (rd l p k X).2.1 ∧ (rd l p k X).2.1 ≤ p + l.length
  | [], p, k, X => by simp [rd]
  | c :: r, p, k, X => by
    rw [rd]
    split
    · simp
    · split
      · intro h
        have := rd_place r (p + 1) (k + 1) _ h
        rw [List.length_cons]; omega
      · split
        · simp
        · intro _
          rw [List.length_cons]
          show p < p + 1 ∧ p + 1 ≤ _
          omega
theorem rdAt_place {zs : List Int} {t : Int} (h : (rdAt zs t).2.2 = 0) : 0 ≤ t ∧ t < (rdAt zs t).2.1 ∧ (rdAt zs t).2.1 ≤ zs.length := by
  unfold rdAt at h ⊢
  split at h
  · simp at h
  · rename_i hn
    rw [if_neg hn]
    have := rd_place _ _ _ _ h
    rw [List.length_drop] at this
    omega
end Go.Proofs.Ytajkenbcndmjpab.W1
