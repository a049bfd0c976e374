/-
  Where a number ends that is read.
-/
import Derived.Test.YtjpccaeojimlfaaReadsB
namespace Go.Proofs.Ytjpccaeojimlfaa
open Go.RowKit Go.Maps
theorem rd_place : ∀ (l : List Int) (p : Int) (k : Nat) (X : Int), (rd l p k X).2.2 = 0 → p < (rd l p k X).2.1 ∧ (rd l p k X).2.1 ≤ p + l.length
  | [], p, k, X => by simp [rd]
  | c :: r, p, k, X => by
    rw [rd]
    split
    · simp
    · split
      · intro h
        have := rd_place r (p + 1) (k + 1) _ h
        rw [List.length_cons]; omega
      · split
        · simp
        · intro _
          rw [List.length_cons]
          show p < p + 1 ∧ p + 1 ≤ _
          omega
theorem rdAt_place {zs : List Int} {t : Int} (h : (rdAt zs t).2.2 = 0) : 0 ≤ t ∧ t < (rdAt zs t).2.1 ∧ (rdAt zs t).2.1 ≤ zs.length := by
  unfold rdAt at h ⊢
  split at h
  · simp at h
  · rename_i hn
    rw [if_neg hn]
    have := rd_place _ _ _ _ h
    rw [List.length_drop] at this
    omega
end Go.Proofs.Ytjpccaeojimlfaa
