/-
  How bodies are read: plain mathematics.
-/
import Derived.Test.YtbcmheilgilipaaTabD
import Derived.Test.YtbcmheilgilipaaCut
import Derived.Test.YtbcmheilgilipaaReadsB
import Derived.Laws.BytesArg
namespace Go.Proofs.Ytbcmheilgilipaa
open Go.RowKit
theorem rd_place : ∀ (l : List Int) (p : Int) (k : Nat) (X : Int), (rd l p k X).2.2 = 0 → p < (rd l p k X).2.1 ∧ (rd l p k X).2.1 ≤ p + l.length
  | [], p, k, X => by simp [rd]
  | c :: r, p, k, X => by
    rw [rd]
    split
    · simp
    · split
      · intro h
        have := rd_place r (p + 1) (k + 1) _ h
        rw [List.length_cons]; omega
      · split
        · simp
        · intro _
          rw [List.length_cons]
          show p < p + 1 ∧ p + 1 ≤ _
          omega
theorem rdAt_place {zs : List Int} {t : Int} (h : (rdAt zs t).2.2 = 0) : 0 ≤ t ∧ t < (rdAt zs t).2.1 ∧ (rdAt zs t).2.1 ≤ zs.length := by
  unfold rdAt at h ⊢
  split at h
  · simp at h
  · rename_i hn
    rw [if_neg hn]
    have := rd_place _ _ _ _ h
    rw [List.length_drop] at this
    omega
def cutS (zs : List Int) (p n : Nat) : ByteArray := strOfNums ((zs.drop p).take n)
/-- One record: the place behind it, the fault, the strings. -/
def rdRec (L : List ByteArray) (zs : List Int) (t : Int) : Int × Int × List ByteArray :=
  if (rdAt zs t).2.2 ≠ 0 then (0, (rdAt zs t).2.2, L)
  else if 65536 < (rdAt zs t).1 then (0, 3, L)
  else if (zs.length : Int) - (rdAt zs t).2.1 < (rdAt zs t).1 then (0, 13, L)
  else if isIn L (cutS zs (rdAt zs t).2.1.toNat (rdAt zs t).1.toNat) then (0, 41, L)
  else if roomy L.length (total L) (cutS zs (rdAt zs t).2.1.toNat (rdAt zs t).1.toNat).size then
    ((rdAt zs t).2.1 + (rdAt zs t).1, 0, L ++ [cutS zs (rdAt zs t).2.1.toNat (rdAt zs t).1.toNat])
  else (0, 3, L)
def rdRecs : Nat → List ByteArray → List Int → Int → Int × List ByteArray
  | 0, L, _, _ => (0, L)
  | k + 1, L, zs, t =>
    if t < zs.length then (if (rdRec L zs t).2.1 ≠ 0 then ((rdRec L zs t).2.1, (rdRec L zs t).2.2) else rdRecs k (rdRec L zs t).2.2 zs (rdRec L zs t).1)
    else (0, L)
def rdBody (L : List ByteArray) (zs : List Int) : Int × List ByteArray :=
  if (rdAt zs 0).2.2 ≠ 0 then ((rdAt zs 0).2.2, L)
  else if (rdAt zs 0).1 ≠ (L.length : Int) ∨ (rdAt zs 0).2.1 = (zs.length : Int) then (42, L)
  else rdRecs zs.length L zs (rdAt zs 0).2.1
def rdAll : List (List Int) → List ByteArray → Int × List ByteArray
  | [], L => (0, L)
  | b :: bs, L => if (rdBody L b).1 ≠ 0 then rdBody L b else rdAll bs (rdBody L b).2
/-- A record that is read ends behind its beginning, within the body. -/
theorem rdRec_place {L : List ByteArray} {zs : List Int} {t : Int} (hu : ∀ i : Nat, 0 ≤ zs[i]?.getD 0 ∧ zs[i]?.getD 0 ≤ 255) (h : (rdRec L zs t).2.1 = 0) : t < (rdRec L zs t).1 ∧ (rdRec L zs t).1 ≤ zs.length := by
  have hb := rdAt_bd zs t hu
  unfold rdRec at h ⊢
  split at h
  · contradiction
  · rename_i h0
    have hp := rdAt_place (zs := zs) (t := t) (by omega)
    split at h
    · simp at h
    · split at h
      · simp at h
      · split at h
        · simp at h
        · split at h
          · rename_i h1 h2 h3 h4
            rw [if_neg h0, if_neg h1, if_neg h2, if_neg h3, if_pos h4]
            show t < (rdAt zs t).2.1 + (rdAt zs t).1 ∧ (rdAt zs t).2.1 + (rdAt zs t).1 ≤ _
            omega
          · simp at h
theorem cutS_size {zs : List Int} {p n : Nat} (h : p + n ≤ zs.length) : (cutS zs p n).size = n := by
  unfold cutS; rw [strOfNums_size, List.length_take, List.length_drop]; omega
end Go.Proofs.Ytbcmheilgilipaa
