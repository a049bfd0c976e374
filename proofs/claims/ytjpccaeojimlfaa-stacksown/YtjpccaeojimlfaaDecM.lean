/-
  Reading nodes, as mathematics.
-/
import Derived.Test.YtjpccaeojimlfaaReadsB
import Derived.Test.YtjpccaeojimlfaaForF
import Derived.Test.YtjpccaeojimlfaaLawB
import Derived.Test.YtjpccaeojimlfaaEnco
namespace Go.Proofs.Ytjpccaeojimlfaa
open Go.RowKit Go.Maps Go.Shelf
def dep (N : List Nd) : Nat → Nat → Nat
  | 0, _ => 0
  | k + 1, id => if id = 0 then 0 else dep N k (N.getD (id - 1) (0, 0)).1 + 1
def depth (N : List Nd) (id : Nat) : Nat := dep N id id
theorem stkP_succ {L : List ByteArray} {N : List Nd} {P : List Stk} (h : Rep L N P) {j : Nat} (hj : j < N.length) : ∃ s, stkP P (j + 1) = s :: stkP P (N.getD j (0, 0)).1 ∧ (N.getD j (0, 0)).1 ≤ j := by
  obtain ⟨s, t, h1, _, h3, h4⟩ := h.node j _ (getN_get hj)
  refine ⟨s, ?_, h.anc j _ (getN_get hj)⟩
  rw [← h3, stkP_num (h4.imp (fun e => e) List.mem_of_mem_take)]
  rw [stkP, if_neg (by omega), Nat.add_sub_cancel, List.getD_eq_getElem?_getD, h1]; rfl
theorem dep_eq {L : List ByteArray} {N : List Nd} {P : List Stk} (h : Rep L N P) : ∀ k id, id ≤ k → id ≤ N.length → dep N k id = (stkP P id).length := by
  intro k
  induction k with
  | zero => intro id h1 _; have : id = 0 := by omega
            subst this; rfl
  | succ k ih =>
    intro id h1 h2
    cases id with
    | zero => simp [dep, stkP]
    | succ j =>
      obtain ⟨s, e, hle⟩ := stkP_succ h (j := j) (by omega)
      rw [dep, if_neg (by omega), Nat.add_sub_cancel, ih _ (by omega) (by omega), e]; simp
theorem depth_eq {L : List ByteArray} {N : List Nd} {P : List Stk} (h : Rep L N P) {id : Nat} (hid : id ≤ N.length) : depth N id = (stkP P id).length := dep_eq h id id (Nat.le_refl _) hid
theorem stkP_has {P : List Stk} {id : Nat} (h : id ≤ P.length) : Has P (stkP P id) := by
  cases id with
  | zero => exact .inl rfl
  | succ j =>
    right
    rw [stkP, if_neg (by omega), Nat.add_sub_cancel, List.getD_eq_getElem?_getD, List.getElem?_eq_getElem (by omega)]
    exact List.getElem_mem _
theorem num_stkP {L : List ByteArray} {N : List Nd} {P : List Stk} (h : Rep L N P) {id : Nat} (hid : id ≤ P.length) : num P (stkP P id) = id := by
  cases id with
  | zero => exact num_nil P
  | succ j =>
    have hg : P[j]? = some (stkP P (j + 1)) := by rw [stkP, if_neg (by omega), Nat.add_sub_cancel, List.getD_eq_getElem?_getD, List.getElem?_eq_getElem (by omega)]; rfl
    have hm := List.mem_of_getElem? hg
    rw [num_mem (fun e => h.noNil (by rw [← e]; exact hm)) hm, idx_of_get h.nodup hg]
/-- Why a node may not be the next one; 0: it may. -/
def why (N : List Nd) (n : Nd) : Int := if depth N n.1 = 16 then 51 else if nid N n ≠ 0 then 52 else if N.length = 262144 then 3 else 0
theorem Fit.next {L : List ByteArray} {N : List Nd} {P : List Stk} (h : Fit L N P) {n : Nd} (h1 : n.1 ≤ N.length) (h2 : n.2 < L.length) (hw : why N n = 0) : ∃ P', Fit L (N ++ [n]) P' := by
  unfold why at hw
  split at hw
  · cases hw
  · rename_i hd
    split at hw
    · cases hw
    · rename_i hnid
      have hnid' : nid N n = 0 := by simpa using hnid
      obtain ⟨p, f⟩ := n
      have hs : L[f]? = some (L[f]'h2) := List.getElem?_eq_getElem h2
      have hu := stkP_has (P := P) (id := p) (by rw [h.rep.len]; exact h1)
      have hnu : num P (stkP P p) = p := num_stkP h.rep (by rw [h.rep.len]; exact h1)
      have hpl : place L (L[f]'h2) = f := place_of_get h.nodup hs
      have hnot : L[f]'h2 :: stkP P p ∉ P := by
        intro hm
        have := h.rep.nid h.good.1 h.nodup (List.mem_of_getElem? hs) hu
        rw [hnu, hpl, num_mem (by simp) hm] at this
        omega
      have hlen : (stkP P p).length < 16 := by
        have := stkP_len h.rep p
        rw [depth_eq h.rep h1] at hd
        dsimp only at hd
        omega
      have hr := h.rep.snoc (L' := L) ⟨[], by simp⟩ (List.mem_of_getElem? hs) hu hnot hlen
      rw [hnu, hpl] at hr
      have hni : (p, f) ∉ N := by
        intro hm
        rw [nid, if_pos hm] at hnid'
        omega
      refine ⟨_, ⟨?_, ?_⟩, hr, h.nodup⟩
      · rw [List.nodup_append]
        exact ⟨h.good.1, by simp, by intro a ha b hb; simp at hb; rintro rfl; exact hni (by rw [← hb]; exact ha)⟩
      · intro m hm
        rw [List.length_append]
        rcases List.mem_append.1 hm with hm | hm
        · have := h.good.2 m hm; simp; omega
        · simp at hm; subst hm
          dsimp only at h1 h2 ⊢
          simp; omega
/-- One record. -/
def rdRecN (m : Nat) (N : List Nd) (zs : List Int) (t : Int) : Int × Int × List Nd :=
  if (rdAt zs t).2.2 ≠ 0 then (0, (rdAt zs t).2.2, N)
  else if (N.length : Int) < (rdAt zs t).1 then (0, 52, N)
  else if (rdAt zs (rdAt zs t).2.1).2.2 ≠ 0 then (0, (rdAt zs (rdAt zs t).2.1).2.2, N)
  else if (m : Int) ≤ (rdAt zs (rdAt zs t).2.1).1 then (0, 40, N)
  else if why N (N.length - (rdAt zs t).1.toNat, (rdAt zs (rdAt zs t).2.1).1.toNat) ≠ 0 then (0, why N (N.length - (rdAt zs t).1.toNat, (rdAt zs (rdAt zs t).2.1).1.toNat), N)
  else ((rdAt zs (rdAt zs t).2.1).2.1, 0, N ++ [(N.length - (rdAt zs t).1.toNat, (rdAt zs (rdAt zs t).2.1).1.toNat)])
def rdRecsN (m : Nat) : Nat → List Nd → List Int → Int → Int × List Nd
  | 0, N, _, _ => (0, N)
  | k + 1, N, zs, t => if t < zs.length then (if (rdRecN m N zs t).2.1 ≠ 0 then ((rdRecN m N zs t).2.1, (rdRecN m N zs t).2.2) else rdRecsN m k (rdRecN m N zs t).2.2 zs (rdRecN m N zs t).1) else (0, N)
def rdBodyN (m : Nat) (N : List Nd) (zs : List Int) : Int × List Nd :=
  if (rdAt zs 0).2.2 ≠ 0 then ((rdAt zs 0).2.2, N)
  else if (rdAt zs 0).1 ≠ ((N.length + 1 : Nat) : Int) ∨ (rdAt zs 0).2.1 = (zs.length : Int) then (42, N)
  else rdRecsN m zs.length N zs (rdAt zs 0).2.1
def rdAllN (m : Nat) : List (List Int) → List Nd → Int × List Nd
  | [], N => (0, N)
  | z :: r, N => if (rdBodyN m N z).1 ≠ 0 then rdBodyN m N z else rdAllN m r (rdBodyN m N z).2
theorem rdRecN_place {m : Nat} {N : List Nd} {zs : List Int} {t : Int} (h : (rdRecN m N zs t).2.1 = 0) : t < (rdRecN m N zs t).1 ∧ (rdRecN m N zs t).1 ≤ zs.length := by
  unfold rdRecN at h ⊢
  by_cases h1 : (rdAt zs t).2.2 ≠ 0
  · rw [if_pos h1] at h; exact absurd h h1
  rw [if_neg h1] at h ⊢
  by_cases h2 : (N.length : Int) < (rdAt zs t).1
  · rw [if_pos h2] at h; cases h
  rw [if_neg h2] at h ⊢
  by_cases h3 : (rdAt zs (rdAt zs t).2.1).2.2 ≠ 0
  · rw [if_pos h3] at h; exact absurd h h3
  rw [if_neg h3] at h ⊢
  by_cases h4 : (m : Int) ≤ (rdAt zs (rdAt zs t).2.1).1
  · rw [if_pos h4] at h; cases h
  rw [if_neg h4] at h ⊢
  by_cases h5 : why N (N.length - (rdAt zs t).1.toNat, (rdAt zs (rdAt zs t).2.1).1.toNat) ≠ 0
  · rw [if_pos h5] at h; exact absurd h h5
  rw [if_neg h5]
  have a1 := rdAt_place (zs := zs) (t := t) (by omega)
  have a2 := rdAt_place (zs := zs) (t := (rdAt zs t).2.1) (by omega)
  dsimp only
  omega
theorem rdRecsN_out {m k : Nat} {N : List Nd} {zs : List Int} {t : Int} (h : ¬ t < zs.length) : rdRecsN m k N zs t = (0, N) := by
  cases k with
  | zero => rfl
  | succ k => rw [rdRecsN, if_neg h]
theorem rdRecsN_fault {m k : Nat} {N : List Nd} {zs : List Int} {t : Int} (h : t < zs.length) (hf : (rdRecN m N zs t).2.1 ≠ 0) : rdRecsN m (k + 1) N zs t = ((rdRecN m N zs t).2.1, (rdRecN m N zs t).2.2) := by
  rw [rdRecsN, if_pos h, if_pos hf]
theorem rdRecsN_next {m k : Nat} {N : List Nd} {zs : List Int} {t : Int} (h : t < zs.length) (hf : (rdRecN m N zs t).2.1 = 0) : rdRecsN m (k + 1) N zs t = rdRecsN m k (rdRecN m N zs t).2.2 zs (rdRecN m N zs t).1 := by
  rw [rdRecsN, if_pos h, if_neg (by omega)]
end Go.Proofs.Ytjpccaeojimlfaa
