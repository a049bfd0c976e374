/-
  The marks: a stream of two bodies.
-/
import Derived.Test.YtamoioebgnmcaaaDoorSLaw
namespace Go.Proofs.YtamoioebgnmcaaaDoor
open Go.RowKit
def mark (i : Nat) : Rc := ⟨i, 22, 0, 0, 0⟩
def marks : Nat → Nat → List Rc
  | _, 0 => []
  | k, n + 1 => mark k :: marks (k + 1) n
def rep : Nat → List Int
  | 0 => []
  | n + 1 => 22 :: 0 :: rep n
theorem text_mark (i : Nat) : text ⟨i, 0, 0⟩ (mark i) = [22, 0] := by
  unfold text fO fA fK xO xA xK mark
  simp [enc_small]
theorem text_32 : text St.zero (mark 32) = [22, 32] := by
  unfold text fO fA fK xO xA xK mark St.zero
  simp [enc_small]
theorem rep_len : ∀ n, (rep n).length = 2 * n
  | 0 => rfl
  | n + 1 => by rw [rep, List.length_cons, List.length_cons, rep_len n]; omega
theorem marks_snoc : ∀ (n k : Nat), marks k (n + 1) = marks k n ++ [mark (k + n)]
  | 0, k => rfl
  | n + 1, k => by
    rw [marks, marks_snoc n (k + 1), marks, List.cons_append]
    congr 3
    congr 1
    omega
theorem marks_len : ∀ (n k : Nat), (marks k n).length = n
  | 0, k => rfl
  | n + 1, k => by rw [marks, List.length_cons, marks_len n]
theorem encs_marks : ∀ (n k : Nat), encs ⟨k, 0, 0⟩ (marks k n) = rep n
  | 0, k => rfl
  | n + 1, k => by
    rw [marks, encs, text_mark, rep]
    show 22 :: 0 :: encs ⟨((k + 1 : Nat) : Int), 0, 0⟩ (marks (k + 1) n) = _
    rw [encs_marks n]
theorem putE_mark (k : Nat) (h : k < 1000) : putE St.zero (mark k) = 0 := putE_of (by unfold mark St.zero; dsimp only; omega)
theorem strE_marks : ∀ (n k : Nat) (m : Int), m ≤ k → k + n < 1000 → strE m (marks k n) = 0
  | 0, k, m, _, _ => rfl
  | n + 1, k, m, h, h2 => by
    rw [marks]
    exact strE_step.2 ⟨putE_mark k (by omega), h, strE_marks n (k + 1) _ (by unfold mark; dsimp only; omega) (by omega)⟩
theorem marks_ok : ∀ (n k : Nat), ∀ r ∈ marks k n, r.ok
  | 0, k, r, h => by simp [marks] at h
  | n + 1, k, r, h => by
    rw [marks] at h
    rcases List.mem_cons.1 h with e | e
    · subst e; exact ⟨by unfold mark; dsimp only; omega, by unfold mark; dsimp only; omega, by unfold mark; dsimp only; omega, by unfold mark; dsimp only; omega⟩
    · exact marks_ok n (k + 1) r e
theorem cut_marks : ∀ (n k : Nat) (b : List Int) (rest : List Rc), b.length + 2 * n ≤ 64 → cutS 64 b ⟨k, 0, 0⟩ (marks k n ++ rest) = cutS 64 (b ++ rep n) ⟨((k + n : Nat) : Int), 0, 0⟩ rest
  | 0, k, b, rest, _ => by rw [marks, rep, List.nil_append, List.append_nil]; rfl
  | n + 1, k, b, rest, h => by
    rw [marks, List.cons_append, cutS, text_mark, if_neg (by simp; omega)]
    show cutS 64 (b ++ [22, 0]) ⟨((k + 1 : Nat) : Int), 0, 0⟩ (marks (k + 1) n ++ rest) = _
    rw [cut_marks n (k + 1) (b ++ [22, 0]) rest (by simp; omega), rep, List.append_assoc]
    rw [show k + 1 + n = k + (n + 1) by omega]
    rfl
theorem cut_33 : cutS 64 [] St.zero (marks 0 33) = [rep 32, [22, 32]] := by
  rw [marks_snoc 32 0]
  have h := cut_marks 32 0 [] [mark (0 + 32)] (by simp)
  rw [List.nil_append] at h
  refine Eq.trans h ?_
  rw [cutS, if_pos ?_]
  · rw [show mark (0 + 32) = mark 32 from rfl, text_32, cutS, if_neg (by simp)]
  · rw [rep_len]
    have := text_mark 32
    rw [show (⟨((0 + 32 : Nat) : Int), 0, 0⟩ : St) = ⟨((32 : Nat) : Int), 0, 0⟩ from rfl, show mark (0 + 32) = mark 32 from rfl, this]
    simp
theorem dec_33 : decV 64 [rep 32, [22, 32]] = (marks 0 33, 0) := by
  have e1 : chunkV (rep 32) = (marks 0 32, 0) := by
    rw [← encs_marks 32 0]
    exact chunk_text (strE_marks 32 0 0 (by decide) (by decide)) (marks_ok 32 0) (by intro e; have := congrArg List.length e; rw [marks_len] at this; simp at this)
  have e2 : chunkV [22, 32] = ([mark 32], 0) := by
    have h := chunk_text (L := [mark 32]) (strE_step.2 ⟨putE_mark 32 (by decide), by decide, rfl⟩) (fun r hr => by simp at hr; subst hr; exact marks_ok 1 32 (mark 32) (by simp [marks])) (by simp)
    rw [encs, encs, List.append_nil, text_32] at h
    exact h
  have e3 : meets (marks 0 32) [mark 32] = true := by
    rw [marks_snoc 31 0]
    unfold meets
    rw [List.getLast?_concat]
    rfl
  have e4 : readV [] [rep 32, [22, 32]] = (marks 0 33, 0) := by
    rw [readV, e1, if_neg (by simp), if_neg (by simp [meets]), readV, e2, if_neg (by simp)]
    dsimp only [List.nil_append]
    rw [if_neg (by rw [e3]; simp), readV, marks_snoc 32 0]
  unfold decV
  rw [e4, if_neg (by simp), if_pos cut_33]
end Go.Proofs.YtamoioebgnmcaaaDoor
