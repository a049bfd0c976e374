/-
  A stream comes back from its bodies.
-/
import Derived.Test.YtdppbaipmmcjbaaDoorSRdM
namespace Go.Proofs.YtdppbaipmmcjbaaDoor
open Go.RowKit
theorem strE_pre : ∀ (A B : List Rc) (m : Int), strE m (A ++ B) = 0 → strE m A = 0
  | [], B, m, _ => rfl
  | r :: l, B, m, h => by
    rw [List.cons_append] at h
    obtain ⟨a, b, c⟩ := strE_step.1 h
    exact strE_step.2 ⟨a, b, strE_pre l B _ c⟩
theorem strE_mono : ∀ (L : List Rc) (m m' : Int), m' ≤ m → strE m L = 0 → strE m' L = 0
  | [], _, _, _, _ => rfl
  | r :: l, m, m', h, h2 => by
    obtain ⟨a, b, c⟩ := strE_step.1 h2
    exact strE_step.2 ⟨a, by omega, c⟩
theorem strE_post : ∀ (A B : List Rc) (m : Int), 0 ≤ m → strE m (A ++ B) = 0 → strE 0 B = 0
  | [], B, m, h0, h => strE_mono B m 0 h0 h
  | r :: l, B, m, h0, h => by
    rw [List.cons_append] at h
    obtain ⟨a, b, c⟩ := strE_step.1 h
    exact strE_post l B (r.stamp + 1) (by omega) c
theorem meets_of : ∀ (A B : List Rc) (m : Int), strE m (A ++ B) = 0 → meets A B = true
  | [], B, m, _ => by unfold meets; rfl
  | [r], B, m, h => by
    obtain ⟨a, b, c⟩ := strE_step.1 h
    cases B with
    | nil => unfold meets; rfl
    | cons y l =>
      obtain ⟨_, b2, _⟩ := strE_step.1 c
      show decide (r.stamp < y.stamp) = true
      exact decide_eq_true (by omega)
  | r :: u :: l, B, m, h => by
    rw [List.cons_append] at h
    obtain ⟨a, b, c⟩ := strE_step.1 h
    have := meets_of (u :: l) B _ c
    unfold meets at *
    rw [List.getLast?_cons_cons]
    exact this
theorem text_ne (s : St) (r : Rc) : text s r ≠ [] := by unfold text; simp
theorem encs_ne {s : St} {L : List Rc} (h : L ≠ []) : encs s L ≠ [] := by
  cases L with
  | nil => exact absurd rfl h
  | cons r l => rw [encs]; simp [text_ne]
/-- Reading what is cut. -/
theorem readV_cut (lim : Nat) : ∀ (L : List Rc) (acc cur : List Rc), cur ≠ [] → strE 0 (acc ++ (cur ++ L)) = 0 → (∀ r ∈ acc ++ (cur ++ L), r.ok) → readV acc (cutS lim (encs St.zero cur) (fin St.zero cur) L) = (acc ++ (cur ++ L), 0)
  | [], acc, cur, hc, hs, hok => by
    rw [List.append_nil] at hs hok ⊢
    have e1 : chunkV (encs St.zero cur) = (cur, 0) := chunk_text (strE_post acc cur 0 (by decide) hs) (fun r hr => hok r (by simp [hr])) hc
    rw [cutS, if_neg (encs_ne hc), readV, e1, if_neg (by simp), if_neg (by rw [meets_of acc cur 0 hs]; simp), readV]
  | r :: l, acc, cur, hc, hs, hok => by
    rw [cutS]
    split
    · have e1 : chunkV (encs St.zero cur) = (cur, 0) := chunk_text (strE_pre cur (r :: l) 0 (strE_post acc _ 0 (by decide) hs)) (fun x hx => hok x (by simp [hx])) hc
      have hs2 : strE 0 (acc ++ cur) = 0 := strE_pre (acc ++ cur) (r :: l) 0 (by rw [List.append_assoc]; exact hs)
      rw [readV, e1, if_neg (by simp), if_neg (by rw [meets_of acc cur 0 hs2]; simp)]
      have h := readV_cut lim l (acc ++ cur) [r] (by simp) (by rw [List.append_assoc]; exact hs) (by rw [List.append_assoc]; exact hok)
      rw [encs, encs, List.append_nil] at h
      rw [show fin St.zero [r] = behindS r from rfl] at h
      rw [h, List.append_assoc]
      rfl
    · have h := readV_cut lim l acc (cur ++ [r]) (by simp) (by rw [List.append_assoc]; exact hs) (by rw [List.append_assoc]; exact hok)
      rw [encs_snoc, fin_snoc] at h
      rw [h, List.append_assoc]
      rfl
theorem dec_enc {lim : Nat} (hlim : 27 ≤ lim) {L : List Rc} (hs : strE 0 L = 0) (hok : ∀ r ∈ L, r.ok) : decV lim (cutS lim [] St.zero L) = (L, 0) := by
  have e : readV [] (cutS lim [] St.zero L) = (L, 0) := by
    cases L with
    | nil => rw [cutS, if_pos rfl, readV]
    | cons r l =>
      obtain ⟨a, _, _⟩ := strE_step.1 hs
      have hl := text_len a (hok r (by simp))
      rw [cutS, if_neg (by simp; omega), List.nil_append]
      have h := readV_cut lim l [] [r] (by simp) hs hok
      rw [encs, encs, List.append_nil, List.nil_append] at h
      exact h
  unfold decV
  rw [e, if_neg (by simp), if_pos rfl]
/-- The first body, and what is left. -/
theorem cut_first (lim : Nat) (hlim : 27 ≤ lim) : ∀ (l cur : List Rc), cur ≠ [] → (encs St.zero cur).length ≤ lim → (∀ r ∈ l, putE St.zero r = 0 ∧ r.ok) →
    ∃ p q, cur ++ l = p ++ q ∧ p ≠ [] ∧ cutS lim (encs St.zero cur) (fin St.zero cur) l = encs St.zero p :: cutS lim [] St.zero q ∧ (encs St.zero p).length ≤ lim ∧ ∃ p', p = cur ++ p' ∧ ∀ r q', q = r :: q' → cutS lim (encs St.zero cur) (fin St.zero cur) (p' ++ [r]) = [encs St.zero p, text St.zero r]
  | [], cur, hc, hl, _ => ⟨cur, [], rfl, hc, by rw [cutS, if_neg (encs_ne hc), cutS, if_pos rfl], hl, [], by simp, fun r q' h => by cases h⟩
  | r :: l, cur, hc, hl, hok => by
    obtain ⟨a, b⟩ := hok r (by simp)
    have ht := text_len a b
    by_cases ho : lim < (encs St.zero cur).length + (text (fin St.zero cur) r).length
    · refine ⟨cur, r :: l, rfl, hc, ?_, hl, [], by simp, fun r2 q' h => ?_⟩
      · rw [cutS, if_pos ho, cutS, if_neg (by simp; omega), List.nil_append]
      · cases h
        rw [List.nil_append, cutS, if_pos ho, cutS, if_neg (text_ne _ _)]
    · obtain ⟨p, q, e1, e2, e3, e4, p', e5, e6⟩ := cut_first lim hlim l (cur ++ [r]) (by simp) (by rw [encs_snoc, List.length_append]; omega) (fun x hx => hok x (by simp [hx]))
      rw [encs_snoc, fin_snoc] at e3 e6
      refine ⟨p, q, by rw [← e1, List.append_assoc]; rfl, e2, ?_, e4, r :: p', by rw [e5, List.append_assoc]; rfl, fun r2 q' h => ?_⟩
      · rw [cutS, if_neg ho]; exact e3
      · rw [List.cons_append, cutS, if_neg ho]; exact e6 r2 q' h
theorem cut_part {lim : Nat} (hlim : 27 ≤ lim) {L : List Rc} (h : L ≠ []) (hs : strE 0 L = 0) (hok : ∀ r ∈ L, r.ok) :
    ∃ p q, L = p ++ q ∧ p ≠ [] ∧ cutS lim [] St.zero L = encs St.zero p :: cutS lim [] St.zero q ∧ (encs St.zero p).length ≤ lim ∧ (∀ r q', q = r :: q' → cutS lim [] St.zero (p ++ [r]) = [encs St.zero p, text St.zero r]) ∧ chunkV (encs St.zero p) = (p, 0) := by
  have hall : ∀ (M : List Rc) (m : Int), strE m M = 0 → ∀ r ∈ M, putE St.zero r = 0 := by
    intro M
    induction M with
    | nil => intro m _ r hr; simp at hr
    | cons x M ih =>
      intro m hm r hr
      obtain ⟨a, _, c⟩ := strE_step.1 hm
      rcases List.mem_cons.1 hr with e | e
      · subst e; exact a
      · exact ih _ c r e
  cases L with
  | nil => exact absurd rfl h
  | cons r l =>
    have a := hall _ _ hs r (by simp)
    have hl := text_len a (hok r (by simp))
    have hone : encs St.zero [r] = text St.zero r := by rw [encs, encs, List.append_nil]
    obtain ⟨p, q, e1, e2, e3, e4, p', e5, e6⟩ := cut_first lim hlim l [r] (by simp) (by rw [hone]; omega) (fun x hx => ⟨hall _ _ hs x (by simp [hx]), hok x (by simp [hx])⟩)
    rw [hone, show fin St.zero [r] = behindS r from rfl] at e3 e6
    have e1' : r :: l = p ++ q := e1
    refine ⟨p, q, e1', e2, ?_, e4, fun r2 q' hq => ?_, ?_⟩
    · rw [cutS, if_neg (by simp; omega), List.nil_append]; exact e3
    · rw [e5, List.append_assoc]
      show cutS lim [] St.zero (r :: (p' ++ [r2])) = _
      rw [cutS, if_neg (by simp; omega), List.nil_append, e6 r2 q' hq, e5]
    · rw [e1'] at hs
      exact chunk_text (strE_pre p q 0 hs) (fun x hx => hok x (by rw [e1']; simp [hx])) e2
end Go.Proofs.YtdppbaipmmcjbaaDoor
