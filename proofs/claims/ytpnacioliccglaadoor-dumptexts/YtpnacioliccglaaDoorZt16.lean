import Derived.Test.YtpnacioliccglaaDoorZt15
set_option maxRecDepth 8000
set_option maxHeartbeats 8000000
set_option linter.unusedVariables false
/-
  Strings and nodes put in one behind the other.
-/
namespace Go.Proofs.YtpnacioliccglaaDoor.E6
open Go.RowKit Go.Maps Go.Shelf
/-- All nodes' numbers are those of nodes and strings. -/
def Good (L : List ByteArray) (N : List Nd) : Prop := N.Nodup ∧ ∀ n ∈ N, n.1 < N.length ∧ n.2 < L.length
structure Stt where
  L : List ByteArray
  N : List Nd
  id : Nat
def stp (s : Stt) (t : ByteArray) : Stt := ⟨internL s.L t, s.N ++ [(s.id, place (internL s.L t) t)], s.N.length + 1⟩
def runs (s : Stt) (r : List ByteArray) : Stt := r.foldl stp s
theorem runs_snoc (s : Stt) (r : List ByteArray) (t : ByteArray) : runs s (r ++ [t]) = stp (runs s r) t := by simp [runs]
theorem total_append (a b : List ByteArray) : total (a ++ b) = total a + total b := by simp [total]
theorem total_sub {E : List ByteArray} : ∀ {M : List ByteArray}, E.Nodup → (∀ x ∈ E, x ∈ M) → total E ≤ total M ∧ E.length ≤ M.length := by
  induction E with
  | nil => intro M _ _; simp [total]
  | cons x E ih =>
    intro M hd hs
    obtain ⟨s, t, rfl⟩ := List.append_of_mem (hs x (by simp))
    have hd' := List.nodup_cons.1 hd
    have h := ih (M := s ++ t) hd'.2 (fun y hy => by
      have := hs y (by simp [hy])
      simp at this ⊢
      rcases this with h | h | h
      · exact .inl h
      · subst h; exact absurd hy hd'.1
      · exact .inr h)
    rw [total_append] at h ⊢
    have e1 : total (x :: E) = x.size + total E := by simp [total]
    have e2 : total (x :: t) = x.size + total t := by simp [total]
    rw [e1, e2]
    simp only [List.length_append, List.length_cons] at h ⊢
    omega
theorem internL_old {L : List ByteArray} {s : ByteArray} (h : s ∈ L) : internL L s = L := by unfold internL; rw [isIn_iff.2 h]; rfl
theorem internL_new {L : List ByteArray} {s : ByteArray} (h : s ∉ L) (hr : roomy L.length (total L) s.size = true) : internL L s = L ++ [s] := by
  unfold internL; rw [isIn_not.2 h, hr]; rfl
theorem place_append {L : List ByteArray} {s : ByteArray} (h : s ∈ L) (E : List ByteArray) : place (L ++ E) s = place L s := by
  induction L with
  | nil => cases h
  | cons x l ih =>
    rw [List.cons_append]
    unfold place
    by_cases e : x.data = s.data
    · rw [if_pos e, if_pos e]
    · rw [if_neg e, if_neg e]
      rcases List.mem_cons.1 h with h | h
      · exact absurd (by rw [h]) e
      · rw [ih h]
theorem place_snoc {L : List ByteArray} {s : ByteArray} (h : s ∉ L) : place (L ++ [s]) s = L.length := by
  induction L with
  | nil => simp [place]
  | cons x l ih =>
    rw [List.cons_append]
    unfold place
    rw [if_neg (by intro e; apply h; cases x; cases s; subst e; simp), ih (fun hm => h (by simp [hm]))]; simp
theorem place_lt {L : List ByteArray} {s : ByteArray} (h : s ∈ L) : place L s < L.length := (List.getElem?_eq_some_iff.1 (place_get h)).1
/-- What is known when the first k of the strings are in. -/
structure Mid (L0 : List ByteArray) (N0 : List Nd) (id0 : Nat) (r : List ByteArray) (k : Nat) (s : Stt) : Prop where
  ext : ∃ E : List ByteArray, s.L = L0 ++ E ∧ (E.Nodup ∧ ∀ x ∈ E, x ∈ newS L0 r)
  nodes : s.N.length = N0.length + k
  idle : s.id ≤ s.N.length
  good : Good s.L s.N
  fresh : ∀ t, r.reverse[k]? = some t → (s.id, place (internL s.L t) t) ∉ s.N
  nodup : s.L.Nodup
/-- The next string is taken. -/
theorem Mid.room {L0 : List ByteArray} {N0 : List Nd} {id0 k : Nat} {r : List ByteArray} {s : Stt} (h : Mid L0 N0 id0 r k s) (hR : Roomy L0 N0.length r) {t : ByteArray} (ht : t ∈ r) : t ∈ s.L ∨ roomy s.L.length (total s.L) t.size = true := by
  by_cases hin : t ∈ s.L
  · exact .inl hin
  · right
    obtain ⟨E, hE, hd, hm⟩ := h.ext
    have hnot : t ∉ L0 ∧ t ∉ E := by rw [hE] at hin; simp at hin; exact hin
    have hnew : t ∈ newS L0 r := (newS_mem _ _ _).2 ⟨ht, hnot.1⟩
    have h2 := total_sub (E := t :: E) (M := newS L0 r) (List.nodup_cons.2 ⟨hnot.2, hd⟩) (by intro x hx; rcases List.mem_cons.1 hx with rfl | hx; exact hnew; exact hm x hx)
    have e1 : total (t :: E) = t.size + total E := by simp [total]
    rw [e1] at h2
    have := hR.each t hnew
    have := hR.count
    have := hR.sum
    unfold roomy
    apply decide_eq_true
    rw [hE, total_append, List.length_append]
    simp only [List.length_cons] at h2
    omega
theorem Mid.answers {L0 : List ByteArray} {N0 : List Nd} {id0 k : Nat} {r : List ByteArray} {s : Stt} (h : Mid L0 N0 id0 r k s) (hR : Roomy L0 N0.length r) {t : ByteArray} (ht : t ∈ r) :
    internV s.L t = .tuple #[.int .i64 (place (internL s.L t) t : Int), .int .i64 0] ∧ t ∈ internL s.L t := by
  rcases h.room hR ht with hin | hr
  · rw [internL_old hin]; unfold internV; rw [isIn_iff.2 hin]; exact ⟨rfl, hin⟩
  · by_cases hin : t ∈ s.L
    · rw [internL_old hin]; unfold internV; rw [isIn_iff.2 hin]; exact ⟨rfl, hin⟩
    · rw [internL_new hin hr, place_snoc hin]; unfold internV; rw [isIn_not.2 hin, hr]; exact ⟨rfl, by simp⟩
theorem Mid.step {L0 : List ByteArray} {N0 : List Nd} {id0 k : Nat} {r : List ByteArray} {s : Stt} (h : Mid L0 N0 id0 r k s) (hR : Roomy L0 N0.length r) {t : ByteArray} (ht : r.reverse[k]? = some t) : Mid L0 N0 id0 r (k + 1) (stp s t) := by
  have htr : t ∈ r := by have := List.mem_of_getElem? ht; simpa using this
  have hin := (h.answers hR htr).2
  have hL : ∃ E, internL s.L t = s.L ++ E := by
    unfold internL; split
    · exact ⟨[], by simp⟩
    · split
      · exact ⟨_, rfl⟩
      · exact ⟨[], by simp⟩
  obtain ⟨E', hE'⟩ := hL
  have hg : Good (stp s t).L (stp s t).N := by
    refine ⟨?_, ?_⟩
    · show (s.N ++ [_]).Nodup
      rw [List.nodup_append]
      refine ⟨h.good.1, by simp, ?_⟩
      intro a ha b hb
      simp at hb
      rintro rfl
      exact h.fresh t ht (by rw [← hb]; exact ha)
    · intro n hn
      show n.1 < (s.N ++ [_]).length ∧ n.2 < (internL s.L t).length
      have hl : s.L.length ≤ (internL s.L t).length := by rw [hE']; simp
      rcases List.mem_append.1 hn with hn | hn
      · have := h.good.2 n hn; simp; omega
      · simp at hn; subst hn
        have := h.idle
        have := place_lt hin
        simp; omega
  refine ⟨?_, by show (s.N ++ [_]).length = _; have := h.nodes; simp; omega, by show s.N.length + 1 ≤ (s.N ++ [_]).length; simp, hg, ?_, ?_⟩
  · obtain ⟨E, hE, hd, hm⟩ := h.ext
    show ∃ E, internL s.L t = _ ∧ _
    by_cases hs : t ∈ s.L
    · rw [internL_old hs]; exact ⟨E, hE, hd, hm⟩
    · have hr := (h.room hR htr).resolve_left hs
      rw [internL_new hs hr, hE]
      have hnot : t ∉ L0 ∧ t ∉ E := by rw [hE] at hs; simp at hs; exact hs
      refine ⟨E ++ [t], by simp, ?_, ?_⟩
      · rw [List.nodup_append]
        exact ⟨hd, by simp, by intro a ha b hb; simp at hb; rintro rfl; exact hnot.2 (by rw [← hb]; exact ha)⟩
      · intro x hx
        rcases List.mem_append.1 hx with hx | hx
        · exact hm x hx
        · simp at hx; subst hx; exact (newS_mem _ _ _).2 ⟨htr, hnot.1⟩
  · intro u _ hm
    have := (hg.2 _ hm).1
    have e1 : (stp s t).id = s.N.length + 1 := rfl
    have e2 : (stp s t).N.length = s.N.length + 1 := by show (s.N ++ [_]).length = _; simp
    simp only at this
    omega
  · show (internL s.L t).Nodup
    by_cases hs : t ∈ s.L
    · rw [internL_old hs]; exact h.nodup
    · have hr := (h.room hR htr).resolve_left hs
      rw [internL_new hs hr, List.nodup_append]
      exact ⟨h.nodup, by simp, by intro a ha b hb; simp at hb; rintro rfl; exact hs (by rw [← hb]; exact ha)⟩
theorem kn_le {L : List ByteArray} {N : List Nd} : ∀ {r : List ByteArray} {id : Nat}, id ≤ N.length → (kn L N id r).1 ≤ N.length := by
  intro r
  induction r with
  | nil => intro id h; exact h
  | cons s r ih =>
    intro id h
    unfold kn
    split
    · exact ih (nid_le _ _)
    · exact h
theorem kn_len {L : List ByteArray} {N : List Nd} : ∀ {r : List ByteArray} {id : Nat}, (kn L N id r).2.length ≤ r.length ∧ (kn L N id r).2 = r.drop (r.length - (kn L N id r).2.length) := by
  intro r
  induction r with
  | nil => intro id; simp [kn]
  | cons s r ih =>
    intro id
    unfold kn
    split
    · have h := @ih (nid N (id, place L s))
      refine ⟨by simp; omega, ?_⟩
      have e : (s :: r).length - (kn L N (nid N (id, place L s)) r).2.length = (r.length - (kn L N (nid N (id, place L s)) r).2.length) + 1 := by simp; omega
      rw [e, List.drop_succ_cons]
      exact h.2
    · simp
theorem kn_fresh {L : List ByteArray} {N : List Nd} (hf : ∀ n ∈ N, n.2 < L.length) : ∀ {r : List ByteArray} {id : Nat} {t : ByteArray}, (kn L N id r).2[0]? = some t → (t ∈ L ∨ roomy L.length (total L) t.size = true) → ((kn L N id r).1, place (internL L t) t) ∉ N := by
  intro r
  induction r with
  | nil => intro id t h; simp [kn] at h
  | cons s r ih =>
    intro id t
    unfold kn
    split
    · exact ih
    · rename_i hc
      intro h hr
      simp at h
      subst h
      by_cases hs : s ∈ L
      · rw [internL_old hs]
        intro hm
        exact hc ⟨isIn_iff.2 hs, by rw [nid, if_pos hm]; omega⟩
      · rw [internL_new hs (hr.resolve_left hs), place_snoc hs]
        intro hm
        have := hf _ hm
        simp at this
/-- At the start. -/
theorem Mid.start {L : List ByteArray} {N : List Nd} {r0 r : List ByteArray} (hg : Good L N) (hd : L.Nodup) (hr : r = (kn L N 0 r0).2.reverse) (hR : Roomy L N.length r) : Mid L N (kn L N 0 r0).1 r 0 ⟨L, N, (kn L N 0 r0).1⟩ := by
  have m0 : Mid L N (kn L N 0 r0).1 [] 0 ⟨L, N, (kn L N 0 r0).1⟩ := ⟨⟨[], by simp, by simp, by simp⟩, rfl, kn_le (Nat.zero_le _), hg, by simp, hd⟩
  refine ⟨⟨[], by simp, by simp, by simp⟩, rfl, m0.idle, hg, ?_, hd⟩
  intro t ht
  have e : r.reverse = (kn L N 0 r0).2 := by rw [hr, List.reverse_reverse]
  rw [e] at ht
  refine kn_fresh (fun n hn => (hg.2 n hn).2) ht ?_
  by_cases hs : t ∈ L
  · exact .inl hs
  · right
    have htr : t ∈ r := by rw [hr, List.mem_reverse]; exact List.mem_of_getElem? ht
    have hnew : t ∈ newS L r := (newS_mem _ _ _).2 ⟨htr, hs⟩
    have h2 := total_sub (E := [t]) (M := newS L r) (by simp) (by intro x hx; simp at hx; subst hx; exact hnew)
    have e1 : total [t] = t.size := by simp [total]
    rw [e1] at h2
    have := hR.each t hnew
    have := hR.count
    have := hR.sum
    unfold roomy
    apply decide_eq_true
    simp only [List.length_cons, List.length_nil] at h2
    omega
end Go.Proofs.YtpnacioliccglaaDoor.E6
