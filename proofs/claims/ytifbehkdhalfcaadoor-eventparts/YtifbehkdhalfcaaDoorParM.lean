/-
  Beginnings and choices of a trace within bounds.
-/
import Derived.Test.YtifbehkdhalfcaaDoorBndA
namespace Go.Proofs.YtifbehkdhalfcaaDoor
open Go.RowKit Go.Maps Go.Shelf
theorem Rep.suffix {L : List ByteArray} {N : List Nd} {P : List Stk} (h : Rep L N P) : ∀ (q p : Stk), q ++ p ∈ P → p ≠ [] → p ∈ P := by
  intro q
  induction q with
  | nil => intro p hm _; exact hm
  | cons x q ih =>
    intro p hm h0
    rcases (h.tail hm).1 with e | e
    · simp at e; exact absurd e.2 h0
    · exact ih p e h0
theorem Rep.frames {L : List ByteArray} {N : List Nd} {P : List Stk} (h : Rep L N P) {p : Stk} (hp : Has P p) : ∀ x ∈ p, x ∈ L := by
  intro x hx
  rcases hp with rfl | hp
  · simp at hx
  · obtain ⟨q, t, rfl⟩ := List.append_of_mem hx
    exact (h.tail (h.suffix q (x :: t) hp (by simp))).2
theorem addP_sub {P' P : List Stk} (h : ∀ x ∈ P', x ∈ P) : ∀ (r : List ByteArray) (u : Stk), ∀ x ∈ addP P' u r, x ∈ addP P u r := by
  intro r
  induction r generalizing P' P with
  | nil => intro u x hx; exact h x hx
  | cons s r ih =>
    intro u x hx
    rw [addP] at hx ⊢
    refine ih (fun y hy => ?_) (s :: u) x hx
    by_cases h1 : s :: u ∈ P
    · rw [if_pos h1]
      split at hy
      · exact h y hy
      · rcases List.mem_append.1 hy with hy | hy
        · exact h y hy
        · simp at hy; subst hy; exact h1
    · rw [if_neg h1]
      split at hy
      · exact List.mem_append.2 (.inl (h y hy))
      · rcases List.mem_append.1 hy with hy | hy
        · exact List.mem_append.2 (.inl (h y hy))
        · exact List.mem_append.2 (.inr hy)
/-- With each stack its outer parts. -/
def Closed (P : List Stk) : Prop := ∀ (q p : Stk), q ++ p ∈ P → p ≠ [] → p ∈ P
theorem Closed.snoc {P : List Stk} (h : Closed P) {s : ByteArray} {u : Stk} (hu : Has P u) : Closed (P ++ [s :: u]) := by
  intro q p hm h0
  rcases List.mem_append.1 hm with hm | hm
  · exact List.mem_append.2 (.inl (h q p hm h0))
  · simp at hm
    cases q with
    | nil => simp at hm; exact List.mem_append.2 (.inr (by simp [hm]))
    | cons y q =>
      simp at hm
      rcases hu with rfl | hu
      · simp at hm; exact absurd hm.2.2 h0
      · exact List.mem_append.2 (.inl (h q p (by rw [hm.2]; exact hu) h0))
theorem addP_len : ∀ (r : List ByteArray) (u : Stk) (P : List Stk), Closed P → P.Nodup → Has P u → (∀ s r', r = s :: r' → s :: u ∉ P) → (addP P u r).length = P.length + r.length ∧ (addP P u r).Nodup := by
  intro r
  induction r with
  | nil => intro u P _ hd _ _; exact ⟨rfl, hd⟩
  | cons s r ih =>
    intro u P hc hd hu hn
    have h0 := hn s r rfl
    rw [addP, if_neg h0]
    have := ih (s :: u) (P ++ [s :: u]) (hc.snoc hu) (by
      rw [List.nodup_append]
      exact ⟨hd, by simp, by intro x hx y hy; simp at hy; subst hy; exact fun e => h0 (e ▸ hx)⟩) (.inr (by simp)) (by
      intro s' r' _ hm
      rcases List.mem_append.1 hm with hm | hm
      · exact h0 (hc [s'] (s :: u) hm (by simp))
      · simp at hm)
    refine ⟨?_, this.2⟩
    rw [this.1]; simp; omega
theorem nodup_len {α : Type} {E : List α} : ∀ {M : List α}, E.Nodup → (∀ x ∈ E, x ∈ M) → E.length ≤ M.length := by
  induction E with
  | nil => intro M _ _; simp
  | cons x E ih =>
    intro M hd hs
    obtain ⟨s, t, rfl⟩ := List.append_of_mem (hs x (by simp))
    have hd' := List.nodup_cons.1 hd
    have h := ih (M := s ++ t) hd'.2 (fun y hy => by
      have := hs y (by simp [hy])
      simp at this ⊢
      rcases this with h | h | h
      · exact .inl h
      · subst h; exact absurd hy hd'.1
      · exact .inr h)
    simp at h ⊢
    omega
theorem newS_nodup (L l : List ByteArray) : (newS L l).Nodup := by
  unfold newS
  generalize l.reverse = r
  induction r with
  | nil => simp [newR]
  | cons t r ih =>
    unfold newR
    split
    · exact ih
    · rename_i h
      rw [List.nodup_append]
      refine ⟨ih, by simp, ?_⟩
      intro x hx y hy
      simp at hy
      subst hy
      intro e
      subst e
      have hm : x ∈ newS L r.reverse := by unfold newS; rw [List.reverse_reverse]; exact hx
      rw [newS_mem] at hm
      rw [Bool.or_eq_true, isIn_iff, isIn_iff] at h
      exact h (.inr (by simpa using hm.1))
theorem runs_sub : ∀ (r : List ByteArray) (s : Stt), ∀ x ∈ (runs s r).L, x ∈ s.L ∨ x ∈ r := by
  intro r
  induction r with
  | nil => intro s x hx; exact .inl hx
  | cons t r ih =>
    intro s x hx
    have hx' : x ∈ (runs (stp s t) r).L := hx
    rcases ih _ x hx' with h | h
    · have h' : x ∈ internL s.L t := h
      unfold internL at h'
      split at h'
      · exact .inl h'
      · split at h'
        · rcases List.mem_append.1 h' with h' | h'
          · exact .inl h'
          · simp at h'; subst h'; exact .inr (by simp)
        · exact .inl h'
    · exact .inr (by simp [h])
/-- What of a stack is put in, and what was there. -/
theorem left_parts {L : List ByteArray} {N : List Nd} {P : List Stk} (h : Fit L N P) (ls : List ByteArray) : ∃ u, Has P u ∧ (left L N ls).2.reverse ++ u = ls ∧ (addP P [] ls.reverse).length = N.length + (left L N ls).2.reverse.length ∧ (addP P [] ls.reverse).Nodup := by
  obtain ⟨u, h1, _, h3, h4, h5⟩ := kn_rep h.rep h.good.1 h.nodup ls.reverse [] (.inl rfl)
  rw [num_nil] at h3 h4 h5
  have hl := addP_len (kn L N 0 ls.reverse).2 u P h.rep.suffix h.rep.nodup h1 h5
  refine ⟨u, h1, by simpa [left] using h3, ?_, ?_⟩
  · rw [h4, hl.1, h.rep.len]; simp [left]
  · rw [h4]; exact hl.2
/-- What is less has room where the more has. -/
theorem roomy_less {L L' : List ByteArray} {N N' : List Nd} {P P' : List Stk} {ls : List ByteArray} (h : Fit L N P) (h' : Fit L' N' P') (hL : ∀ x ∈ L', x ∈ L) (hP : ∀ x ∈ P', x ∈ P) (hz : ∀ s ∈ ls, s.size ≤ 65536) (hR : Roomy L N.length (left L N ls).2.reverse) : Roomy L' N'.length (left L' N' ls).2.reverse := by
  obtain ⟨u, hu, hlu, hlen, _⟩ := left_parts h ls
  obtain ⟨u', hu', hlu', hlen', hnd'⟩ := left_parts h' ls
  have hsub : ∀ x ∈ L' ++ newS L' (left L' N' ls).2.reverse, x ∈ L ++ newS L (left L N ls).2.reverse := by
    intro x hx
    rw [List.mem_append, newS_mem]
    by_cases hxL : x ∈ L
    · exact .inl hxL
    · rcases List.mem_append.1 hx with hx | hx
      · exact .inl (hL x hx)
      · rw [newS_mem] at hx
        have hxl : x ∈ ls := by rw [← hlu']; exact List.mem_append.2 (.inl hx.1)
        rw [← hlu] at hxl
        rcases List.mem_append.1 hxl with e | e
        · exact .inr ⟨e, hxL⟩
        · exact absurd (h.rep.frames hu x e) hxL
  have hnd : (L' ++ newS L' (left L' N' ls).2.reverse).Nodup := by
    rw [List.nodup_append]
    refine ⟨h'.nodup, newS_nodup _ _, ?_⟩
    intro x hx y hy e
    subst e
    exact ((newS_mem _ _ _).1 hy).2 hx
  have hts := total_sub hnd hsub
  rw [total_append, total_append, List.length_append, List.length_append] at hts
  refine ⟨fun t ht => ?_, by have := hR.count; omega, by have := hR.sum; omega, ?_⟩
  · have := ((newS_mem _ _ _).1 ht).1
    exact hz t (by rw [← hlu']; exact List.mem_append.2 (.inl this))
  · have := nodup_len hnd' (addP_sub hP ls.reverse [])
    have := hR.nodes
    omega
theorem after_less {L L' : List ByteArray} {N N' : List Nd} {P P' : List Stk} {ls : List ByteArray} (h : Fit L N P) (hL : ∀ x ∈ L', x ∈ L) (h16 : ls.length ≤ 16) (hR : Roomy L N.length (left L N ls).2.reverse) (h' : Fit L' N' P') : ∀ x ∈ (after L' N' ls).L, x ∈ (after L N ls).L := by
  obtain ⟨hf, _, hhas, E, hE⟩ := h.ok h16 hR
  intro x hx
  rcases runs_sub _ _ x hx with hx | hx
  · rw [hE]; exact List.mem_append.2 (.inl (hL x hx))
  · obtain ⟨u', _, hlu', _⟩ := left_parts h' ls
    exact hf.rep.frames hhas x (by rw [← hlu']; exact List.mem_append.2 (.inl (by simpa using hx)))
theorem chk_small {g k o a : Int} {ls : List ByteArray} (h : chk g k o a ls = 0) : ∀ s ∈ ls, s.size ≤ 65536 := by
  unfold chk at h
  split at h
  · split at h
    · cases h
    · split at h
      · split at h
        · split at h
          · rename_i hst
            unfold stkB at hst
            simp at hst
            exact hst.2
          · cases h
        · cases h
      · cases h
  · cases h
/-- A choice of what is within bounds is within bounds. -/
theorem bnd_sub {es es' : List Ev} (hs : es'.Sublist es) : ∀ (i i' : Nat) (L L' : List ByteArray) (N N' : List Nd) (P P' : List Stk), Fit L N P → Fit L' N' P' → (∀ x ∈ L', x ∈ L) → (∀ x ∈ P', x ∈ P) → bnd es i L N = (-1, 0) → bnd es' i' L' N' = (-1, 0) := by
  induction hs with
  | slnil => intros; rfl
  | @cons l₁ l₂ e _ ih =>
    intro i i' L L' N N' P P' h h' hL hP hb
    rw [bnd] at hb
    split at hb
    · rename_i hc
      split at hb
      · rename_i hR
        obtain ⟨hf, _, _, E, hE⟩ := h.ok (chk_zero hc) hR
        exact ih _ i' _ L' _ N' _ P' hf h' (fun x hx => by rw [hE]; exact List.mem_append.2 (.inl (hL x hx))) (fun x hx => by
          obtain ⟨Q, hQ⟩ := addP_ext P [] e.ls.reverse
          rw [hQ]; exact List.mem_append.2 (.inl (hP x hx))) hb
      · have := congrArg Prod.snd hb; simp at this
    · rename_i hc
      exact absurd (congrArg Prod.snd hb) hc
  | @cons_cons l₁ l₂ e _ ih =>
    intro i i' L L' N N' P P' h h' hL hP hb
    rw [bnd] at hb ⊢
    split at hb
    · rename_i hc
      rw [if_pos hc]
      split at hb
      · rename_i hR
        have hR' := roomy_less h h' hL hP (chk_small hc) hR
        rw [if_pos hR']
        exact ih _ (i' + 1) _ _ _ _ _ _ (h.ok (chk_zero hc) hR).1 (h'.ok (chk_zero hc) hR').1 (after_less h hL (chk_zero hc) hR h') (addP_sub hP _ _) hb
      · have := congrArg Prod.snd hb; simp at this
    · rename_i hc
      exact absurd (congrArg Prod.snd hb) hc
theorem bnd_zero {es : List Ev} : ∀ (i : Nat) (L : List ByteArray) (N : List Nd), (bnd es i L N).2 = 0 → bnd es i L N = (-1, 0) := by
  induction es with
  | nil => intros; rfl
  | cons e es ih =>
    intro i L N h
    rw [bnd] at h ⊢
    split
    · rename_i hc
      rw [if_pos hc] at h
      split
      · rename_i hR
        rw [if_pos hR] at h
        exact ih _ _ _ h
      · rename_i hR
        rw [if_neg hR] at h
        simp at h
    · rename_i hc
      rw [if_neg hc] at h
      exact absurd h hc
/-- The first fault is the first wherever the trace is cut behind it. -/
theorem bnd_fault {es : List Ev} : ∀ (i : Nat) (L : List ByteArray) (N : List Nd), (bnd es i L N).2 ≠ 0 → ∃ m : Nat, m < es.length ∧ (bnd es i L N).1 = ((i + m : Nat) : Int) ∧ bnd (es.take m) i L N = (-1, 0) ∧ ∀ c, m < c → bnd (es.take c) i L N = bnd es i L N := by
  induction es with
  | nil => intro i L N h; exact absurd rfl h
  | cons e es ih =>
    intro i L N h
    rw [bnd] at h ⊢
    by_cases hc : e.chk = 0
    · rw [if_pos hc] at h ⊢
      by_cases hR : Roomy L N.length (left L N e.ls).2.reverse
      · rw [if_pos hR] at h ⊢
        obtain ⟨m, h1, h2, h3, h4⟩ := ih (i + 1) _ _ h
        refine ⟨m + 1, by simp; omega, by rw [h2]; omega, ?_, ?_⟩
        · rw [List.take_succ_cons, bnd, if_pos hc, if_pos hR]; exact h3
        · intro c hcm
          obtain ⟨c', rfl⟩ : ∃ c', c = c' + 1 := ⟨c - 1, by omega⟩
          rw [List.take_succ_cons, bnd, if_pos hc, if_pos hR]
          exact h4 c' (by omega)
      · rw [if_neg hR] at h ⊢
        refine ⟨0, by simp, by simp, rfl, ?_⟩
        intro c hcm
        obtain ⟨c', rfl⟩ : ∃ c', c = c' + 1 := ⟨c - 1, by omega⟩
        rw [List.take_succ_cons, bnd, if_pos hc, if_neg hR]
    · rw [if_neg hc] at h ⊢
      refine ⟨0, by simp, by simp, rfl, ?_⟩
      intro c hcm
      obtain ⟨c', rfl⟩ : ∃ c', c = c' + 1 := ⟨c - 1, by omega⟩
      rw [List.take_succ_cons, bnd, if_neg hc]
theorem bnd_chk {es : List Ev} : ∀ (i : Nat) (L : List ByteArray) (N : List Nd), bnd es i L N = (-1, 0) → ∀ e ∈ es, e.chk = 0 := by
  induction es with
  | nil => intro i L N _ e he; simp at he
  | cons x es ih =>
    intro i L N h e he
    rw [bnd] at h
    split at h
    · rename_i hc
      split at h
      · rcases List.mem_cons.1 he with rfl | he
        · exact hc
        · exact ih _ _ _ h e he
      · have := congrArg Prod.snd h; simp at this
    · rename_i hc
      exact absurd (congrArg Prod.snd h) hc
/-! ### the whole -/
theorem bounds_ok {es : List Ev} (h : (bounds es).2 = 0) : bounds es = (-1, 0) ∧ es.length ≤ 1048576 ∧ bnd es 0 [] [] = (-1, 0) := by
  unfold bounds at h ⊢
  by_cases hl : es.length ≤ 1048576
  · rw [if_pos hl] at h ⊢
    exact ⟨bnd_zero _ _ _ h, hl, bnd_zero _ _ _ h⟩
  · rw [if_neg hl] at h
    simp at h
theorem bounds_sub {es es' : List Ev} (hs : es'.Sublist es) (h : (bounds es).2 = 0) : bounds es' = (-1, 0) := by
  obtain ⟨_, hl, hb⟩ := bounds_ok h
  unfold bounds
  rw [if_pos (Nat.le_trans hs.length_le hl)]
  exact bnd_sub hs 0 0 [] [] [] [] [] [] Fit.nil Fit.nil (fun _ h => h) (fun _ h => h) hb
theorem bounds_fault {es : List Ev} (hl : es.length ≤ 1048576) (h : (bounds es).2 ≠ 0) : ∃ m : Nat, m < es.length ∧ (bounds es).1 = (m : Int) ∧ bounds (es.take m) = (-1, 0) ∧ (∀ c, m < c → bounds (es.take c) = bounds es) ∧ ∀ c, c ≤ m → bounds (es.take c) = (-1, 0) := by
  have e0 : bounds es = bnd es 0 [] [] := by unfold bounds; rw [if_pos hl]
  have et : ∀ c, bounds (es.take c) = bnd (es.take c) 0 [] [] := fun c => by unfold bounds; rw [if_pos (by rw [List.length_take]; omega)]
  rw [e0] at h
  obtain ⟨m, h1, h2, h3, h4⟩ := bnd_fault 0 [] [] h
  refine ⟨m, h1, by rw [e0, h2]; simp, by rw [et, h3], fun c hc => by rw [et, e0, h4 c hc], fun c hc => ?_⟩
  have hm : (bounds (es.take m)).2 = 0 := by rw [et, h3]
  have hsub : (es.take c).Sublist (es.take m) := by
    have : es.take c = (es.take m).take c := by rw [List.take_take]; congr 1; omega
    rw [this]; exact List.take_sublist _ _
  exact bounds_sub hsub hm
end Go.Proofs.YtifbehkdhalfcaaDoor
