import Derived.Test.YtpnacioliccglaaDoorZt17
import Derived.Test.YtpnacioliccglaaDoorZt12
set_option maxRecDepth 8000
set_option maxHeartbeats 8000000
set_option linter.unusedVariables false
/-
  The stacks of a forest, in the order of their nodes.
-/
namespace Go.Proofs.YtpnacioliccglaaDoor.E6
open Go.RowKit Go.Maps Go.Shelf
abbrev Stk := List ByteArray
open Classical in
/-- The place of a stack. -/
noncomputable def idx : List Stk → Stk → Nat
  | [], _ => 0
  | x :: l, t => if x = t then 0 else idx l t + 1
open Classical in
/-- The number of a stack; 0: there is none, or it is empty. -/
noncomputable def num (P : List Stk) (t : Stk) : Nat := if t = [] then 0 else if t ∈ P then idx P t + 1 else 0
theorem idx_get {P : List Stk} {t : Stk} (h : t ∈ P) : P[idx P t]? = some t := by
  induction P with
  | nil => cases h
  | cons x l ih =>
    unfold idx
    by_cases e : x = t
    · rw [if_pos e, e]; rfl
    · rw [if_neg e]
      rcases List.mem_cons.1 h with h | h
      · exact absurd h.symm e
      · simpa using ih h
theorem idx_of_get {P : List Stk} {t : Stk} (hd : P.Nodup) {i : Nat} (h : P[i]? = some t) : idx P t = i := by
  have hs := idx_get (List.mem_of_getElem? h)
  have h1 := (List.getElem?_eq_some_iff.1 hs).1
  have h2 := (List.getElem?_eq_some_iff.1 h).1
  exact (List.getElem_inj hd (h₀ := h1) (h₁ := h2)).1 (by rw [(List.getElem?_eq_some_iff.1 hs).2, (List.getElem?_eq_some_iff.1 h).2])
theorem idx_lt {P : List Stk} {t : Stk} (h : t ∈ P) : idx P t < P.length := (List.getElem?_eq_some_iff.1 (idx_get h)).1
theorem idx_append {P : List Stk} {t : Stk} (h : t ∈ P) (Q : List Stk) : idx (P ++ Q) t = idx P t := by
  induction P with
  | nil => cases h
  | cons x l ih =>
    rw [List.cons_append]
    unfold idx
    by_cases e : x = t
    · rw [if_pos e, if_pos e]
    · rw [if_neg e, if_neg e]
      rcases List.mem_cons.1 h with h | h
      · exact absurd h.symm e
      · rw [ih h]
theorem idx_snoc {P : List Stk} {t : Stk} (h : t ∉ P) : idx (P ++ [t]) t = P.length := by
  induction P with
  | nil => simp [idx]
  | cons x l ih =>
    rw [List.cons_append]
    unfold idx
    rw [if_neg (by rintro rfl; exact h (by simp)), ih (fun hm => h (by simp [hm]))]; simp
theorem num_nil (P : List Stk) : num P [] = 0 := by simp [num]
theorem num_mem {P : List Stk} {t : Stk} (h0 : t ≠ []) (h : t ∈ P) : num P t = idx P t + 1 := by rw [num, if_neg h0, if_pos h]
theorem num_not {P : List Stk} {t : Stk} (h : t ∉ P) : num P t = 0 := by
  unfold num; split
  · rfl
  · rfl
theorem num_le (P : List Stk) (t : Stk) : num P t ≤ P.length := by
  unfold num; split
  · omega
  · split
    · rename_i h; have := idx_lt h; omega
    · omega
def Has (P : List Stk) (t : Stk) : Prop := t = [] ∨ t ∈ P
theorem num_inj {P : List Stk} (h0 : [] ∉ P) {t u : Stk} (ht : Has P t) (hu : Has P u) (h : num P t = num P u) : t = u := by
  have key : ∀ {x : Stk}, x ∈ P → num P x = idx P x + 1 := fun {x} hx => num_mem (fun e => h0 (by rw [← e]; exact hx)) hx
  rcases ht with rfl | ht
  · rcases hu with rfl | hu
    · rfl
    · rw [num_nil, key hu] at h; omega
  · rcases hu with rfl | hu
    · rw [num_nil, key ht] at h; omega
    · rw [key ht, key hu] at h
      have e1 := idx_get ht
      rw [show idx P t = idx P u by omega, idx_get hu] at e1
      exact (Option.some.inj e1).symm
theorem num_append {P : List Stk} {t : Stk} (h : Has P t) (Q : List Stk) : num (P ++ Q) t = num P t := by
  rcases h with rfl | h
  · rw [num_nil, num_nil]
  · unfold num
    split
    · rfl
    · rw [if_pos (by simp [h]), idx_append h]
/-- The nodes are those of the stacks. -/
structure Rep (L : List ByteArray) (N : List Nd) (P : List Stk) : Prop where
  len : P.length = N.length
  node : ∀ i n, N[i]? = some n → ∃ s t, P[i]? = some (s :: t) ∧ L[n.2]? = some s ∧ num P t = n.1 ∧ Has (P.take i) t
  nodup : P.Nodup
  deep : ∀ p ∈ P, p.length ≤ 16
theorem Rep.nil (L : List ByteArray) : Rep L [] [] := ⟨rfl, by simp, by simp, by simp⟩
section
variable {L : List ByteArray} {N : List Nd} {P : List Stk}
theorem Rep.get (h : Rep L N P) {i : Nat} {p : Stk} (hp : P[i]? = some p) : ∃ n s t, N[i]? = some n ∧ p = s :: t ∧ L[n.2]? = some s ∧ num P t = n.1 ∧ Has (P.take i) t := by
  have hi := (List.getElem?_eq_some_iff.1 hp).1
  have hi' : i < N.length := by rw [← h.len]; exact hi
  obtain ⟨s, t, h1, h2, h3, h4⟩ := h.node i N[i] (List.getElem?_eq_getElem hi')
  rw [hp] at h1
  exact ⟨N[i], s, t, List.getElem?_eq_getElem hi', Option.some.inj h1, h2, h3, h4⟩
theorem Rep.noNil (h : Rep L N P) : [] ∉ P := by
  intro hm
  obtain ⟨i, hi, e⟩ := List.getElem_of_mem hm
  obtain ⟨n, s, t, _, e', _⟩ := h.get (i := i) (p := []) (by rw [List.getElem?_eq_getElem hi, e])
  cases e'
theorem Rep.tail (h : Rep L N P) {s : ByteArray} {t : Stk} (hm : s :: t ∈ P) : Has P t ∧ s ∈ L := by
  obtain ⟨i, hi, e⟩ := List.getElem_of_mem hm
  obtain ⟨n, s', t', _, e', h2, _, h4⟩ := h.get (i := i) (p := s :: t) (by rw [List.getElem?_eq_getElem hi, e])
  cases e'
  exact ⟨h4.imp id List.mem_of_mem_take, List.mem_of_getElem? h2⟩
theorem Rep.nid (h : Rep L N P) (hN : N.Nodup) (hL : L.Nodup) {s : ByteArray} {t : Stk} (hs : s ∈ L) (ht : Has P t) : nid N (num P t, place L s) = num P (s :: t) := by
  by_cases hm : s :: t ∈ P
  · obtain ⟨n, s', t', hn, e', h2, h3, _⟩ := h.get (idx_get hm)
    cases e'
    have hpl := place_of_get hL h2
    have : n = (num P t, place L s) := Prod.ext h3.symm hpl.symm
    rw [this] at hn
    rw [nid_get hN hn, num_mem (by simp) hm]
  · rw [num_not hm]
    apply nid_none
    intro hin
    obtain ⟨i, hi, e⟩ := List.getElem_of_mem hin
    obtain ⟨s', t', h1, h2, h3, h4⟩ := h.node i _ (by rw [List.getElem?_eq_getElem hi, e])
    dsimp only at h2 h3
    rw [place_get hs] at h2
    cases h2
    have : t' = t := num_inj h.noNil (h4.imp id List.mem_of_mem_take) ht h3
    subst this
    exact hm (List.mem_of_getElem? h1)
open Classical in
/-- The outer parts of a stack put in, those that are not there; r: what is left, the outermost first; u: what went before. -/
noncomputable def addP (P : List Stk) : Stk → List ByteArray → List Stk
  | _, [] => P
  | u, s :: r => addP (if s :: u ∈ P then P else P ++ [s :: u]) (s :: u) r
theorem kn_rep (h : Rep L N P) (hN : N.Nodup) (hL : L.Nodup) : ∀ (r : List ByteArray) (t : Stk), Has P t →
    ∃ u, Has P u ∧ (kn L N (num P t) r).1 = num P u ∧ (kn L N (num P t) r).2.reverse ++ u = r.reverse ++ t ∧ addP P t r = addP P u (kn L N (num P t) r).2 ∧ ∀ s r', (kn L N (num P t) r).2 = s :: r' → s :: u ∉ P := by
  intro r
  induction r with
  | nil => intro t ht; exact ⟨t, ht, rfl, rfl, rfl, by intro s r' e; simp [kn] at e⟩
  | cons s r ih =>
    intro t ht
    by_cases hm : s :: t ∈ P
    · have hs := (h.tail hm).2
      have hk : kn L N (num P t) (s :: r) = kn L N (num P (s :: t)) r := by
        rw [kn, if_pos ⟨isIn_iff.2 hs, by rw [h.nid hN hL hs ht, num_mem (by simp) hm]; omega⟩, h.nid hN hL hs ht]
      rw [hk]
      obtain ⟨u, h1, h2, h3, h4, h5⟩ := ih (s :: t) (.inr hm)
      refine ⟨u, h1, h2, by rw [h3]; simp, ?_, h5⟩
      rw [addP, if_pos hm]; exact h4
    · have hk : kn L N (num P t) (s :: r) = (num P t, s :: r) := by
        rw [kn, if_neg]
        rintro ⟨h1, h2⟩
        rw [h.nid hN hL (isIn_iff.1 h1) ht, num_not hm] at h2
        exact h2 rfl
      rw [hk]
      refine ⟨t, ht, rfl, rfl, rfl, ?_⟩
      rintro s' r' e
      cases e
      exact hm
theorem Rep.snoc (h : Rep L N P) {L' : List ByteArray} {s : ByteArray} {u : Stk} (hE : ∃ E, L' = L ++ E) (hs : s ∈ L') (hu : Has P u) (hn : s :: u ∉ P) (hd : u.length < 16) : Rep L' (N ++ [(num P u, place L' s)]) (P ++ [s :: u]) := by
  obtain ⟨E, rfl⟩ := hE
  refine ⟨by simp [h.len], ?_, ?_, ?_⟩
  · intro i n hi
    by_cases hlt : i < N.length
    · rw [List.getElem?_append_left hlt] at hi
      obtain ⟨s', t', h1, h2, h3, h4⟩ := h.node i n hi
      refine ⟨s', t', by rw [List.getElem?_append_left (by rw [h.len]; exact hlt)]; exact h1, ?_, ?_, ?_⟩
      · rw [List.getElem?_append_left (List.getElem?_eq_some_iff.1 h2).1]; exact h2
      · rw [num_append (h4.imp id List.mem_of_mem_take)]; exact h3
      · rw [List.take_append_of_le_length (by rw [h.len]; omega)]; exact h4
    · have : i < (N ++ [(num P u, place (L ++ E) s)]).length := (List.getElem?_eq_some_iff.1 hi).1
      simp at this
      have hi' : i = N.length := by omega
      subst hi'
      simp at hi
      subst hi
      refine ⟨s, u, by rw [← h.len]; simp, place_get hs, num_append hu _, ?_⟩
      rw [← h.len, List.take_left]
      exact hu
  · rw [List.nodup_append]
    exact ⟨h.nodup, by simp, by intro a ha b hb; simp at hb; rintro rfl; exact hn (by rw [← hb]; exact ha)⟩
  · intro p hp
    rcases List.mem_append.1 hp with hp | hp
    · exact h.deep p hp
    · simp at hp; subst hp; simp; omega
end
theorem Rep.mono {L : List ByteArray} {N : List Nd} {P : List Stk} (h : Rep L N P) (E : List ByteArray) : Rep (L ++ E) N P :=
  ⟨h.len, fun i n hn => by
    obtain ⟨s, t, h1, h2, h3⟩ := h.node i n hn
    exact ⟨s, t, h1, by rw [List.getElem?_append_left (List.getElem?_eq_some_iff.1 h2).1]; exact h2, h3⟩, h.nodup, h.deep⟩
/-- The rest of a stack put in. -/
theorem runs_rep {L0 : List ByteArray} {N0 : List Nd} {id0 : Nat} {r0 : List ByteArray} (hR : Roomy L0 N0.length r0) : ∀ (r : List ByteArray) (k : Nat) (s : Stt) (P : List Stk) (u : Stk), Mid L0 N0 id0 r0 k s → r0.reverse.drop k = r → Rep s.L s.N P → Has P u → s.id = num P u → (∀ x r', r = x :: r' → x :: u ∉ P) → r.length + u.length ≤ 16 →
    Rep (runs s r).L (runs s r).N (addP P u r) ∧ (runs s r).id = num (addP P u r) (r.reverse ++ u) ∧ Has (addP P u r) (r.reverse ++ u) ∧ Good (runs s r).L (runs s r).N ∧ (runs s r).L.Nodup ∧ (∃ E, (runs s r).L = L0 ++ E) := by
  intro r
  induction r with
  | nil =>
    intro k s P u hM _ hP hu hid _ _
    obtain ⟨E, hE, _⟩ := hM.ext
    exact ⟨hP, hid, hu, hM.good, hM.nodup, E, hE⟩
  | cons x r ih =>
    intro k s P u hM hk hP hu hid hx hl
    have hxk : r0.reverse[k]? = some x := by
      have := congrArg (fun l => l[0]?) hk
      simpa using this
    have hxr : x ∈ r0 := by have := List.mem_of_getElem? hxk; simpa using this
    have hnot := hx x r rfl
    have hA := hM.answers hR hxr
    have hE : ∃ E, internL s.L x = s.L ++ E := by
      unfold internL; split
      · exact ⟨[], by simp⟩
      · split
        · exact ⟨_, rfl⟩
        · exact ⟨[], by simp⟩
    have hP' := hP.snoc hE hA.2 hu hnot (by simp at hl; omega)
    rw [← hid] at hP'
    have hmem : x :: u ∈ P ++ [x :: u] := by simp
    have hidn : (stp s x).id = num (P ++ [x :: u]) (x :: u) := by
      rw [num_mem (by simp) hmem, idx_snoc hnot, hP.len]; rfl
    have := ih (k + 1) (stp s x) (P ++ [x :: u]) (x :: u) (hM.step hR hxk) (by rw [← List.drop_drop, hk]; simp) hP' (.inr hmem) hidn (by
      rintro y r' rfl hm
      rcases List.mem_append.1 hm with hm | hm
      · rcases (hP.tail hm).1 with e | e
        · cases e
        · exact hnot e
      · simp at hm) (by simp at hl ⊢; omega)
    have e1 : runs s (x :: r) = runs (stp s x) r := rfl
    have e2 : addP P u (x :: r) = addP (P ++ [x :: u]) (x :: u) r := by rw [addP, if_neg hnot]
    rw [e1, e2]
    simpa using this
/-- Intern, as stacks. -/
theorem intern_rep {L : List ByteArray} {N : List Nd} {P : List Stk} {ls : List ByteArray} (hP : Rep L N P) (hg : Good L N) (hd : L.Nodup) (hl : ls.length ≤ 16) (hR : Roomy L N.length (kn L N 0 ls.reverse).2.reverse) :
    Rep (runs ⟨L, N, (kn L N 0 ls.reverse).1⟩ (kn L N 0 ls.reverse).2).L (runs ⟨L, N, (kn L N 0 ls.reverse).1⟩ (kn L N 0 ls.reverse).2).N (addP P [] ls.reverse) ∧
    (runs ⟨L, N, (kn L N 0 ls.reverse).1⟩ (kn L N 0 ls.reverse).2).id = num (addP P [] ls.reverse) ls ∧ Has (addP P [] ls.reverse) ls ∧ Good (runs ⟨L, N, (kn L N 0 ls.reverse).1⟩ (kn L N 0 ls.reverse).2).L (runs ⟨L, N, (kn L N 0 ls.reverse).1⟩ (kn L N 0 ls.reverse).2).N ∧ (runs ⟨L, N, (kn L N 0 ls.reverse).1⟩ (kn L N 0 ls.reverse).2).L.Nodup ∧ ∃ E, (runs ⟨L, N, (kn L N 0 ls.reverse).1⟩ (kn L N 0 ls.reverse).2).L = L ++ E := by
  obtain ⟨u, h1, h2, h3, h4, h5⟩ := kn_rep hP hg.1 hd ls.reverse [] (.inl rfl)
  rw [num_nil] at h2 h3 h4 h5
  have hM := Mid.start (r0 := ls.reverse) hg hd rfl hR
  have hlen : (kn L N 0 ls.reverse).2.length + u.length ≤ 16 := by
    have := congrArg List.length h3
    simp at this
    omega
  have := runs_rep hR (kn L N 0 ls.reverse).2 0 _ P u hM (by simp) hP h1 h2 h5 hlen
  rw [← h4] at this
  rw [h3] at this
  simpa using this
end Go.Proofs.YtpnacioliccglaaDoor.E6
/-
  Intern whatever comes; two stacks to begin with.
-/
namespace Go.Proofs.YtpnacioliccglaaDoor.E6
open Go.RowKit Go.Maps Go.Shelf
/-- The stack's frames that are put in, with the number that they are put under. -/
def left (L : List ByteArray) (N : List Nd) (ls : List ByteArray) : Nat × List ByteArray := kn L N 0 ls.reverse
def after (L : List ByteArray) (N : List Nd) (ls : List ByteArray) : Stt := runs ⟨L, N, (left L N ls).1⟩ (left L N ls).2
/-- What Intern answers and leaves. -/
inductive Res (L : List ByteArray) (N : List Nd) (P : List Stk) (ls : List ByteArray) : Nat → Int → List ByteArray → List Nd → List Stk → Prop
  | deep : 16 < ls.length → Res L N P ls 0 51 L N P
  | full : ls.length ≤ 16 → ¬ Roomy L N.length (left L N ls).2.reverse → Res L N P ls 0 3 L N P
  | ok : ls.length ≤ 16 → Roomy L N.length (left L N ls).2.reverse → Res L N P ls (after L N ls).id 0 (after L N ls).L (after L N ls).N (addP P [] ls.reverse)
theorem addP_ext (P : List Stk) (u : Stk) (r : List ByteArray) : ∃ Q, addP P u r = P ++ Q := by
  induction r generalizing P u with
  | nil => exact ⟨[], by simp [addP]⟩
  | cons s r ih =>
    rw [addP]
    split
    · exact ih _ _
    · obtain ⟨Q, hQ⟩ := ih (P ++ [s :: u]) (s :: u)
      exact ⟨[s :: u] ++ Q, by rw [hQ]; simp⟩
/-- What holds of strings, nodes and stacks. -/
structure Fit (L : List ByteArray) (N : List Nd) (P : List Stk) : Prop where
  good : Good L N
  rep : Rep L N P
  nodup : L.Nodup
theorem Fit.nil : Fit [] [] [] := ⟨⟨by simp, by simp⟩, Rep.nil _, by simp⟩
theorem Fit.ok {L : List ByteArray} {N : List Nd} {P : List Stk} {ls : List ByteArray} (h : Fit L N P) (hl : ls.length ≤ 16) (hR : Roomy L N.length (left L N ls).2.reverse) :
    Fit (after L N ls).L (after L N ls).N (addP P [] ls.reverse) ∧ (after L N ls).id = num (addP P [] ls.reverse) ls ∧ Has (addP P [] ls.reverse) ls ∧ ∃ E, (after L N ls).L = L ++ E := by
  have := intern_rep h.rep h.good h.nodup hl hR
  exact ⟨⟨this.2.2.2.1, this.1, this.2.2.2.2.1⟩, this.2.1, this.2.2.1, this.2.2.2.2.2⟩
theorem Res.fit {L L' : List ByteArray} {N N' : List Nd} {P P' : List Stk} {ls : List ByteArray} {id : Nat} {er : Int} (h : Res L N P ls id er L' N' P') (hf : Fit L N P) : Fit L' N' P' ∧ (∃ Q, P' = P ++ Q) ∧ ∃ E, L' = L ++ E := by
  cases h with
  | deep _ => exact ⟨hf, ⟨[], by simp⟩, ⟨[], by simp⟩⟩
  | full _ _ => exact ⟨hf, ⟨[], by simp⟩, ⟨[], by simp⟩⟩
  | ok hl hR => exact ⟨(hf.ok hl hR).1, addP_ext _ _ _, (hf.ok hl hR).2.2.2⟩
/-- Sets that only grow by new blocks. -/
def More (w : World) (T T' : Nat → Prop) : Prop := ∀ k, T' k → T k ∨ w.heap.size ≤ k
theorem intern_u {w : World} {T S : Nat → Prop} {tb fb : Nat} {L : List ByteArray} {N : List Nd} (P : List Stk) (h : St w T S tb fb L N) (hg : Good L N) (a : Option Addr) (n c : Nat) (ls : List ByteArray) (hr : SRow w a n ls) (hn : (n : Int) ≤ 9223372036854775806) (hc : n ≤ c) (hz : ∀ s ∈ ls, s.size ≤ maxLen)
    (hrT : ∀ b off, a = some ⟨b, off, none⟩ → n ≠ 0 → ¬ T b ∧ ¬ S b) :
    Calls Tryd.prog 58 #[.pointer (some ⟨fb, 0, none⟩), .slice a n c] w fun e w' => ∃ id er L' N' P', e = .returned (.tuple #[.int .i64 (id : Nat), .int .i64 er]) ∧ Res L N P ls id er L' N' P' ∧
      (∃ T' S', St w' T' S' tb fb L' N' ∧ More w T T' ∧ More w S S') ∧ But (fun k => T k ∨ S k) w w' := by
  by_cases hd : n ≤ 16
  · by_cases hR : Roomy L N.length (kn L N 0 ls.reverse).2.reverse
    · refine (intern_f h hg a n c ls hr hd hc hz hrT hR).mono ?_
      rintro e w' ⟨rfl, hT, hb⟩
      exact ⟨_, _, _, _, _, rfl, .ok (by rw [hr.len]; exact hd) hR, hT, hb⟩
    · refine (intern_full h a n c ls hr hd hc hz hR).mono ?_
      rintro e w' ⟨rfl, hb⟩
      exact ⟨_, _, _, _, _, rfl, .full (by rw [hr.len]; exact hd) hR, ⟨T, S, h.but (U := fun _ => False) (But.of_below hb) (fun _ _ e => e) (fun _ _ e => e), fun _ e => .inl e, fun _ e => .inl e⟩, But.of_below hb⟩
  · refine (intern_deep h a n c (by omega) (by omega)).mono ?_
    rintro e w' ⟨rfl, hb⟩
    exact ⟨_, _, _, _, _, rfl, .deep (by rw [hr.len]; omega), ⟨T, S, h.but (U := fun _ => False) (But.of_below hb) (fun _ _ e => e) (fun _ _ e => e), fun _ e => .inl e, fun _ e => .inl e⟩, But.of_below hb⟩
theorem tab_new (w : World) : Tab (w.alloc (.cells #[.slice none 0 0, .map none, .int .i64 0] 116)) w.heap.size (fun k => k = w.heap.size) [] (.slice none 0 0) (.map none) :=
  ⟨heap_alloc_new w _, World.ownsRow_nil _ _ _ _, .inl ⟨rfl, rfl⟩, rfl, by simp [Value.ownBlock], by simp, by simp, by simp, by simp [total]⟩
/-- A new table and a new forest over it. -/
theorem st_new {w w' : World} {v : Value} {mb : Nat} (hF : Frs w' ((w.alloc (.cells #[.slice none 0 0, .map none, .int .i64 0] 116)).heap.size + 1) w.heap.size (fun k => (w.alloc (.cells #[.slice none 0 0, .map none, .int .i64 0] 116)).heap.size ≤ k ∧ k < w'.heap.size) [] v mb)
    (hb : Below (w.alloc (.cells #[.slice none 0 0, .map none, .int .i64 0] 116)).heap.size (w.alloc (.cells #[.slice none 0 0, .map none, .int .i64 0] 116)) w') :
    St w' (fun k => k = w.heap.size) (fun k => w.heap.size + 1 ≤ k ∧ k < w'.heap.size) w.heap.size (w.heap.size + 2) [] [] ∧ Below w.heap.size w w' := by
  have hsz := hb.size
  have ht := (tab_new w).kept (T := fun _ => False) (But.of_below hb) (fun _ _ e => e)
  rw [World.size_alloc] at hF hb hsz
  refine ⟨⟨⟨_, _, _, _, ht, hF⟩, ?_, ?_, ?_⟩, ?_⟩
  · rintro k rfl; omega
  · rintro k rfl; omega
  · intro k hk; exact hk.2
  · exact ((Below.refl _ w).alloc (Nat.le_refl _) _).trans (hb.mono (Nat.le_succ _))
theorem But.beyond {U : Nat → Prop} {w0 w w' : World} (h : But U w w') (hb : Below w0.heap.size w0 w) (hU : ∀ k, U k → w0.heap.size ≤ k) : Below w0.heap.size w0 w' := hb.trans (h.below hb.size hU)
theorem row_own {w : World} {base : Nat} {v : Value} {L : List ByteArray} (h : w.ownsRow base 9 1 v L.length (L.map Value.string)) : ∃ a c, v = .slice a L.length c ∧ SRow w a L.length L ∧ L.length ≤ c := by
  rcases h.2 with ⟨hv, h0⟩ | ⟨g, cap, cur, hv, hb, hg, hn, hm, hs, ht⟩
  · exact ⟨none, 0, by rw [hv, h0], ⟨rfl, .inl h0⟩, by omega⟩
  · subst hv; exact ⟨_, cap, rfl, SRow.of_own h, hn⟩
end Go.Proofs.YtpnacioliccglaaDoor.E6
/-
  Bounds, the program's.
-/
namespace Go.Proofs.YtpnacioliccglaaDoor.E6
open Go.RowKit Go.Maps Go.Shelf
abbrev Ev.chk (e : Ev) : Int := E6.chk e.g e.k e.o e.a e.ls
open Classical in
/-- The first fault from the place i on. -/
noncomputable def bnd : List Ev → Nat → List ByteArray → List Nd → Int × Int
  | [], _, _, _ => (-1, 0)
  | e :: r, i, L, N => if e.chk = 0 then if Roomy L N.length (left L N e.ls).2.reverse then bnd r (i + 1) (after L N e.ls).L (after L N e.ls).N else ((i : Int), 3) else ((i : Int), e.chk)
noncomputable def bounds (es : List Ev) : Int × Int := if es.length ≤ 1048576 then bnd es 0 [] [] else (1048576, 3)
theorem chk_zero {g k o a : Int} {ls : List ByteArray} (h : chk g k o a ls = 0) : ls.length ≤ 16 := by
  unfold chk at h
  split at h
  · split at h
    · cases h
    · split at h
      · split at h
        · split at h
          · rename_i hst
            unfold stkB at hst
            simp at hst
            exact hst.1
          · cases h
        · cases h
      · cases h
  · cases h
/-- The program's forest in the midst of Bounds. -/
structure BSt (w0 wr : World) (tb fb : Nat) (L : List ByteArray) (N : List Nd) : Prop where
  st : ∃ T S, St wr T S tb fb L N ∧ ∀ k, T k ∨ S k → w0.heap.size ≤ k
  fit : ∃ P, Fit L N P
  bel : Below w0.heap.size w0 wr
theorem BSt.below {w0 wr w' : World} {tb fb : Nat} {L : List ByteArray} {N : List Nd} (h : BSt w0 wr tb fb L N) (hb : Below wr.heap.size wr w') : BSt w0 w' tb fb L N := by
  obtain ⟨T, S, h1, h2⟩ := h.st
  exact ⟨⟨T, S, h1.but (U := fun _ => False) (But.of_below hb) (fun _ _ e => e) (fun _ _ e => e), h2⟩, h.fit, h.bel.trans (hb.mono h.bel.size)⟩
theorem SRow.old {w : World} {a : Option Addr} {n : Nat} {L : List ByteArray} (h : SRow w a n L) {b off : Nat} (e : a = some ⟨b, off, none⟩) (hn : n ≠ 0) : b < w.heap.size := by
  obtain ⟨b', off', e', hc⟩ := h.at (i := 0) (by omega)
  rw [e] at e'
  cases e'
  exact World.block_lt_of_cell? w _ hc
/-- What Intern answers for one event of Bounds, and leaves. -/
theorem bst_intern {w0 wr : World} {tb fb : Nat} {L : List ByteArray} {N : List Nd} (h : BSt w0 wr tb fb L N) (e : Ev) (hok : e.ok) (hs0 : e.at w0) (h0 : e.chk = 0) :
    Calls Tryd.prog 58 #[.pointer (some ⟨fb, 0, none⟩), .slice e.sa e.ls.length e.sc] wr fun r w' => ∃ id : Nat,
      (Roomy L N.length (left L N e.ls).2.reverse → r = .returned (.tuple #[.int .i64 (id : Int), .int .i64 0]) ∧ BSt w0 w' tb fb (after L N e.ls).L (after L N e.ls).N) ∧
      (¬ Roomy L N.length (left L N e.ls).2.reverse → r = .returned (.tuple #[.int .i64 (id : Int), .int .i64 3]) ∧ Below w0.heap.size w0 w') := by
  obtain ⟨T, S, hst, hold⟩ := h.st
  obtain ⟨P, hfit⟩ := h.fit
  have hs : SRow wr e.sa e.ls.length e.ls := SRow.bel hs0 h.bel
  have h16 := chk_zero h0
  refine (intern_u P hst hfit.good e.sa e.ls.length e.sc e.ls hs (by omega) hok.cap hok.sz (fun b off ea hn => ?_)).mono ?_
  · have hb := SRow.old hs0 ea hn
    constructor
    · intro hT; have := hold b (.inl hT); omega
    · intro hS; have := hold b (.inr hS); omega
  · rintro r w' ⟨id, er, L', N', P', rfl, hres, ⟨T', S', hst', m1, m2⟩, hb⟩
    have hbel : Below w0.heap.size w0 w' := h.bel.trans (hb.below h.bel.size hold)
    refine ⟨id, fun hR => ?_, fun hR => ?_⟩
    · have hf := (hres.fit hfit).1
      cases hres with
      | deep hd => omega
      | full _ hn => exact absurd hR hn
      | ok _ _ =>
        refine ⟨rfl, ⟨T', S', hst', fun k hk => ?_⟩, ⟨_, hf⟩, hbel⟩
        have hsz := h.bel.size
        rcases hk with hk | hk
        · rcases m1 k hk with e1 | e1
          · exact hold k (.inl e1)
          · omega
        · rcases m2 k hk with e1 | e1
          · exact hold k (.inr e1)
          · omega
    · cases hres with
      | deep hd => omega
      | full _ _ => exact ⟨rfl, hbel⟩
      | ok _ hr => exact absurd hr hR
/-- What Bounds answers. -/
def bndV (p : Int × Int) : Value := .tuple #[.int .i64 p.1, .int .i64 p.2]
set_option maxRecDepth 4000 in
set_option maxHeartbeats 2000000 in
theorem bounds_any (a : Option Addr) (n c : Nat) (es : List Ev) (w : World) (h : Kr w) (hr : ERow w a n es) (hok : ∀ e ∈ es, e.ok) (hn : (n : Int) ≤ 9223372036854775806) :
    Calls Tryd.prog 29 #[.slice a n c] w fun r w' => r = .returned (.tuple #[.int .i64 (bounds es).1, .int .i64 (bounds es).2]) ∧ Below w.heap.size w w' := by
  obtain ⟨R, hR⟩ : ∃ R, R = bounds es := ⟨_, rfl⟩
  rw [← hR]
  unfold bounds at hR
  rw [hr.len] at hR
  by_cases hlarge : n ≤ 1048576
  · rw [if_pos hlarge] at hR
    have hl : (n : Int) ≤ 1048576 := by omega
    have HR : Hid _ := hide hR
    have HK : Hid _ := hide h
    have HE : Hid _ := hide hr
    have HO : Hid _ := hide hok
    have HN : Hid _ := hide (new_any w)
    clear hR hlarge h hr hok hn
    go_enter Tryd.func29, Tryd.ntmps29
    go_wp2_with fail
    refine HN.out.mono ?_
    rintro e w1 ⟨rfl, hw1⟩
    have HF : Hid _ := hide (new_f w.heap.size w1)
    have HW1 : Hid _ := hide hw1
    clear hw1
    go_wp2_with fail
    refine HF.out.mono ?_
    rintro e w2 ⟨rfl, ⟨v, mb, hF⟩, hb⟩
    have hst : St w2 (fun k => k = w.heap.size) (fun k => w.heap.size + 1 ≤ k ∧ k < w2.heap.size) w.heap.size (w1.heap.size + 1) [] [] ∧ Below w.heap.size w w2 := by
      rw [HW1.out] at hF hb ⊢; have := st_new hF hb; rw [World.size_alloc]; exact this
    have HB : Hid (BSt w w2 w.heap.size (w1.heap.size + 1) [] []) := hide ⟨⟨_, _, hst.1, by intro k hk; omega⟩, ⟨[], Fit.nil⟩, hst.2⟩
    generalize w1.heap.size + 1 = fb at HB ⊢
    clear hF hb hst HF HN HW1
    go_wp2
    go_loopw [17] (fun i wr => ∃ (j : Nat) (L : List ByteArray) (N : List Nd), j ≤ n ∧ i = .int .i64 j ∧ BSt w wr w.heap.size fb L N ∧ R = bnd (es.drop j) j L N) (fun i _ => n - (intOf i).toNat)
    case atStart => exact ⟨0, [], [], Nat.zero_le _, rfl, HB.out, HR.out⟩
    case round =>
      obtain ⟨j, L, N, hj, rfl, hbst, hRj⟩ := hrel
      have HB' : Hid _ := hide hbst
      clear hbst HB
      by_cases hlt : j < n
      · have hjI : (j : Int) < n := by omega
        have hrr := HE.out.bel HB'.out.bel
        obtain ⟨b, off, e, rfl, hej, c0, c1, c2, c3, c4, hs⟩ := hrr.at hlt
        obtain ⟨b', off', e', hba', hej', _, _, _, _, _, hs0⟩ := HE.out.at hlt
        rw [hej] at hej'
        cases hej'
        have hme := HO.out e (List.mem_of_getElem? hej)
        have hdrop : es.drop j = e :: es.drop (j + 1) := by
          obtain ⟨hl', he'⟩ := List.getElem?_eq_some_iff.1 hej
          rw [List.drop_eq_getElem_cons hl', he']
        rw [hdrop, bnd] at hRj
        have HRj : Hid _ := hide hRj
        have HM : Hid _ := hide hme
        have HS0 : Hid _ := hide hs0
        have hlen : (e.ls.length : Int) ≤ 9223372036854775806 := by have := hme.len; omega
        obtain ⟨W1, hW1⟩ : ∃ W1, W1 = wr.alloc (.cells #[.int .i64 e.g, .int .i64 e.k, .int .u64 e.o, .int .u64 e.a, .slice e.sa e.ls.length e.sc] 25) := ⟨_, rfl⟩
        have hb1 : Below wr.heap.size wr W1 := by rw [hW1]; exact below_new wr _
        have he1 : EvB W1 wr.heap.size e.g e.k e.o e.a e.sa e.ls.length e.sc := by rw [hW1]; exact EvB.new
        have hB1 := HB'.out.below hb1
        have HB1 : Hid _ := hide hB1
        have HE1 : Hid _ := hide he1
        have HC : Hid _ := hide (check_any e.g e.k e.o e.a e.sa e.ls.length e.sc e.ls W1 (HK.out.below hB1.bel (by have := HK.out.size; omega)) (SRow.bel (SRow.bel hs0 HB'.out.bel) hb1) hlen)
        rw [hW1] at HC
        have HW1 : Hid _ := hide hW1
        clear hrr hej hs hs0 hba' hme hdrop hRj hW1 hb1 he1 hB1 hlen
        go_wp2_with fail
        refine HC.out.mono ?_
        rw [← HW1.out]
        rintro r w3 ⟨rfl, hb3⟩
        have HB3 : Hid _ := hide (HB1.out.below hb3)
        have p4 := (HE1.out.below hb3).c4
        clear hb3 HC HW1 HB1 HE1 c0 c1 c2 c3 c4
        obtain ⟨ck, hck⟩ : ∃ ck, ck = chk e.g e.k e.o e.a e.ls := ⟨_, rfl⟩
        rw [← hck]
        by_cases h0 : ck = 0
        · have hne : (ck != 0) = false := by simp [h0]
          have HI : Hid _ := hide (bst_intern HB3.out e HM.out HS0.out (hck.symm.trans h0))
          have HC0 : Hid (e.chk = 0) := hide (hck.symm.trans h0)
          clear h0 hck
          go_wp2_with fail
          refine HI.out.mono ?_
          rintro r w4 ⟨id, hyes, hno⟩
          by_cases hR : Roomy L N.length (left L N e.ls).2.reverse
          · obtain ⟨rfl, hB4⟩ := hyes hR
            have HN : Hid (R = bnd (es.drop (j + 1)) (j + 1) (after L N e.ls).L (after L N e.ls).N) := hide (by rw [HRj.out, if_pos HC0.out, if_pos hR])
            have HB4 : Hid _ := hide hB4
            clear hyes hno hR hB4
            go_wp2
            exact ⟨⟨j + 1, _, _, by omega, by go_num, HB4.out, HN.out⟩, by simp [intOf]; omega⟩
          · obtain ⟨rfl, hb4⟩ := hno hR
            have HN : Hid (R = ((j : Int), 3)) := hide (by rw [HRj.out, if_pos HC0.out, if_neg hR])
            have HB4 : Hid _ := hide hb4
            clear hyes hno hR hb4
            go_wp2
            go_ret2
            exact ⟨by rw [HN.out]; rfl, HB4.out⟩
        · have hne : (ck != 0) = true := by simp [h0]
          have HN : Hid (R = ((j : Int), ck)) := hide (by rw [HRj.out, if_neg (by show ¬ chk e.g e.k e.o e.a e.ls = 0; rw [← hck]; exact h0)]; show ((j : Int), chk e.g e.k e.o e.a e.ls) = _; rw [← hck])
          clear h0 hck
          go_wp2
          go_ret2
          exact ⟨by rw [HN.out]; rfl, HB3.out.bel⟩
      · have HN : Hid (R = (-1, 0)) := hide (by rw [hRj, List.drop_eq_nil_of_le (by rw [HE.out.len]; omega)]; rfl)
        clear hRj
        go_wp2
        go_ret2
        exact ⟨by rw [HN.out]; rfl, HB'.out.bel⟩
  · rw [if_neg hlarge] at hR
    have hl : (1048576 : Int) < n := by omega
    have HN : Hid _ := hide hR
    clear hR hlarge h hr hok
    go_enter Tryd.func29, Tryd.ntmps29
    go_wp2
    go_ret2
    exact ⟨by rw [HN.out]; rfl, Below.refl _ _⟩
end Go.Proofs.YtpnacioliccglaaDoor.E6
