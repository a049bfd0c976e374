/-
  Stacks that are there; the outer parts one by one.
-/
import Derived.Test.YtjpccaeojimlfaaLawB
namespace Go.Proofs.Ytjpccaeojimlfaa
open Go.RowKit Go.Maps Go.Shelf
theorem Rep.suffix {L : List ByteArray} {N : List Nd} {P : List Stk} (h : Rep L N P) : ∀ (q p : Stk), q ++ p ∈ P → p ≠ [] → p ∈ P := by
  intro q
  induction q with
  | nil => intro p hm _; exact hm
  | cons x q ih =>
    intro p hm h0
    rcases (h.tail hm).1 with e | e
    · simp at e; exact absurd e.2 h0
    · exact ih p e h0
theorem left_old {L : List ByteArray} {N : List Nd} {P : List Stk} (h : Fit L N P) {p : Stk} (hp : Has P p) : left L N p = (num P p, []) := by
  obtain ⟨u, h1, h2, h3, _, h5⟩ := kn_rep h.rep h.good.1 h.nodup p.reverse [] (.inl rfl)
  rw [num_nil] at h2 h3 h5
  cases hk : (kn L N 0 p.reverse).2 with
  | nil =>
    rw [hk] at h3
    simp at h3
    subst h3
    exact Prod.ext h2 hk
  | cons s r =>
    have hn := h5 s r hk
    rw [hk] at h3
    simp at h3
    exfalso
    apply hn
    have e : p = r.reverse ++ (s :: u) := by rw [← h3]
    rcases hp with e0 | hp
    · rw [e0] at e; simp at e
    · exact h.rep.suffix r.reverse (s :: u) (by rw [← e]; exact hp) (by simp)
theorem res_old {L L' : List ByteArray} {N N' : List Nd} {P P' : List Stk} (h : Fit L N P) {p : Stk} (hp : Has P p) {id : Nat} {er : Int} (hr : Res L N P p id er L' N' P') (hl : L.length ≤ 65536) (ht : total L ≤ 4194304) (hn : N.length ≤ 262144) : id = num P p ∧ er = 0 ∧ L' = L ∧ N' = N := by
  have hle := left_old h hp
  have hlen : p.length ≤ 16 := by
    rcases hp with rfl | hp
    · simp
    · exact h.rep.deep p hp
  have hR : Roomy L N.length (left L N p).2.reverse := by
    rw [hle]
    refine ⟨by simp [newS, newR], by simp [newS, newR]; omega, by simp [newS, newR, total]; exact ht, by simp; omega⟩
  cases hr with
  | deep hd => omega
  | full _ hf => exact absurd hR hf
  | ok _ _ =>
    have e : after L N p = ⟨L, N, num P p⟩ := by unfold after; rw [hle]; rfl
    rw [e]
    exact ⟨rfl, rfl, rfl, rfl⟩
/-- The parts behind k outer parts. -/
noncomputable def upto (P : List Stk) (ls : List ByteArray) (k : Nat) : List Stk := addP P [] (ls.reverse.take k)
theorem addP_snoc (P : List Stk) (u : Stk) (r : List ByteArray) (s : ByteArray) : addP P u (r ++ [s]) = (if inP (addP P u r) (s :: (r.reverse ++ u)) then addP P u r else addP P u r ++ [s :: (r.reverse ++ u)]) := by
  induction r generalizing P u with
  | nil =>
    show addP P u [s] = if inP P (s :: u) then P else P ++ [s :: u]
    rw [addP, addP]
    by_cases h : s :: u ∈ P
    · rw [if_pos h, if_pos (inP_iff.2 h)]
    · rw [if_neg h, if_neg (by rw [inP_iff]; exact h)]
  | cons x r ih =>
    rw [List.cons_append, addP, addP, ih]
    simp
theorem upto_zero (P : List Stk) (ls : List ByteArray) : upto P ls 0 = P := by simp [upto, addP]
theorem upto_all (P : List Stk) (ls : List ByteArray) {n : Nat} (h : ls.length = n) : upto P ls n = addP P [] ls.reverse := by
  unfold upto; rw [List.take_of_length_le (by simp; omega)]
theorem upto_succ (P : List Stk) (ls : List ByteArray) {n k : Nat} (h : ls.length = n) (hk : k < n) : upto P ls (k + 1) = if inP (upto P ls k) (ls.drop (n - (k + 1))) then upto P ls k else upto P ls k ++ [ls.drop (n - (k + 1))] := by
  have hx : ls.reverse[k]? = some (ls.reverse.getD k ByteArray.empty) := getD_get (by simp; omega)
  have e : ls.reverse.getD k ByteArray.empty :: ((ls.reverse.take k).reverse ++ []) = ls.drop (n - (k + 1)) := by
    have e1 : ls.drop (n - (k + 1)) = (ls.reverse.take (k + 1)).reverse := by
      rw [List.take_reverse, List.reverse_reverse]; congr 1; omega
    rw [e1, List.take_add_one, hx]
    simp
  unfold upto
  rw [List.take_add_one, hx]
  show addP P [] (_ ++ [_]) = _
  rw [addP_snoc, e]
theorem upto_len (P : List Stk) (ls : List ByteArray) {n : Nat} (h : ls.length = n) : ∀ k, k ≤ n → (upto P ls k).length ≤ P.length + k := by
  intro k
  induction k with
  | zero => intro _; rw [upto_zero]; omega
  | succ k ih =>
    intro hk
    rw [upto_succ P ls h (by omega)]
    have := ih (by omega)
    split
    · omega
    · simp; omega
theorem upto_mem (P : List Stk) (ls : List ByteArray) {n : Nat} (h : ls.length = n) : ∀ k, k ≤ n → ∀ q ∈ upto P ls k, q ∈ P ∨ ∃ j, q = ls.drop j := by
  intro k
  induction k with
  | zero => intro _ q hq; rw [upto_zero] at hq; exact .inl hq
  | succ k ih =>
    intro hk q
    rw [upto_succ P ls h (by omega)]
    split
    · exact ih (by omega) q
    · intro hq
      rcases List.mem_append.1 hq with hq | hq
      · exact ih (by omega) q hq
      · simp at hq; exact .inr ⟨_, hq⟩
/-- What the walk of StacksFirst carries. -/
structure Fw (w0 w : World) (tb fb : Nat) (T S : Nat → Prop) (v : Value) (L : List ByteArray) (N : List Nd) (P Q : List Stk) : Prop where
  st : St w T S tb fb L N
  fit : Fit L N P
  parts : Parts w0 w v Q
  bel : Below w0.heap.size w0 w
  new : ∀ k, T k ∨ S k → w0.heap.size ≤ k
  apart : ∀ g, v.ownBlock = some g → ¬ (T g ∨ S g)
  small : ∀ q ∈ Q, (q.length : Int) ≤ 9223372036854775806 ∧ ∀ s ∈ q, s.size ≤ maxLen
section
variable {w0 w w' : World} {tb fb : Nat} {T S : Nat → Prop} {v : Value} {L : List ByteArray} {N : List Nd} {P Q : List Stk}
theorem Fw.quiet (h : Fw w0 w tb fb T S v L N P Q) (hb : But (fun _ => False) w w') : Fw w0 w' tb fb T S v L N P Q :=
  ⟨h.st.but hb (fun _ _ e => e) (fun _ _ e => e), h.fit, h.parts.kept hb (fun _ _ e => e), hb.beyond h.bel (fun _ e => e.elim), h.new, h.apart, h.small⟩
theorem Fw.drewN (h : Fw w0 w tb fb T S v L N P Q) (j : Nat) : Fw w0 (w.drewN j) tb fb T S v L N P Q := h.quiet (But.of_below (below_drewN (Below.refl _ _) j))
theorem Fw.below (h : Fw w0 w tb fb T S v L N P Q) (hb : Below w.heap.size w w') : Fw w0 w' tb fb T S v L N P Q := h.quiet (But.of_below hb)
theorem Fw.interned {L' : List ByteArray} {N' : List Nd} {P' : List Stk} {T' S' : Nat → Prop} (h : Fw w0 w tb fb T S v L N P Q) (hst : St w' T' S' tb fb L' N') (hf : Fit L' N' P') (h1 : More w T T') (h2 : More w S S') (hb : But (fun k => T k ∨ S k) w w') : Fw w0 w' tb fb T' S' v L' N' P' Q := by
  refine ⟨hst, hf, h.parts.kept hb h.apart, hb.beyond h.bel h.new, ?_, ?_, h.small⟩
  · have := h.bel.size
    rintro k (hk | hk)
    · rcases h1 k hk with e | e
      · exact h.new k (.inl e)
      · omega
    · rcases h2 k hk with e | e
      · exact h.new k (.inr e)
      · omega
  · intro g hg hk
    have hlt := (h.parts.lt g hg).2
    rcases hk with hk | hk
    · rcases h1 g hk with e | e
      · exact h.apart g hg (.inl e)
      · omega
    · rcases h2 g hk with e | e
      · exact h.apart g hg (.inr e)
      · omega
theorem Fw.put {w2 : World} {a' : Option Addr} {n' c' : Nat} {p : Stk} {o : Obj} (h : Fw w0 w tb fb T S v L N P Q) (hp : Parts w0 w2 (.slice a' n' c') (Q ++ [p])) (g2 : (w.alloc o).grownBy w2 v.ownBlock) (hloc : (Value.slice a' n' c').ownBlock = v.ownBlock ∨ (Value.slice a' n' c').ownBlock = some (w.alloc o).heap.size)
    (hs : (p.length : Int) ≤ 9223372036854775806 ∧ ∀ s ∈ p, s.size ≤ maxLen) : Fw w0 w2 tb fb T S (.slice a' n' c') L N P (Q ++ [p]) := by
  have k2 : But (fun k => v.ownBlock = some k) w w2 := ((But.refl _ w).alloc _).grown g2 (fun k _ e => e)
  refine ⟨h.st.but k2 (fun k hk e => h.apart k e (.inl hk)) (fun k hk e => h.apart k e (.inr hk)), h.fit, hp, k2.beyond h.bel (fun k e => (h.parts.lt k e).1), h.new, ?_, ?_⟩
  · intro g hg
    rcases hloc with e | e
    · rw [e] at hg; exact h.apart g hg
    · rw [e] at hg; cases hg
      rw [World.size_alloc]
      rintro (hk | hk)
      · have := h.st.tlt _ hk; omega
      · have := h.st.slt _ hk; omega
  · intro q hq
    rcases List.mem_append.1 hq with hq | hq
    · exact h.small q hq
    · simp at hq; subst hq; exact hs
end
end Go.Proofs.Ytjpccaeojimlfaa
