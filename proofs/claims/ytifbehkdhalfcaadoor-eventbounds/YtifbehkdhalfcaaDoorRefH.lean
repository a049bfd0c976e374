/-
  The document's forest: Intern as mathematics.
-/
import Derived.Test.YtifbehkdhalfcaaDoorRefG
import Derived.Test.YtifbehkdhalfcaaDoorLawB
namespace Go.Proofs.YtifbehkdhalfcaaDoor
open Go.RowKit Go.Maps Go.Shelf
theorem newS_known {L : List ByteArray} : ∀ (q l : List ByteArray), (∀ t ∈ q, t ∈ L) → newS L (l ++ q) = newS L l := by
  intro q
  induction q with
  | nil => intro l _; simp
  | cons x q ih =>
    intro l h
    have e : l ++ x :: q = (l ++ [x]) ++ q := by simp
    rw [e, ih _ (fun t ht => h t (by simp [ht])), newS_snoc, isIn_iff.2 (h x (by simp))]
    simp
theorem kn_split {L : List ByteArray} {N : List Nd} : ∀ (r : List ByteArray) (id : Nat), ∃ q, r = q ++ (kn L N id r).2 ∧ ∀ t ∈ q, t ∈ L := by
  intro r
  induction r with
  | nil => intro id; exact ⟨[], by simp [kn], by simp⟩
  | cons s r ih =>
    intro id
    rw [kn]
    split
    · rename_i h
      obtain ⟨q, h1, h2⟩ := ih (nid N (id, place L s))
      refine ⟨s :: q, by rw [List.cons_append, ← h1], ?_⟩
      intro t ht
      rcases List.mem_cons.1 ht with rfl | ht
      · exact isIn_iff.1 h.1
      · exact h2 t ht
    · exact ⟨[], by simp, by simp⟩
theorem roomy_fits {L : List ByteArray} {N : List Nd} {ls : List ByteArray} : Roomy L N.length (kn L N 0 ls.reverse).2.reverse ↔ Fits L ls ∧ N.length + (kn L N 0 ls.reverse).2.length ≤ 262144 := by
  obtain ⟨q, h1, h2⟩ := kn_split (L := L) (N := N) ls.reverse 0
  have e : ls = (kn L N 0 ls.reverse).2.reverse ++ q.reverse := by
    have := congrArg List.reverse h1
    simpa using this
  have hn : newS L ls = newS L (kn L N 0 ls.reverse).2.reverse := by
    conv => lhs; rw [e]
    exact newS_known _ _ (fun t ht => h2 t (by simpa using ht))
  constructor
  · rintro ⟨a, b, c, d⟩
    exact ⟨⟨by rw [hn]; exact a, by rw [hn]; exact b, by rw [hn]; exact c⟩, by simpa using d⟩
  · rintro ⟨⟨a, b, c⟩, d⟩
    exact ⟨by rw [← hn]; exact a, by rw [← hn]; exact b, by rw [← hn]; exact c, by simpa using d⟩
/-- One frame, as the document takes it. -/
def rstp (s : Stt) (t : ByteArray) : Stt := if nid s.N (s.id, place (internL s.L t) t) = 0 then stp s t else ⟨internL s.L t, s.N, nid s.N (s.id, place (internL s.L t) t)⟩
/-- Between two frames; r is still to come. -/
def Way (L : List ByteArray) (N : List Nd) (ls : List ByteArray) (r : List ByteArray) (s : Stt) : Prop :=
  (s.L = L ∧ s.N = N ∧ s.id ≤ N.length ∧ kn L N 0 ls.reverse = kn L N s.id r) ∨
  (∃ k, Mid L N (kn L N 0 ls.reverse).1 (kn L N 0 ls.reverse).2.reverse k s ∧ (kn L N 0 ls.reverse).2.drop k = r ∧ runs s r = after L N ls)
theorem Way.start (L : List ByteArray) (N : List Nd) (ls : List ByteArray) : Way L N ls ls.reverse ⟨L, N, 0⟩ := .inl ⟨rfl, rfl, Nat.zero_le _, rfl⟩
theorem Way.end {L : List ByteArray} {N : List Nd} {ls : List ByteArray} {s : Stt} (h : Way L N ls [] s) : s = after L N ls := by
  rcases h with ⟨h1, h2, _, h4⟩ | ⟨k, _, _, h⟩
  · unfold after left
    rw [h4, kn, ← h1, ← h2]
    rfl
  · rw [← h]; rfl
structure Takes (s : Stt) (t : ByteArray) : Prop where
  ans : internV s.L t = .tuple #[.int .i64 (place (internL s.L t) t : Int), .int .i64 0]
  mem : t ∈ internL s.L t
  room : nid s.N (s.id, place (internL s.L t) t) = 0 → s.N.length < 262144
  idle : s.id ≤ s.N.length
theorem Way.step {L : List ByteArray} {N : List Nd} {ls r : List ByteArray} {s : Stt} {t : ByteArray} (h : Way L N ls (t :: r) s) (hf : Good L N) (hd : L.Nodup) (hR : Roomy L N.length (kn L N 0 ls.reverse).2.reverse) : Takes s t ∧ Way L N ls r (rstp s t) := by
  have key : ∀ k, Mid L N (kn L N 0 ls.reverse).1 (kn L N 0 ls.reverse).2.reverse k s → (kn L N 0 ls.reverse).2.drop k = t :: r → runs s (t :: r) = after L N ls → Takes s t ∧ Way L N ls r (rstp s t) := by
    intro k hM hk hr
    have hx : (kn L N 0 ls.reverse).2.reverse.reverse[k]? = some t := by
      rw [List.reverse_reverse]
      have := congrArg (fun l => l[0]?) hk
      simpa using this
    have hmem : t ∈ (kn L N 0 ls.reverse).2.reverse := by have := List.mem_of_getElem? hx; simpa using this
    have hA := hM.answers hR hmem
    have hS := hM.step hR hx
    have h0 : nid s.N (s.id, place (internL s.L t) t) = 0 := nid_none (hM.fresh t hx)
    have e : rstp s t = stp s t := by rw [rstp, if_pos h0]
    refine ⟨⟨hA.1, hA.2, fun _ => ?_, hM.idle⟩, .inr ⟨k + 1, by rw [e]; exact hS, by rw [← List.drop_drop, hk]; rfl, by rw [e]; exact hr⟩⟩
    have h1 := hM.nodes
    have h2 := hR.nodes
    have h3 : k < (kn L N 0 ls.reverse).2.length := by rw [List.reverse_reverse] at hx; exact (List.getElem?_eq_some_iff.1 hx).1
    rw [List.length_reverse] at h2
    omega
  rcases h with ⟨h1, h2, h3, h4⟩ | ⟨k, hM, hk, hr⟩
  · rw [kn] at h4
    split at h4
    · rename_i hc
      have hin : t ∈ L := isIn_iff.1 hc.1
      have eL : internL s.L t = L := by rw [h1]; exact internL_old hin
      have hz : ¬ nid s.N (s.id, place (internL s.L t) t) = 0 := by rw [eL, h2]; exact hc.2
      refine ⟨⟨?_, by rw [eL]; exact hin, fun e => absurd e hz, by rw [h2]; exact h3⟩, .inl ?_⟩
      · rw [eL, h1]; unfold internV; rw [isIn_iff.2 hin]; rfl
      · rw [rstp, if_neg hz]
        refine ⟨eL, h2, ?_, ?_⟩
        · show nid s.N _ ≤ _
          rw [h2]; exact nid_le _ _
        · show _ = kn L N (nid s.N (s.id, place (internL s.L t) t)) r
          rw [eL, h2]; exact h4
    · have hM := Mid.start (r0 := ls.reverse) hf hd rfl hR
      have e1 : (kn L N 0 ls.reverse).1 = s.id := by rw [h4]
      have e2 : (kn L N 0 ls.reverse).2 = t :: r := by rw [h4]
      have es : (⟨L, N, (kn L N 0 ls.reverse).1⟩ : Stt) = s := by rw [e1, ← h1, ← h2]
      rw [es] at hM
      refine key 0 hM (by rw [e2]; rfl) ?_
      unfold after left
      rw [es, e2]
  · exact key k hM hk hr
theorem Res.det {L L1 L2 : List ByteArray} {N N1 N2 : List Nd} {P P1 P2 : List Stk} {ls : List ByteArray} {i1 i2 : Nat} {e1 e2 : Int} (h : Res L N P ls i1 e1 L1 N1 P1) (k : Res L N P ls i2 e2 L2 N2 P2) : i1 = i2 ∧ e1 = e2 ∧ L1 = L2 ∧ N1 = N2 ∧ P1 = P2 := by
  cases h <;> cases k <;> first | exact ⟨rfl, rfl, rfl, rfl, rfl⟩ | (exfalso; omega) | (exfalso; contradiction)
/-- The document's table and a forest over it. -/
structure RSt (w : World) (T S : Nat → Prop) (tb fb : Nat) (L : List ByteArray) (N : List Nd) : Prop where
  both : ∃ tv v, RTab w tb T L tv ∧ RFr w fb tb S N v
  dis : ∀ k, T k → ¬ S k
  tlt : ∀ k, T k → k < w.heap.size
  slt : ∀ k, S k → k < w.heap.size
theorem RSt.but {w w' : World} {T S U : Nat → Prop} {tb fb : Nat} {L : List ByteArray} {N : List Nd} (h : RSt w T S tb fb L N) (hb : But U w w') (hT : ∀ k, T k → ¬ U k) (hS : ∀ k, S k → ¬ U k) : RSt w' T S tb fb L N := by
  obtain ⟨tv, v, h1, h2⟩ := h.both
  exact ⟨⟨tv, v, h1.kept hb hT, h2.kept hb hS⟩, h.dis, fun k hk => Nat.lt_of_lt_of_le (h.tlt k hk) hb.size, fun k hk => Nat.lt_of_lt_of_le (h.slt k hk) hb.size⟩
theorem RSt.below {w w' : World} {T S : Nat → Prop} {tb fb : Nat} {L : List ByteArray} {N : List Nd} (h : RSt w T S tb fb L N) (hb : Below w.heap.size w w') : RSt w' T S tb fb L N := h.but (U := fun _ => False) (But.of_below hb) (fun _ _ e => e) (fun _ _ e => e)
theorem Tryd.infoRNode : (Tryd.prog.info? 83).map (fun i => (i.zero, i.size, i.bytes)) = some (some (.agg #[.int .i64 0, .int .i64 0]), 2, 16) := by kernel_rfl
theorem append_rnode (w : World) {ops : Array Oper} {rest : List Oper} {o : Oper} {a : Act} {Q : Exit → Act → World → Prop} (hgd : o.guard = none) (s x : Operand)
    (ho : o.op = .call { callee := .builtin .append, args := #[s, x], argTypes := #[75, 75] })
    (v : Value) (N : List Nd) (hs : a.eval s = v) (hown : w.ownsRow 0 83 2 v N.length (ncells N))
    (X : Nat) (n : Nd) (hx : a.eval x = .slice (some ⟨X, 0, none⟩) 1 1) (c0 : w.cell? ⟨X, 0, none⟩ = some (.int .i64 (n.1 : Int))) (c1 : w.cell? ⟨X, 1, none⟩ = some (.int .i64 (n.2 : Int)))
    (hb : (N.length : Int) ≤ 4294967296)
    (h : ∀ (a' : Option Addr) (c' : Nat) w', w'.ownsRow 0 83 2 (.slice a' (N.length + 1) c') (N.length + 1) (ncells (N ++ [n])) → w.grownBy w' v.ownBlock → ((Value.slice a' (N.length + 1) c').ownBlock = v.ownBlock ∨ (Value.slice a' (N.length + 1) c').ownBlock = some w.heap.size) → wpList Tryd.prog ops Q rest (a.put o.dst (.slice a' (N.length + 1) c')) w') : wpList Tryd.prog ops Q (o :: rest) a w := by
  obtain ⟨i0, hi, hz0, hz1, hz2⟩ := info_parts Tryd.infoRNode
  refine wpList_append_own_at w hgd s x 75 ho 0 83 i0 _ 2 16 Tryd.underlying75 hi hz0 hz1 hz2 rfl (by decide) v N.length _ hs hown ⟨X, 0, none⟩ 1 1 [.int .i64 (n.1 : Int), .int .i64 (n.2 : Int)] hx rfl
    (by intro j u hu
        match j, hu with
        | 0, hu => simp at hu; subst hu; simpa [Addr.add] using c0
        | 1, hu => simp at hu; subst hu; simpa [Addr.add] using c1)
    (by intro u hu; simp at hu; rcases hu with rfl | rfl <;> rfl) (by unfold maxLen; omega) (by omega) (Nat.zero_le _) ?_
  intro v' w' h1 h2 _ h3
  obtain ⟨a', c', rfl⟩ := own_form h1
  exact h a' c' w' (by rw [ncells_snoc]; exact h1) h2 h3
end Go.Proofs.YtifbehkdhalfcaaDoor
