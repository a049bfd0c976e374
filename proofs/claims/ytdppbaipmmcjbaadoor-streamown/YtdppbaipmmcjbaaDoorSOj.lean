/-
  StreamOwn: what two writers answered, in one table; bodies that are spoilt.
-/
import Derived.Test.YtdppbaipmmcjbaaDoorSOe
import Derived.Test.YtdppbaipmmcjbaaDoorSOg
import Derived.Test.YtdppbaipmmcjbaaDoorSOi
import Derived.Test.YtdppbaipmmcjbaaDoorZoc
import Derived.Test.YtdppbaipmmcjbaaDoorSBkM
namespace Go.Proofs.YtdppbaipmmcjbaaDoor
open Go.RowKit
/-- 'append(l, ..)' of a table of lists, and where it lies. -/
theorem append_lstL (w : World) {ops : Array Oper} {rest : List Oper} {o : Oper} {a : Act} {Q : Exit → Act → World → Prop} (hgd : o.guard = none) (s x : Operand)
    (ho : o.op = .call { callee := .builtin .append, args := #[s, x], argTypes := #[24, 24] }) (base : Nat)
    (v : Value) (n : Nat) (vals : List Value) (hs : a.eval s = v) (hown : w.ownsRow base 35 1 v n vals)
    (ad : Addr) (m c : Nat) (news : List Value) (hx : a.eval x = .slice (some ad) m c) (hl : news.length = m) (hnews : ∀ j u, news[j]? = some u → w.cell? (ad.add j) = some u) (h1 : ∀ u ∈ news, u.oneCell' = true) (hm0 : 0 < m)
    (hb : ((n : Int) + m) * 24 ≤ 220000000000000) (hbase : base ≤ w.heap.size)
    (h : ∀ (a' : Option Addr) (c' : Nat) w', w'.ownsRow base 35 1 (.slice a' (n + m) c') (n + m) (vals ++ news) → w.grownBy w' v.ownBlock → ((Value.slice a' (n + m) c').ownBlock = v.ownBlock ∨ (Value.slice a' (n + m) c').ownBlock = some w.heap.size) → wpList Tryd.prog ops Q rest (a.put o.dst (.slice a' (n + m) c')) w') : wpList Tryd.prog ops Q (o :: rest) a w := by
  obtain ⟨i0, hi, hz0, hz1, hz2⟩ := info_parts Tryd.info35
  have hlx : vals.length = n := by simpa using hown.1
  have hN : (vals ++ news).length = n + m := by rw [List.length_append, hlx, hl]
  have hmax : n + m ≤ maxLen := by unfold maxLen; omega
  rcases hown.2 with ⟨hv, h0⟩ | ⟨g, cap, cur, hv, hbg, hg, hnc, hcm, hcs, htk⟩
  · subst h0
    subst hv
    have ex : vals = [] := List.length_eq_zero_iff.1 hlx
    subst ex
    have hr := run_append_nil (P := Tryd.prog) w 24 o.type 35 i0 (.slice none 0 0) Tryd.underlying24 hi hz0 ad m c news (by rw [hz1]; omega) hnews hm0 (by omega) (by rw [hz2]; omega)
    obtain ⟨q1, q2⟩ := own_laid w base 35 [] news (.slice none 0 0) rfl (0 + m) (grownCap w m 0 35) hN (by have := grownCap_ge w m 0 35; omega) (grownCap_le_maxLen w m 0 35 (by omega)) hbase (Value.ownBlock (.slice none 0 0))
    refine wpList_plain hgd fun K hK => ?_
    unfold Oper.wp execOp
    simp only [ho, resolve, invoke, builtin, Sem.run_bind, Sem.run_pure, Result.andThen_ok, List.map_toArray, List.map_cons, List.map_nil, hs, hx, hr]
    simp only [Nat.zero_add, List.nil_append, Array.empty_append] at q1 q2 h
    exact hK _ _ (h _ _ _ q1 q2 (.inr rfl))
  · by_cases hroom : n + m ≤ cap
    · subst hv
      refine wpList_append_fits w hgd s x 24 ho base 35 i0 1 Tryd.underlying24 hi hz1 g n cap vals hs hown ad m c news hx (by simpa using hl) hnews h1 hroom ?_
      intro w' q1 q2
      exact h _ _ w' q1 q2 (.inl rfl)
    · subst hv
      have hq := cap_quarter (need := n + m) (old := cap) (by omega)
      have hr := run_append_grow (P := Tryd.prog) w 24 o.type 35 i0 (.slice none 0 0) Tryd.underlying24 hi hz0 ⟨g, 0, none⟩ n cap vals (by rw [hz1]; omega) (hown.cells (g := g) rfl) ad m c news (by rw [hz1]; omega) hnews (by omega) (by omega) (by rw [hz2]; omega)
      obtain ⟨q1, q2⟩ := own_laid w base 35 vals news (.slice none 0 0) rfl (n + m) (grownCap w (n + m) cap 35) hN (grownCap_ge w (n + m) cap 35) (grownCap_le_maxLen w (n + m) cap 35 hmax) hbase (Value.ownBlock (.slice (some ⟨g, 0, none⟩) n cap))
      refine wpList_plain hgd fun K hK => ?_
      unfold Oper.wp execOp
      simp only [ho, resolve, invoke, builtin, Sem.run_bind, Sem.run_pure, Result.andThen_ok, List.map_toArray, List.map_cons, List.map_nil, hs, hx, hr]
      exact hK _ _ (h _ _ _ q1 q2 (.inr rfl))
/-- What one writer answered, with some of what the other did behind it. -/
structure JP (w5 wr : World) (B6 : Nat) (ap : Option Addr) (cp : Nat) (ps : List (List Int)) (pv : List Value) (ao : Option Addr) (co : Nat) (os : List (List Int)) (ov : List Value) : Prop where
  p : Pts wr w5.heap.size (.slice ap ps.length cp) ps pv
  o : Pts wr B6 (.slice ao os.length co) os ov
  tb : ∀ g, (Value.slice ap ps.length cp).ownBlock = some g → (Value.slice ao os.length co).ownBlock ≠ some g
  bel : Below w5.heap.size w5 wr
  b6 : w5.heap.size ≤ B6
theorem JP.next {w5 wr w2 : World} {B6 : Nat} {ap ao ai a2 : Option Addr} {cp co c2 k : Nat} {ps os : List (List Int)} {pv ov : List Value} {z : List Int} (h : JP w5 wr B6 ap cp ps pv ao co os ov) (hk : os[k]? = some z) (hv : ov[k]? = some (.slice ai z.length z.length)) (hdis : ∀ x ∈ pv, ∀ g, x.ownBlock = some g → (Value.slice ai z.length z.length).ownBlock ≠ some g)
    (o2 : w2.ownsRow w5.heap.size 35 1 (.slice a2 (ps.length + 1) c2) (ps.length + 1) (pv ++ [.slice ai z.length z.length])) (g2 : (wr.alloc (.cells #[.slice ai z.length z.length] 35)).grownBy w2 (Value.slice ap ps.length cp).ownBlock)
    (l2 : (Value.slice a2 (ps.length + 1) c2).ownBlock = (Value.slice ap ps.length cp).ownBlock ∨ (Value.slice a2 (ps.length + 1) c2).ownBlock = some (wr.alloc (.cells #[.slice ai z.length z.length] 35)).heap.size) :
    JP w5 w2 B6 a2 c2 (ps ++ [z]) (pv ++ [.slice ai z.length z.length]) ao co os ov := by
  have k2 : But (fun k => (Value.slice ap ps.length cp).ownBlock = some k) wr w2 := ((But.refl _ wr).alloc _).grown g2 (fun k _ e => e)
  obtain ⟨a', cap, e1, e2⟩ := h.o.each k z hk
  rw [hv] at e1
  cases e1
  have hl : (ps ++ [z]).length = ps.length + 1 := by simp
  refine ⟨?_, h.o.but k2 (fun g hg e => h.tb g e hg) (fun x hx g hg e => ?_), ?_, h.bel.trans (k2.below h.bel.size (fun g hg => (h.p.own.lt g hg).1)), h.b6⟩
  · rw [hl]
    exact h.p.snoc (own_mono e2 h.b6) hdis (h.o.u8 z (List.mem_of_getElem? hk)) (below_alloc1 _ _) o2 g2
  · obtain ⟨b, _, a9, c9, rfl, ho⟩ := h.o.row hx
    exact own_types ho h.p.own (by decide) g (by rw [ownBlock_cap _ _ _ b.length]; exact hg) e
  · rw [hl]
    intro g hg e
    rcases l2 with l | l
    · rw [l] at hg; exact h.tb g hg e
    · rw [l] at hg
      have e9 := Option.some.inj hg
      have := (h.o.own.lt g e).2
      simp at e9
      omega
/-- Bytes that may be spoilt. -/
def SpA (w : World) (A : List (List Int)) (bv : List Value) (r : Nat) : Prop := ∀ z, A[r]? = some z → ∃ g cs, bv[r]? = some (.slice (some ⟨g, 0, none⟩) z.length z.length) ∧ w.heap[g]? = some (.cells cs 5 (0, 0)) ∧ z.length ≤ cs.size ∧ ∀ j, j < z.length → ∃ y : Int, cs[j]? = some (.int .u8 y)
theorem Bods.spa {w : World} {base : Nat} {v : Value} {A : List (List Int)} {bv : List Value} (h : Bods w base v A bv) (r : Nat) : SpA w A bv r := by
  intro z hz
  obtain ⟨g, cap, h1, h2⟩ := h.each r z hz
  rcases h2.2 with ⟨e, _⟩ | ⟨g', c', cur, e, _, h3, h4, _, h5, h6⟩
  · cases e
  · injection e with e1 e2 e3
    cases e1
    refine ⟨g, cur, h1, h3, by omega, fun j hj => ?_⟩
    have h7 : (cur.toList.take (z.length * 1))[j]? = (z.map (Value.int .u8))[j]? := by rw [h6]
    rw [List.getElem?_take_of_lt (by omega), List.getElem?_map, List.getElem?_eq_getElem hj] at h7
    exact ⟨z[j], by simpa using h7⟩
theorem SpA.but {w w' : World} {S : Nat → Prop} {A : List (List Int)} {bv : List Value} {r : Nat} (h : SpA w A bv r) (hb : But S w w') (hS : ∀ x, bv[r]? = some x → ∀ g, x.ownBlock = some g → ¬ S g) : SpA w' A bv r := by
  intro z hz
  obtain ⟨g, cs, h1, h2, h3, h4⟩ := h z hz
  exact ⟨g, cs, h1, (hb.block g (lt_of_heap h2) (hS _ h1 g rfl)).trans h2, h3, h4⟩
/-- What is written and read again. -/
theorem ev_dv {lim : Int} {L : List Rc} (hok : ∀ r ∈ L, r.ok) (h : (Ev lim L).2 = 0) : (Dv lim (Ev lim L).1).1 = L := by
  unfold Ev at h ⊢
  by_cases hlim : 64 ≤ lim ∧ lim ≤ 1048576
  · rw [if_pos hlim] at h ⊢
    by_cases hs : strE 0 L = 0
    · rw [if_pos hs]
      unfold Dv
      rw [if_pos hlim, dec_enc (by omega) hs hok]
    · rw [if_neg hs] at h
      exact absurd h hs
  · rw [if_neg hlim] at h
    exact absurd h (by decide)
end Go.Proofs.YtdppbaipmmcjbaaDoor
