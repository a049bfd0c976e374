/-
  Rows that are written over: where they lie.
-/
import Derived.Test.YtdlpffbeladgaaaMsA
namespace Go.Proofs.Ytdlpffbeladgaaa
open Go.RowKit
/-- Rows at block b, whatever they hold: their records' lists lie where they lay. -/
structure Gvn (w : World) (lo hi b n : Nat) (rws : List Rw) : Prop where
  own : ∃ cs, w.heap[b]? = some (.cells cs 38 (0, 0)) ∧ n * 2 ≤ cs.size ∧ ∀ (k : Nat) (rw : Rw), rws[k]? = some rw → cs[k * 2 + 1]? = some (.slice rw.s.a rw.s.n rw.s.c)
  recs : ∀ (k : Nat) (rw : Rw), rws[k]? = some rw → rw.s.n = 0 ∨ ∃ g cr, rw.s.a = some ⟨g, 0, none⟩ ∧ lo ≤ g ∧ g < hi ∧ w.heap[g]? = some (.cells cr 41 (0, 0)) ∧ rw.s.n * 5 ≤ cr.size ∧ rw.s.n ≤ rw.s.c
  lo_ : lo ≤ b
  hi_ : b < hi
theorem Gvn.of {w : World} {lo b n c : Nat} {rws : List Rw} {Gs : List (Int × List Rc)} (h : Rowz w lo (.slice (some ⟨b, 0, none⟩) n c) rws Gs) (hn : rws.length = n) : Gvn w lo w.heap.size b n rws := by
  refine ⟨?_, fun k rw hk => ?_, (h.own.lt b rfl).1, (h.own.lt b rfl).2⟩
  · rcases h.own.2 with ⟨e, _⟩ | ⟨g, cap, cur, e, hg, hh, h1, h2, h3, h4⟩
    · cases e
    · injection e with e1 e2 e3
      have eg : b = g := by injection e1 with e1; injection e1
      subst eg
      refine ⟨cur, hh, ?_, fun k rw hk => ?_⟩
      · rw [h3]
        have : (layW.z) = 2 := rfl
        rw [this, ← hn]
        exact Nat.mul_le_mul_right 2 h1
      · have h9 := layW.fl_get (L := rws) hk (t := 1) (by decide)
        have hl := get_lt hk
        have e5 : (layW.cs rw)[1]? = some (.slice rw.s.a rw.s.n rw.s.c) := rfl
        rw [e5] at h9
        have e6 : k * layW.z + 1 = k * 2 + 1 := rfl
        rw [e6, ← h4, List.getElem?_take] at h9
        split at h9
        · rw [← h9]; simp
        · cases h9
  · obtain ⟨G, hG⟩ : ∃ G, Gs[k]? = some G := ⟨_, List.getElem?_eq_getElem (by rw [← h.len]; exact get_lt hk)⟩
    obtain ⟨_, ho⟩ := h.each k rw G hk hG
    rcases ho.2 with ⟨e, _⟩ | ⟨g, cap, cur, e, hg, hh, h1, h2, h3, h4⟩
    · injection e with e1 e2 e3
      exact .inl e2
    · injection e with e1 e2 e3
      refine .inr ⟨g, cur, e1, hg, get_lt' hh, hh, ?_, by rw [e2, e3]; exact h1⟩
      rw [h3, e2]
      have : (layR.z) = 5 := rfl
      rw [this]
      exact Nat.mul_le_mul_right 5 h1
theorem Gvn.below {w w' : World} {lo hi b n : Nat} {rws : List Rw} (h : Gvn w lo hi b n rws) (hb : Below w.heap.size w w') : Gvn w' lo hi b n rws := by
  obtain ⟨cs, h1, h2, h3⟩ := h.own
  refine ⟨⟨cs, (hb.block b (get_lt' h1)).trans h1, h2, h3⟩, fun k rw hk => ?_, h.lo_, h.hi_⟩
  rcases h.recs k rw hk with e | ⟨g, cr, e1, e2, e3, e4, e5⟩
  · exact .inl e
  · exact .inr ⟨g, cr, e1, e2, e3, (hb.block g (get_lt' e4)).trans e4, e5⟩
/-- A cell of a record is written. -/
theorem Gvn.setR {w : World} {lo hi b n : Nat} {rws : List Rw} (h : Gvn w lo hi b n rws) {g : Nat} {cr : Array Value} (hg : w.heap[g]? = some (.cells cr 41 (0, 0))) (i : Nat) (v : Value) : Gvn (w.setCell ⟨g, i, none⟩ v) lo hi b n rws := by
  obtain ⟨cs, h1, h2, h3⟩ := h.own
  have sb := but_setC w ⟨g, i, none⟩ v
  refine ⟨⟨cs, (sb.block b (get_lt' h1) (fun e => by have e9 : b = g := e; rw [e9, hg] at h1; cases h1)).trans h1, h2, h3⟩, fun k rw hk => ?_, h.lo_, h.hi_⟩
  rcases h.recs k rw hk with e | ⟨g', cr', e1, e2, e3, e4, e5, e6⟩
  · exact .inl e
  · by_cases hgg : g' = g
    · subst hgg
      rw [hg] at e4
      cases e4
      exact .inr ⟨g', _, e1, e2, e3, set1_heap (i := i) v hg, by simpa using e5, e6⟩
    · exact .inr ⟨g', cr', e1, e2, e3, (sb.block g' (get_lt' e4) hgg).trans e4, e5, e6⟩
/-- A row's number is written. -/
theorem Gvn.setG {w : World} {lo hi b n : Nat} {rws : List Rw} (h : Gvn w lo hi b n rws) (k : Nat) (v : Value) : Gvn (w.setCell ⟨b, k * 2, none⟩ v) lo hi b n rws := by
  obtain ⟨cs, h1, h2, h3⟩ := h.own
  have sb := but_setC w ⟨b, k * 2, none⟩ v
  refine ⟨⟨_, set1_heap (i := k * 2) v h1, by simpa using h2, fun j rw hj => ?_⟩, fun j rw hj => ?_, h.lo_, h.hi_⟩
  · rw [Array.getElem?_setIfInBounds, if_neg (by omega)]
    exact h3 j rw hj
  · rcases h.recs j rw hj with e | ⟨g', cr', e1, e2, e3, e4, e5⟩
    · exact .inl e
    · exact .inr ⟨g', cr', e1, e2, e3, (sb.block g' (get_lt' e4) (fun e => by have e9 : g' = b := e; rw [e9, h1] at e4; cases e4)).trans e4, e5⟩
/-- A record is written. -/
theorem Gvn.setR5 {w : World} {lo hi b n : Nat} {rws : List Rw} (h : Gvn w lo hi b n rws) {g : Nat} {cr : Array Value} (hg : w.heap[g]? = some (.cells cr 41 (0, 0))) (i : Nat) (v0 v1 v2 v3 v4 : Value) : Gvn (((((w.setCell ⟨g, i, none⟩ v0).setCell ⟨g, i + 1, none⟩ v1).setCell ⟨g, i + 2, none⟩ v2).setCell ⟨g, i + 3, none⟩ v3).setCell ⟨g, i + 4, none⟩ v4) lo hi b n rws := by
  have h0 := set1_heap (i := i) v0 hg
  have h1 := set1_heap (i := i + 1) v1 h0
  have h2 := set1_heap (i := i + 2) v2 h1
  have h3 := set1_heap (i := i + 3) v3 h2
  exact ((((h.setR hg i v0).setR h0 (i + 1) v1).setR h1 (i + 2) v2).setR h2 (i + 3) v3).setR h3 (i + 4) v4
theorem But.setR5 {S : Nat → Prop} {a w : World} {g : Nat} (h : But S a w) (hS : g < a.heap.size → S g) (i : Nat) (v0 v1 v2 v3 v4 : Value) : But S a (((((w.setCell ⟨g, i, none⟩ v0).setCell ⟨g, i + 1, none⟩ v1).setCell ⟨g, i + 2, none⟩ v2).setCell ⟨g, i + 3, none⟩ v3).setCell ⟨g, i + 4, none⟩ v4) :=
  ((((h.setCell ⟨g, i, none⟩ hS v0).setCell ⟨g, i + 1, none⟩ hS v1).setCell ⟨g, i + 2, none⟩ hS v2).setCell ⟨g, i + 3, none⟩ hS v3).setCell ⟨g, i + 4, none⟩ hS v4
theorem arr_at {cr : Array Value} {i : Nat} (h : i < cr.size) : ∃ v, cr[i]? = some v := ⟨cr[i], by simp [h]⟩
end Go.Proofs.Ytdlpffbeladgaaa
