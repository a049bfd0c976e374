/-
  Bodies in memory: lists of bytes, each cut with its room.
-/
import Derived.Test.YtdppbaipmmcjbaaDoorSPd
namespace Go.Proofs.YtdppbaipmmcjbaaDoor
open Go.RowKit
structure Bods (w : World) (base : Nat) (v : Value) (bs : List (List Int)) (vals : List Value) : Prop where
  own : w.ownsRow base 35 1 v bs.length vals
  each : ∀ (i : Nat) (z : List Int), bs[i]? = some z → ∃ g cap, vals[i]? = some (.slice (some ⟨g, 0, none⟩) z.length z.length) ∧ w.ownsRow base 5 1 (.slice (some ⟨g, 0, none⟩) z.length cap) z.length (z.map (Value.int .u8))
  apart : vals.Pairwise (fun x y => ∀ g, x.ownBlock = some g → y.ownBlock ≠ some g)
  u8 : ∀ b ∈ bs, ∀ z ∈ b, 0 ≤ z ∧ z ≤ 255
section
variable {w : World} {base : Nat} {v : Value} {bs : List (List Int)} {vals : List Value}
theorem Bods.nil (w : World) (base : Nat) : Bods w base (.slice none 0 0) [] [] := ⟨World.ownsRow_nil _ _ _ _, fun i b h => by simp at h, List.Pairwise.nil, by simp⟩
theorem Bods.len (h : Bods w base v bs vals) : vals.length = bs.length := by have := h.own.1; simpa using this
theorem Bods.row (h : Bods w base v bs vals) {x : Value} (hx : x ∈ vals) : ∃ b ∈ bs, ∃ g cap, x = .slice (some ⟨g, 0, none⟩) b.length b.length ∧ w.ownsRow base 5 1 (.slice (some ⟨g, 0, none⟩) b.length cap) b.length (b.map (Value.int .u8)) := by
  obtain ⟨i, hi, rfl⟩ := List.getElem_of_mem hx
  have hl := h.len
  obtain ⟨g, cap, h1, h2⟩ := h.each i bs[i] (by simp [← hl, hi])
  refine ⟨bs[i], List.getElem_mem _, g, cap, ?_, h2⟩
  rw [List.getElem?_eq_getElem hi] at h1
  exact Option.some.inj h1
theorem Bods.but {S : Nat → Prop} {w' : World} (h : Bods w base v bs vals) (hb : But S w w') (hv : ∀ g, v.ownBlock = some g → ¬ S g) (he : ∀ x ∈ vals, ∀ g, x.ownBlock = some g → ¬ S g) : Bods w' base v bs vals :=
  ⟨own_but h.own hb hv, fun i b hi => by
    obtain ⟨g, cap, h1, h2⟩ := h.each i b hi
    exact ⟨g, cap, h1, own_but h2 hb (fun g' hg' => he _ (List.mem_of_getElem? h1) g' hg')⟩, h.apart, h.u8⟩
theorem Bods.below {w' : World} (h : Bods w base v bs vals) (hb : Below w.heap.size w w') : Bods w' base v bs vals := h.but (S := fun _ => False) (But.of_below hb) (fun _ _ e => e) (fun _ _ _ _ e => e)
theorem Bods.ne_cells (h : Bods w base v bs vals) {b : Nat} {ds : Array Value} {T : TypeId} {fr : Nat × Nat} (hb : w.heap[b]? = some (.cells ds T fr)) (h5 : (5 : Nat) ≠ T) : ∀ x ∈ vals, ∀ g, x.ownBlock = some g → g ≠ b := by
  intro x hx g hg e
  obtain ⟨z, _, g', cap, rfl, ho⟩ := h.row hx
  exact own_ne_cells ho hb h5 (by rw [← e]; exact hg)
/-- 'append(l, b)' of a body. -/
theorem Bods.snoc {w2 : World} {b : List Int} {g c : Nat} {a2 : Option Addr} {c2 : Nat} (h : Bods w base v bs vals) (ho1 : w.ownsRow base 5 1 (.slice (some ⟨g, 0, none⟩) b.length c) b.length (b.map (Value.int .u8))) (hf : ∀ x ∈ vals, ∀ g', x.ownBlock = some g' → g' ≠ g) (hu : ∀ z ∈ b, 0 ≤ z ∧ z ≤ 255)
    (o2 : w2.ownsRow base 35 1 (.slice a2 (bs.length + 1) c2) (bs.length + 1) (vals ++ [.slice (some ⟨g, 0, none⟩) b.length b.length])) (g2 : (w.alloc (.cells #[.slice (some ⟨g, 0, none⟩) b.length b.length] 35)).grownBy w2 v.ownBlock) :
    Bods w2 base (.slice a2 (bs.length + 1) c2) (bs ++ [b]) (vals ++ [.slice (some ⟨g, 0, none⟩) b.length b.length]) := by
  have hl := h.len
  have k2 : But (fun k => v.ownBlock = some k) w w2 := (But.refl _ w).alloc _ |>.grown g2 (fun k _ e => e)
  have hone : w2.ownsRow base 5 1 (.slice (some ⟨g, 0, none⟩) b.length c) b.length (b.map (Value.int .u8)) := own_but ho1 k2 (fun g' hg e => own_types ho1 h.own (by decide) g' hg e)
  have hold : ∀ x ∈ vals, ∀ g', x.ownBlock = some g' → ¬ v.ownBlock = some g' := by
    intro x hx g' hg e
    obtain ⟨b', _, g9, cap, rfl, ho⟩ := h.row hx
    exact own_types ho h.own (by decide) g' hg e
  refine ⟨by rw [List.length_append]; exact o2, fun i b' hi => ?_, ?_, ?_⟩
  · by_cases hlt : i < bs.length
    · rw [List.getElem?_append_left hlt] at hi
      obtain ⟨g9, cap, e1, e2⟩ := h.each i b' hi
      exact ⟨g9, cap, by rw [List.getElem?_append_left (by omega)]; exact e1, own_but e2 k2 (fun g' hg' => hold _ (List.mem_of_getElem? e1) g' hg')⟩
    · have hi2 := (List.getElem?_eq_some_iff.1 hi).1
      simp at hi2
      have e0 : i = bs.length := by omega
      subst e0
      rw [List.getElem?_append_right (Nat.le_refl _)] at hi
      simp at hi
      subst hi
      exact ⟨g, c, by rw [← hl, List.getElem?_append_right (Nat.le_refl _)]; simp, hone⟩
  · rw [List.pairwise_append]
    refine ⟨h.apart, List.pairwise_singleton _ _, ?_⟩
    intro x hx y hy
    simp at hy
    subst hy
    intro g' hg e
    have e9 : g = g' := Option.some.inj e
    exact hf x hx g' hg e9.symm
  · intro b' hb'
    rcases List.mem_append.1 hb' with hb' | hb'
    · exact h.u8 b' hb'
    · simp at hb'; subst hb'; exact hu
theorem Bods.lrow {a : Option Addr} {n c : Nat} (h : Bods w base (.slice a n c) bs vals) (hn : bs.length = n) (hb : ∀ b ∈ bs, (b.length : Int) ≤ 140737488355328) : LRow w a n bs := by
  subst hn
  refine ⟨rfl, ?_⟩
  rcases h.own.2 with ⟨_, e⟩ | ⟨g, cap, cur, e, _⟩
  · exact .inl e
  · cases e
    refine .inr ⟨g, 0, rfl, fun i z hz => ?_⟩
    obtain ⟨g9, cap9, h1, h2⟩ := h.each i z hz
    have hc := h.own.cells (g := g) rfl i _ h1
    have ha : (⟨g, 0, none⟩ : Addr).add i = ⟨g, 0 + i, none⟩ := by unfold Addr.add; split <;> simp_all
    rw [ha] at hc
    exact ⟨_, _, hc, own_row_u8 h2 (u8_of_mem (h.u8 z (List.mem_of_getElem? hz))), by simp, Nat.le_refl _, hb z (List.mem_of_getElem? hz)⟩
end
end Go.Proofs.YtdppbaipmmcjbaaDoor
