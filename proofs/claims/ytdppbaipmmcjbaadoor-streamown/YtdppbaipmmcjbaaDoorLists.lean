/-
  Lists of lists of bytes in memory of the call's own.
-/
import Derived.Test.YtdppbaipmmcjbaaDoorBut
namespace Go.Proofs.YtdppbaipmmcjbaaDoor
open Go.RowKit
theorem Tryd.info35 : (Tryd.prog.info? 35).map (fun i => (i.zero, i.size, i.bytes)) = some (some (.slice none 0 0), 1, 24) := by kernel_rfl
/-- 'append(l, b)' of one list in a new cell, l the call's own. -/
theorem append_lst (w : World) {ops : Array Oper} {rest : List Oper} {o : Oper} {a : Act} {Q : Exit → Act → World → Prop} (hgd : o.guard = none) (s x : Operand)
    (ho : o.op = .call { callee := .builtin .append, args := #[s, x], argTypes := #[24, 24] }) (base : Nat)
    (v : Value) (n : Nat) (vals : List Value) (hs : a.eval s = v) (hown : w.ownsRow base 35 1 v n vals)
    (X : Nat) (z : Value) (hx : a.eval x = .slice (some ⟨X, 0, none⟩) 1 1) (hc : w.cell? ⟨X, 0, none⟩ = some z) (h1 : z.oneCell' = true)
    (hb : (n : Int) ≤ 4294967296) (hbase : base ≤ w.heap.size)
    (h : ∀ (a' : Option Addr) (c' : Nat) w', w'.ownsRow base 35 1 (.slice a' (n + 1) c') (n + 1) (vals ++ [z]) → w.grownBy w' v.ownBlock → ((Value.slice a' (n + 1) c').ownBlock = v.ownBlock ∨ (Value.slice a' (n + 1) c').ownBlock = some w.heap.size) → wpList Tryd.prog ops Q rest (a.put o.dst (.slice a' (n + 1) c')) w') : wpList Tryd.prog ops Q (o :: rest) a w := by
  obtain ⟨i0, hi, hz0, hz1, hz2⟩ := info_parts Tryd.info35
  refine wpList_append_own_at w hgd s x 24 ho base 35 i0 (.slice none 0 0) 1 24 Tryd.underlying24 hi hz0 hz1 hz2 rfl (by decide) v n _ hs hown ⟨X, 0, none⟩ 1 1 [z] hx rfl (by intro t u ht; match t, ht with | 0, ht => simp at ht; subst ht; simpa [Addr.add] using hc) (by intro u hu; simp at hu; subst hu; exact h1) (by unfold maxLen; omega) (by omega) hbase ?_
  intro v' w' h1 h2 _ h3
  obtain ⟨a', c', rfl⟩ := own_formL h1
  exact h a' c' w' h1 h2 h3
/-- A list of lists of bytes, all in memory from base on, no two in one row. -/
structure Lists (w : World) (base : Nat) (v : Value) (bs : List (List Int)) (vals : List Value) : Prop where
  own : w.ownsRow base 35 1 v bs.length vals
  each : ∀ (i : Nat) (b : List Int), bs[i]? = some b → ∃ (a : Option Addr) (c : Nat), vals[i]? = some (Value.slice a b.length c) ∧ w.ownsRow base 5 1 (.slice a b.length c) b.length (b.map (Value.int .u8))
  apart : vals.Pairwise (fun x y => ∀ g, x.ownBlock = some g → y.ownBlock ≠ some g)
  u8 : ∀ b ∈ bs, ∀ z ∈ b, 0 ≤ z ∧ z ≤ 255
section
variable {w : World} {base : Nat} {v : Value} {bs : List (List Int)} {vals : List Value}
theorem Lists.nil (w : World) (base : Nat) : Lists w base (.slice none 0 0) [] [] := ⟨World.ownsRow_nil _ _ _ _, fun i b h => by simp at h, List.Pairwise.nil, by simp⟩
theorem Lists.len (h : Lists w base v bs vals) : vals.length = bs.length := by have := h.own.1; simpa using this
theorem Lists.but {S : Nat → Prop} {w' : World} (h : Lists w base v bs vals) (hb : But S w w') (hv : ∀ g, v.ownBlock = some g → ¬ S g) (he : ∀ x ∈ vals, ∀ g, x.ownBlock = some g → ¬ S g) : Lists w' base v bs vals :=
  ⟨own_but h.own hb hv, fun i b hi => by
    obtain ⟨a, c, h1, h2⟩ := h.each i b hi
    exact ⟨a, c, h1, own_but h2 hb (he _ (List.mem_of_getElem? h1))⟩, h.apart, h.u8⟩
theorem Lists.below {w' : World} (h : Lists w base v bs vals) (hb : Below w.heap.size w w') : Lists w' base v bs vals := h.but (S := fun _ => False) (But.of_below hb) (fun _ _ e => e) (fun _ _ _ _ e => e)
theorem own_types {w : World} {base base' n m : Nat} {v u : Value} {xs ys : List Value} {e e' : TypeId} {z z' : Nat} (h : w.ownsRow base e z v n xs) (k : w.ownsRow base' e' z' u m ys) (hne : e ≠ e') : ∀ g, v.ownBlock = some g → u.ownBlock ≠ some g := by
  intro g hg hu
  rcases h.2 with ⟨rfl, _⟩ | ⟨g1, cap, cur, rfl, _, hh, _⟩
  · simp [Value.ownBlock] at hg
  · rcases k.2 with ⟨rfl, _⟩ | ⟨g2, cap2, cur2, rfl, _, hh2, _⟩
    · simp [Value.ownBlock] at hu
    · simp [Value.ownBlock] at hg hu
      subst hg hu
      rw [hh] at hh2; simp at hh2; exact hne hh2.2
theorem Lists.row (h : Lists w base v bs vals) {x : Value} (hx : x ∈ vals) : ∃ b, b ∈ bs ∧ ∃ a c, x = .slice a b.length c ∧ w.ownsRow base 5 1 (.slice a b.length c) b.length (b.map (Value.int .u8)) := by
  obtain ⟨i, hi, rfl⟩ := List.getElem_of_mem hx
  have hl := h.len
  obtain ⟨a, c, h1, h2⟩ := h.each i bs[i] (by simp [← hl, hi])
  refine ⟨bs[i], List.getElem_mem _, a, c, ?_, h2⟩
  rw [List.getElem?_eq_getElem hi] at h1
  exact Option.some.inj h1
theorem Lists.snoc {w1 w2 : World} {b : List Int} {a1 : Option Addr} {c1 : Nat} {a2 : Option Addr} {c2 : Nat} (h : Lists w base v bs vals) (hb1 : Below w.heap.size w w1) (hbase : base ≤ w.heap.size)
    (ho1 : w1.ownsRow w.heap.size 5 1 (.slice a1 b.length c1) b.length (b.map (Value.int .u8))) (hu : ∀ z ∈ b, 0 ≤ z ∧ z ≤ 255)
    (o2 : w2.ownsRow base 35 1 (.slice a2 (bs.length + 1) c2) (bs.length + 1) (vals ++ [.slice a1 b.length c1])) (g2 : (w1.alloc (.cells #[.slice a1 b.length c1] 35)).grownBy w2 v.ownBlock) :
    Lists w2 base (.slice a2 (bs.length + 1) c2) (bs ++ [b]) (vals ++ [.slice a1 b.length c1]) := by
  have hl := h.len
  have h1 := h.below hb1
  have k2 : But (fun k => v.ownBlock = some k) w1 w2 := (But.refl _ w1).alloc _ |>.grown g2 (fun k _ e => e)
  have hone : w2.ownsRow w.heap.size 5 1 (.slice a1 b.length c1) b.length (b.map (Value.int .u8)) := own_but ho1 k2 (fun g hg e => own_types ho1 h1.own (by decide) g hg e)
  have hold : ∀ x ∈ vals, ∀ g, x.ownBlock = some g → ¬ v.ownBlock = some g := by
    intro x hx g hg e
    obtain ⟨b', _, a', c', rfl, ho⟩ := h1.row hx
    exact own_types ho h1.own (by decide) g hg e
  refine ⟨by rw [List.length_append]; exact o2, fun i b' hi => ?_, ?_, ?_⟩
  · by_cases hlt : i < bs.length
    · rw [List.getElem?_append_left hlt] at hi
      obtain ⟨a', c', e1, e2⟩ := h1.each i b' hi
      exact ⟨a', c', by rw [List.getElem?_append_left (by omega)]; exact e1, own_but e2 k2 (hold _ (List.mem_of_getElem? e1))⟩
    · have hi2 := (List.getElem?_eq_some_iff.1 hi).1
      simp at hi2
      have e0 : i = bs.length := by omega
      subst e0
      rw [List.getElem?_append_right (Nat.le_refl _)] at hi
      simp at hi
      subst hi
      exact ⟨a1, c1, by rw [← hl, List.getElem?_append_right (Nat.le_refl _)]; simp, own_mono hone hbase⟩
  · rw [List.pairwise_append]
    refine ⟨h.apart, List.pairwise_singleton _ _, ?_⟩
    intro x hx y hy
    simp at hy
    subst hy
    intro g hg e
    obtain ⟨b', _, a', c', rfl, ho⟩ := h.row hx
    have := (ho.lt g hg).2
    have := (ho1.lt g e).1
    omega
  · intro b' hb'
    rcases List.mem_append.1 hb' with hb' | hb'
    · exact h.u8 b' hb'
    · simp at hb'; subst hb'; exact hu
end
structure LRow (w : World) (a : Option Addr) (n : Nat) (bs : List (List Int)) : Prop where
  len : bs.length = n
  cells : n = 0 ∨ ∃ b off, a = some ⟨b, off, none⟩ ∧ ∀ i z, bs[i]? = some z → ∃ ai ci, w.cell? ⟨b, off + i, none⟩ = some (.slice ai z.length ci) ∧ Row w ai z.length z ∧ (ai = none → z.length = 0) ∧ z.length ≤ ci ∧ (z.length : Int) ≤ 140737488355328
theorem Row.but {S : Nat → Prop} {w w' : World} {a : Option Addr} {n : Nat} {zs : List Int} (h : Row w a n zs) (hb : But S w w') (hd : ∀ x, a = some x → ¬ S x.block) : Row w' a n zs := by
  refine ⟨h.len, h.u8, h.cells.imp id ?_⟩
  rintro ⟨b, off, ha, hc⟩
  refine ⟨b, off, ha, fun i hi => ?_⟩
  rw [World.cell?_of_block (w := w) (hb.block b (World.block_lt_of_cell? w _ (hc i hi)) (hd _ ha))]
  exact hc i hi
theorem LRow.below {w w' : World} {a : Option Addr} {n : Nat} {bs : List (List Int)} (h : LRow w a n bs) (hb : Below w.heap.size w w') : LRow w' a n bs := by
  refine ⟨h.len, h.cells.imp id ?_⟩
  rintro ⟨b, off, ha, hc⟩
  refine ⟨b, off, ha, fun i z hz => ?_⟩
  obtain ⟨ai, ci, h1, h2, h3⟩ := hc i z hz
  exact ⟨ai, ci, (hb.cell (p := ⟨b, off + i, none⟩) (World.block_lt_of_cell? w _ h1)).trans h1, h2.below hb, h3⟩
theorem LRow.at {w : World} {a : Option Addr} {n : Nat} {bs : List (List Int)} (h : LRow w a n bs) {i : Nat} (hi : i < n) : ∃ b off z ai ci, a = some ⟨b, off, none⟩ ∧ bs[i]? = some z ∧ w.cell? ⟨b, off + i, none⟩ = some (.slice ai z.length ci) ∧ Row w ai z.length z ∧ (ai = none → z.length = 0) ∧ z.length ≤ ci ∧ (z.length : Int) ≤ 140737488355328 := by
  have hl := h.len
  rcases h.cells with h0 | ⟨b, off, ha, hc⟩
  · omega
  · have hz : bs[i]? = some bs[i] := by simp [hl, hi]
    obtain ⟨ai, ci, r⟩ := hc i _ hz
    exact ⟨b, off, bs[i], ai, ci, ha, hz, r⟩
theorem Lists.lrow {w : World} {base : Nat} {a : Option Addr} {c : Nat} {bs : List (List Int)} {vals : List Value} (h : Lists w base (.slice a bs.length c) bs vals) (hs : ∀ z ∈ bs, (z.length : Int) ≤ 140737488355328) : LRow w a bs.length bs := by
  refine ⟨rfl, ?_⟩
  rcases h.own.2 with ⟨_, e⟩ | ⟨g, cap, cur, e, _⟩
  · exact .inl e
  · cases e
    refine .inr ⟨g, 0, rfl, fun i z hz => ?_⟩
    obtain ⟨ai, ci, h1, h2⟩ := h.each i z hz
    have := h.own.cells (g := g) rfl i _ h1
    have ha : (⟨g, 0, none⟩ : Addr).add i = ⟨g, 0 + i, none⟩ := by unfold Addr.add; split <;> simp_all
    rw [ha] at this
    refine ⟨ai, ci, this, own_row_u8 h2 (u8_of_mem (h.u8 z (List.mem_of_getElem? hz))), fun e => (own_nil h2 e).1, ?_, hs z (List.mem_of_getElem? hz)⟩
    rcases h2.2 with ⟨e, e0⟩ | ⟨g', cap', cur', e, _, _, hc, _⟩
    · omega
    · cases e; exact hc
theorem own_take {w : World} {base g n m c : Nat} {xs ys : List Value} {e : TypeId} (h : w.ownsRow base e 1 (.slice (some ⟨g, 0, none⟩) (n + m) c) (n + m) (xs ++ ys)) (hx : xs.length = n) : w.ownsRow base e 1 (.slice (some ⟨g, 0, none⟩) n c) n xs := by
  refine ⟨by simpa using hx, .inr ⟨g, c, ?_⟩⟩
  rcases h.2 with ⟨hv', _⟩ | ⟨g', cap', cur', hv', hb', hg', hnc, hcm', hcs', htk'⟩
  · cases hv'
  · cases hv'
    refine ⟨cur', rfl, hb', hg', by omega, hcm', hcs', ?_⟩
    have e : cur'.toList.take (n * 1) = (cur'.toList.take ((n + m) * 1)).take (n * 1) := by rw [List.take_take]; congr 1; omega
    rw [e, htk', Nat.mul_one, List.take_append_of_le_length (by omega), List.take_of_length_le (by omega)]
theorem own_capB {w : World} {base R nn cR : Nat} {xs : List Value} {e : TypeId} (h : w.ownsRow base e 1 (.slice (some ⟨R, 0, none⟩) nn cR) nn xs) : nn ≤ cR ∧ (cR : Int) ≤ 9223372036854775807 := by
  rcases h.2 with ⟨hv, _⟩ | ⟨g, cp, cur, hv, _, _, hc, hm, _⟩
  · cases hv
  · cases hv; unfold maxLen at hm; exact ⟨hc, by omega⟩
/-- 'append(l, b)' of one list in a new cell; where the longer list lies. -/
theorem append_lstC (w : World) {ops : Array Oper} {rest : List Oper} {o : Oper} {a : Act} {Q : Exit → Act → World → Prop} (hgd : o.guard = none) (s x : Operand)
    (ho : o.op = .call { callee := .builtin .append, args := #[s, x], argTypes := #[24, 24] }) (base : Nat)
    (v : Value) (n : Nat) (vals : List Value) (hs : a.eval s = v) (hown : w.ownsRow base 35 1 v n vals)
    (X : Nat) (z : Value) (hx : a.eval x = .slice (some ⟨X, 0, none⟩) 1 1) (hc : w.cell? ⟨X, 0, none⟩ = some z) (h1 : z.oneCell' = true)
    (hb : ((n : Int) + 1) * 24 ≤ 140737488355328) (hbase : base ≤ w.heap.size)
    (h : ∀ (a' : Option Addr) (c' : Nat) w', w'.ownsRow base 35 1 (.slice a' (n + 1) c') (n + 1) (vals ++ [z]) → w.grownBy w' v.ownBlock → ((Value.slice a' (n + 1) c').ownBlock = v.ownBlock ∨ (Value.slice a' (n + 1) c').ownBlock = some w.heap.size) → wpList Tryd.prog ops Q rest (a.put o.dst (.slice a' (n + 1) c')) w') : wpList Tryd.prog ops Q (o :: rest) a w := by
  obtain ⟨i0, hi, hz0, hz1, hz2⟩ := info_parts Tryd.info35
  refine wpList_append_own_at w hgd s x 24 ho base 35 i0 (.slice none 0 0) 1 24 Tryd.underlying24 hi hz0 hz1 hz2 rfl (by decide) v n _ hs hown ⟨X, 0, none⟩ 1 1 [z] hx rfl (by intro t u ht; match t, ht with | 0, ht => simp at ht; subst ht; simpa [Addr.add] using hc) (by intro u hu; simp at hu; subst hu; exact h1) (by unfold maxLen; omega) (by omega) hbase ?_
  intro v' w' h1 h2 _ h4
  obtain ⟨a', c', rfl⟩ := own_formL h1
  exact h a' c' w' h1 h2 h4
/-- 'append(all, l...)'. -/
theorem append_lists (w : World) {ops : Array Oper} {rest : List Oper} {o : Oper} {a : Act} {Q : Exit → Act → World → Prop} (hgd : o.guard = none) (s x : Operand)
    (ho : o.op = .call { callee := .builtin .append, args := #[s, x], argTypes := #[24, 24] }) (base : Nat)
    (v : Value) (n : Nat) (vals : List Value) (hs : a.eval s = v) (hown : w.ownsRow base 35 1 v n vals)
    (g m c base2 : Nat) (news : List Value) (hx : a.eval x = .slice (some ⟨g, 0, none⟩) m c) (hr : w.ownsRow base2 35 1 (.slice (some ⟨g, 0, none⟩) m c) m news) (h1 : ∀ u ∈ news, u.oneCell' = true)
    (hb : ((n : Int) + m) * 24 ≤ 140737488355328) (hbase : base ≤ w.heap.size)
    (h : ∀ (a' : Option Addr) (c' : Nat) w', w'.ownsRow base 35 1 (.slice a' (n + m) c') (n + m) (vals ++ news) → w.grownBy w' v.ownBlock → wpList Tryd.prog ops Q rest (a.put o.dst (.slice a' (n + m) c')) w') : wpList Tryd.prog ops Q (o :: rest) a w := by
  obtain ⟨i0, hi, hz0, hz1, hz2⟩ := info_parts Tryd.info35
  refine wpList_append_own_at w hgd s x 24 ho base 35 i0 (.slice none 0 0) 1 24 Tryd.underlying24 hi hz0 hz1 hz2 rfl (by decide) v n _ hs hown ⟨g, 0, none⟩ m c news hx (by have := hr.1; simpa using this) (hr.cells rfl) h1 (by unfold maxLen; omega) (by omega) hbase ?_
  intro v' w' h1 h2 _ h4
  obtain ⟨a', c', rfl⟩ := own_formL h1
  exact h a' c' w' h1 h2
section
variable {w : World} {base : Nat} {v : Value} {bs : List (List Int)} {vals : List Value}
theorem Lists.one (h : Lists w base v bs vals) : ∀ u ∈ vals, u.oneCell' = true := by
  intro u hu
  obtain ⟨b, _, a, c, rfl, _⟩ := h.row hu
  rfl
theorem Lists.far (h : Lists w base v bs vals) {i j : Nat} {x y : Value} (hi : vals[i]? = some x) (hj : vals[j]? = some y) (hij : i ≠ j) : ∀ g, x.ownBlock = some g → y.ownBlock ≠ some g := by
  have hp := List.pairwise_iff_getElem.1 h.apart
  obtain ⟨hi', rfl⟩ := List.getElem?_eq_some_iff.1 hi
  obtain ⟨hj', rfl⟩ := List.getElem?_eq_some_iff.1 hj
  intro g hg hy
  rcases Nat.lt_or_gt_of_ne hij with h1 | h1
  · exact hp i j hi' hj' h1 g hg hy
  · exact hp j i hj' hi' h1 g hy hg
theorem Lists.mono {base' : Nat} (h : Lists w base v bs vals) (hb : base' ≤ base) : Lists w base' v bs vals :=
  ⟨own_mono h.own hb, fun i b hi => by obtain ⟨a, c, h1, h2⟩ := h.each i b hi; exact ⟨a, c, h1, own_mono h2 hb⟩, h.apart, h.u8⟩
theorem Lists.blocks (h : Lists w base v bs vals) : ∀ x ∈ vals, ∀ g, x.ownBlock = some g → base ≤ g ∧ g < w.heap.size := by
  intro x hx g hg
  obtain ⟨b, _, a, c, rfl, ho⟩ := h.row hx
  exact ho.lt g hg
theorem Lists.caps {a : Option Addr} {n c : Nat} (h : Lists w base (.slice a n c) bs vals) : ∀ i, i < bs.length → ∀ b off ai li ci, a = some ⟨b, off, none⟩ → w.cell? ⟨b, off + i, none⟩ = some (.slice ai li ci) → ai = none → ci = 0 := by
  intro i hi b off ai li ci ea hc hn
  subst hn
  rcases h.own.2 with ⟨_, e⟩ | ⟨gg, cap, cur, e, _⟩
  · omega
  · cases e
    cases ea
    obtain ⟨a', c', h1, h2⟩ := h.each i bs[i] (by simp [hi])
    have hc' := h.own.cells (g := b) rfl i _ h1
    have ha : (⟨b, 0, none⟩ : Addr).add i = ⟨b, 0 + i, none⟩ := by unfold Addr.add; split <;> simp_all
    rw [ha, hc] at hc'
    cases hc'
    rcases h2.2 with ⟨e, _⟩ | ⟨_, _, _, e, _⟩
    · exact (Value.slice.inj e).2.2
    · exact absurd (Value.slice.inj e).1 (by simp)
/-- A store into one of the lists. -/
theorem Lists.store (h : Lists w base v bs vals) {i g c k : Nat} {b : List Int} (hi : bs[i]? = some b) (hv : vals[i]? = some (.slice (some ⟨g, 0, none⟩) b.length c)) (z : Int) (hz : 0 ≤ z ∧ z ≤ 255) :
    Lists (w.setCell ⟨g, k, none⟩ (.int .u8 z)) base v (bs.set i (b.set k z)) vals := by
  have hrow : w.ownsRow base 5 1 (.slice (some ⟨g, 0, none⟩) b.length c) b.length (b.map (Value.int .u8)) := by
    obtain ⟨a, c', h1, h2⟩ := h.each i b hi
    rw [hv] at h1; cases h1; exact h2
  refine ⟨?_, fun j b' hj => ?_, h.apart, ?_⟩
  · rw [List.length_set]
    exact ownsRow_setCell_other h.own (fun e => own_types h.own hrow (by decide) g e rfl) _
  · by_cases e : i = j
    · subst e
      have hlt := (List.getElem?_eq_some_iff.1 hi).1
      rw [List.getElem?_set_self hlt] at hj
      cases hj
      rw [List.length_set, List.map_set]
      exact ⟨_, c, hv, (hrow.stored k _).1⟩
    · rw [List.getElem?_set_ne e] at hj
      obtain ⟨a, c', h1, h2⟩ := h.each j b' hj
      exact ⟨a, c', h1, ownsRow_setCell_other h2 (fun e' => h.far h1 hv (fun e2 => e e2.symm) g e' rfl) _⟩
  · intro b' hb' y hy
    rcases List.mem_or_eq_of_mem_set hb' with h1 | h1
    · exact h.u8 b' h1 y hy
    · subst h1
      rcases List.mem_or_eq_of_mem_set hy with h2 | h2
      · exact h.u8 b (List.mem_of_getElem? hi) y h2
      · subst h2; exact hz
/-- Two lists of lists, one behind the other. -/
theorem Lists.join {u r : Value} {cs : List (List Int)} {us : List Value} (h : Lists w base v bs vals) (k : Lists w base u cs us) {p : Nat} (h1 : ∀ x ∈ vals, ∀ g, x.ownBlock = some g → g < p) (h2 : ∀ x ∈ us, ∀ g, x.ownBlock = some g → p ≤ g)
    (ho : w.ownsRow base 35 1 r (bs.length + cs.length) (vals ++ us)) : Lists w base r (bs ++ cs) (vals ++ us) := by
  have hl := h.len
  refine ⟨by rw [List.length_append]; exact ho, fun i b hi => ?_, List.pairwise_append.2 ⟨h.apart, k.apart, fun x hx y hy g e e' => ?_⟩, fun b hb => ?_⟩
  · by_cases hlt : i < bs.length
    · rw [List.getElem?_append_left hlt] at hi
      rw [List.getElem?_append_left (by omega)]
      exact h.each i b hi
    · rw [List.getElem?_append_right (by omega)] at hi
      rw [List.getElem?_append_right (by omega), hl]
      exact k.each _ b hi
  · have := h1 x hx g e
    have := h2 y hy g e'
    omega
  · rcases List.mem_append.1 hb with e | e
    · exact h.u8 b e
    · exact k.u8 b e
end
theorem own_someL {w : World} {base : Nat} {a : Option Addr} {n c : Nat} {xs : List Value} {e : TypeId} (h : w.ownsRow base e 1 (.slice a n c) n xs) (hn : 0 < n) : ∃ g, a = some ⟨g, 0, none⟩ := by
  rcases h.2 with ⟨_, e⟩ | ⟨g, cap, cur, e, _⟩
  · omega
  · cases e; exact ⟨g, rfl⟩
/-- Lists whose bytes are written over. -/
structure Ovb (w3 wr : World) (base : Nat) (v : Value) (bs : List (List Int)) (vals : List Value) : Prop where
  ls : ∃ cs, Lists wr base v cs vals ∧ cs.map List.length = bs.map List.length
  but : But (fun g => ∃ x ∈ vals, x.ownBlock = some g) w3 wr
theorem Ovb.start {w : World} {base : Nat} {v : Value} {bs : List (List Int)} {vals : List Value} (h : Lists w base v bs vals) : Ovb w w base v bs vals := ⟨⟨bs, h, rfl⟩, But.refl _ _⟩
theorem Ovb.row {w3 wr : World} {base : Nat} {a : Option Addr} {n c : Nat} {bs : List (List Int)} {vals : List Value} (h : Ovb w3 wr base (.slice a n c) bs vals) {i : Nat} {b : List Int} (hi : bs[i]? = some b) :
    ∃ g ab cb, a = some ⟨g, 0, none⟩ ∧ b.length ≤ cb ∧ vals[i]? = some (.slice ab b.length cb) ∧ wr.cell? ⟨g, i, none⟩ = some (.slice ab b.length cb) := by
  obtain ⟨cs, hl, he⟩ := h.ls
  have hlen : cs.length = bs.length := by have := congrArg List.length he; simpa using this
  have hib := (List.getElem?_eq_some_iff.1 hi).1
  have hci : cs[i]? = some cs[i] := by simp
  have hlb : cs[i].length = b.length := by
    have e1 : (cs.map List.length)[i]? = (bs.map List.length)[i]? := by rw [he]
    rw [List.getElem?_map, List.getElem?_map, hci, hi] at e1
    simpa using e1
  obtain ⟨ab, cb, h1, h2⟩ := hl.each i _ hci
  rcases hl.own.2 with ⟨_, e⟩ | ⟨g, cap, cur, e, _⟩
  · omega
  · cases e
    have := hl.own.cells (g := g) rfl i _ h1
    have ha : (⟨g, 0, none⟩ : Addr).add i = ⟨g, i, none⟩ := by unfold Addr.add; split <;> simp_all
    rw [ha] at this
    rw [hlb] at h1 h2 this
    refine ⟨g, ab, cb, rfl, ?_, h1, this⟩
    rcases h2.2 with ⟨e, e0⟩ | ⟨g', cap, cur, e, _, _, h3, _⟩
    · omega
    · cases e; omega
theorem Ovb.at {w3 wr : World} {base : Nat} {v : Value} {bs : List (List Int)} {vals : List Value} (h : Ovb w3 wr base v bs vals) {i : Nat} {b : List Int} (hi : bs[i]? = some b) {ab : Option Addr} {cb : Nat} (hv : vals[i]? = some (.slice ab b.length cb)) {j : Nat} (hj : j < b.length) :
    ∃ g2 z, ab = some ⟨g2, 0, none⟩ ∧ 0 ≤ z ∧ z ≤ 255 ∧ wr.cell? ⟨g2, j, none⟩ = some (.int .u8 z) ∧ wr.frozen? ⟨g2, j, none⟩ = false ∧ ∀ y, 0 ≤ y ∧ y ≤ 255 → Ovb w3 (wr.setCell ⟨g2, j, none⟩ (.int .u8 y)) base v bs vals := by
  obtain ⟨cs, hl, he⟩ := h.ls
  have hlen : cs.length = bs.length := by have := congrArg List.length he; simpa using this
  have hib := (List.getElem?_eq_some_iff.1 hi).1
  have hci : cs[i]? = some cs[i] := by simp
  have hlb : cs[i].length = b.length := by
    have e1 : (cs.map List.length)[i]? = (bs.map List.length)[i]? := by rw [he]
    rw [List.getElem?_map, List.getElem?_map, hci, hi] at e1
    simpa using e1
  obtain ⟨ab', cb', h1, h2⟩ := hl.each i _ hci
  rw [hv, hlb] at h1
  cases h1
  obtain ⟨g2, rfl⟩ : ∃ g2, ab = some ⟨g2, 0, none⟩ := own_someL h2 (by omega)
  have hz := hl.u8 _ (List.mem_of_getElem? hci) (cs[i][j]'(by omega)) (List.getElem_mem _)
  refine ⟨g2, cs[i][j]'(by omega), rfl, hz.1, hz.2, ?_, h2.frozenAt j, fun y hy => ⟨⟨_, hl.store (k := j) hci (by rw [hlb]; exact hv) y hy, ?_⟩, h.but.setCell ⟨g2, j, none⟩ (fun _ => ⟨_, List.mem_of_getElem? hv, rfl⟩) _⟩⟩
  · rw [h2.cellAt j (by omega)]
    simp [hlb, hj]
  · rw [List.map_set, List.length_set, ← he]
    apply List.ext_getElem?
    intro q
    by_cases e : i = q
    · subst e
      rw [List.getElem?_set_self (by simp; omega), List.getElem?_map, hci]; rfl
    · rw [List.getElem?_set_ne e]
theorem Ovb.drew {w3 wr : World} {base : Nat} {v : Value} {bs : List (List Int)} {vals : List Value} (h : Ovb w3 wr base v bs vals) : Ovb w3 wr.drew base v bs vals := by
  obtain ⟨cs, hl, he⟩ := h.ls
  exact ⟨⟨cs, hl.below ((Below.refl _ wr).drew), he⟩, h.but.drew⟩
end Go.Proofs.YtdppbaipmmcjbaaDoor
