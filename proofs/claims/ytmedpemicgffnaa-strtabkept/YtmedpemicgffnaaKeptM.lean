/-
  Lists with marks behind them; lists that are put together.
-/
import Derived.Test.YtmedpemicgffnaaApart
import Derived.Test.YtmedpemicgffnaaKTab
namespace Go.Proofs.Ytmedpemicgffnaa
open Go.RowKit Go.Maps
theorem Cutting.len {L : List ByteArray} {lim : Nat} (hl : L.length ≤ 65536) (ht : total L ≤ 4194304) (hs : ∀ s ∈ L, s.size ≤ 65536) {bs : List (List Int)} {first : Nat} (h : Cutting L lim first bs) : ∀ z ∈ bs, z.length ≤ 10000000 := by
  induction bs generalizing first with
  | nil => simp
  | cons b bs ih =>
    obtain ⟨cnt, hc, hb, h3⟩ := h
    intro z hz
    rcases List.mem_cons.1 hz with e | e
    · subst e
      rw [hb]
      exact bodyOf_len (L := L) (first := first) (by have := hc.le; omega) hl ht hs cnt
    · exact ih h3 z e
theorem Cutting.ne {L : List ByteArray} {lim : Nat} {bs : List (List Int)} (h : Cutting L lim 0 bs) (hL : 0 < L.length) : 0 < bs.length := by
  cases bs with
  | nil => have e : 0 = L.length := h; omega
  | cons b bs => simp
/-- The beginning of a list that a call owns. -/
theorem own_take {w : World} {base g n m c : Nat} {xs ys : List Value} {e : TypeId} (h : w.ownsRow base e 1 (.slice (some ⟨g, 0, none⟩) (n + m) c) (n + m) (xs ++ ys)) (hx : xs.length = n) : w.ownsRow base e 1 (.slice (some ⟨g, 0, none⟩) n c) n xs := by
  refine ⟨by simpa using hx, .inr ⟨g, c, ?_⟩⟩
  rcases h.2 with ⟨hv', _⟩ | ⟨g', cap', cur', hv', hb', hg', hnc, hcm', hcs', htk'⟩
  · cases hv'
  · cases hv'
    refine ⟨cur', rfl, hb', hg', by omega, hcm', hcs', ?_⟩
    have e : cur'.toList.take (n * 1) = (cur'.toList.take ((n + m) * 1)).take (n * 1) := by rw [List.take_take]; congr 1; omega
    rw [e, htk', Nat.mul_one, List.take_append_of_le_length (by omega), List.take_of_length_le (by omega)]
theorem own_capB {w : World} {base R nn cR : Nat} {xs : List Value} {e : TypeId} (h : w.ownsRow base e 1 (.slice (some ⟨R, 0, none⟩) nn cR) nn xs) : nn ≤ cR ∧ (cR : Int) ≤ 9223372036854775807 := by
  rcases h.2 with ⟨hv, _⟩ | ⟨g, cp, cur, hv, _, _, hc, hm, _⟩
  · cases hv
  · cases hv; unfold maxLen at hm; exact ⟨hc, by omega⟩
/-- 'append(l, b)' of one list in a new cell; where the longer list lies. -/
theorem append_lstC (w : World) {ops : Array Oper} {rest : List Oper} {o : Oper} {a : Act} {Q : Exit → Act → World → Prop} (hgd : o.guard = none) (s x : Operand)
    (ho : o.op = .call { callee := .builtin .append, args := #[s, x], argTypes := #[38, 38] }) (base : Nat)
    (v : Value) (n : Nat) (vals : List Value) (hs : a.eval s = v) (hown : w.ownsRow base 34 1 v n vals)
    (X : Nat) (z : Value) (hx : a.eval x = .slice (some ⟨X, 0, none⟩) 1 1) (hc : w.cell? ⟨X, 0, none⟩ = some z) (h1 : z.oneCell' = true)
    (hb : ((n : Int) + 1) * 24 ≤ 140737488355328) (hbase : base ≤ w.heap.size)
    (h : ∀ (a' : Option Addr) (c' : Nat) w', w'.ownsRow base 34 1 (.slice a' (n + 1) c') (n + 1) (vals ++ [z]) → w.grownBy w' v.ownBlock → ((Value.slice a' (n + 1) c').ownBlock = v.ownBlock ∨ (Value.slice a' (n + 1) c').ownBlock = some w.heap.size) → wpList Try.prog ops Q rest (a.put o.dst (.slice a' (n + 1) c')) w') : wpList Try.prog ops Q (o :: rest) a w := by
  obtain ⟨i0, hi, hz0, hz1, hz2⟩ := info_parts Try.info34
  refine wpList_append_own_at w hgd s x 38 ho base 34 i0 (.slice none 0 0) 1 24 Try.underlying38 hi hz0 hz1 hz2 rfl (by decide) v n _ hs hown ⟨X, 0, none⟩ 1 1 [z] hx rfl (by intro t u ht; match t, ht with | 0, ht => simp at ht; subst ht; simpa [Addr.add] using hc) (by intro u hu; simp at hu; subst hu; exact h1) (by unfold maxLen; omega) (by omega) hbase ?_
  intro v' w' h1 h2 _ h4
  obtain ⟨a', c', rfl⟩ := own_form h1
  exact h a' c' w' h1 h2 h4
/-- 'append(all, l...)'. -/
theorem append_lists (w : World) {ops : Array Oper} {rest : List Oper} {o : Oper} {a : Act} {Q : Exit → Act → World → Prop} (hgd : o.guard = none) (s x : Operand)
    (ho : o.op = .call { callee := .builtin .append, args := #[s, x], argTypes := #[38, 38] }) (base : Nat)
    (v : Value) (n : Nat) (vals : List Value) (hs : a.eval s = v) (hown : w.ownsRow base 34 1 v n vals)
    (g m c base2 : Nat) (news : List Value) (hx : a.eval x = .slice (some ⟨g, 0, none⟩) m c) (hr : w.ownsRow base2 34 1 (.slice (some ⟨g, 0, none⟩) m c) m news) (h1 : ∀ u ∈ news, u.oneCell' = true)
    (hb : ((n : Int) + m) * 24 ≤ 140737488355328) (hbase : base ≤ w.heap.size)
    (h : ∀ (a' : Option Addr) (c' : Nat) w', w'.ownsRow base 34 1 (.slice a' (n + m) c') (n + m) (vals ++ news) → w.grownBy w' v.ownBlock → wpList Try.prog ops Q rest (a.put o.dst (.slice a' (n + m) c')) w') : wpList Try.prog ops Q (o :: rest) a w := by
  obtain ⟨i0, hi, hz0, hz1, hz2⟩ := info_parts Try.info34
  refine wpList_append_own_at w hgd s x 38 ho base 34 i0 (.slice none 0 0) 1 24 Try.underlying38 hi hz0 hz1 hz2 rfl (by decide) v n _ hs hown ⟨g, 0, none⟩ m c news hx (by have := hr.1; simpa using this) (hr.cells rfl) h1 (by unfold maxLen; omega) (by omega) hbase ?_
  intro v' w' h1 h2 _ h4
  obtain ⟨a', c', rfl⟩ := own_form h1
  exact h a' c' w' h1 h2
section
variable {w : World} {base : Nat} {v : Value} {bs : List (List Int)} {vals : List Value}
theorem Lists.one (h : Lists w base v bs vals) : ∀ u ∈ vals, u.oneCell' = true := by
  intro u hu
  obtain ⟨b, _, a, c, rfl, _⟩ := h.row hu
  rfl
theorem Lists.far (h : Lists w base v bs vals) {i j : Nat} {x y : Value} (hi : vals[i]? = some x) (hj : vals[j]? = some y) (hij : i ≠ j) : ∀ g, x.ownBlock = some g → y.ownBlock ≠ some g := by
  have hp := List.pairwise_iff_getElem.1 h.apart
  obtain ⟨hi', rfl⟩ := List.getElem?_eq_some_iff.1 hi
  obtain ⟨hj', rfl⟩ := List.getElem?_eq_some_iff.1 hj
  intro g hg hy
  rcases Nat.lt_or_gt_of_ne hij with h1 | h1
  · exact hp i j hi' hj' h1 g hg hy
  · exact hp j i hj' hi' h1 g hy hg
theorem Lists.mono {base' : Nat} (h : Lists w base v bs vals) (hb : base' ≤ base) : Lists w base' v bs vals :=
  ⟨own_mono h.own hb, fun i b hi => by obtain ⟨a, c, h1, h2⟩ := h.each i b hi; exact ⟨a, c, h1, own_mono h2 hb⟩, h.apart, h.u8⟩
theorem Lists.blocks (h : Lists w base v bs vals) : ∀ x ∈ vals, ∀ g, x.ownBlock = some g → base ≤ g ∧ g < w.heap.size := by
  intro x hx g hg
  obtain ⟨b, _, a, c, rfl, ho⟩ := h.row hx
  exact ho.lt g hg
theorem Lists.caps {a : Option Addr} {n c : Nat} (h : Lists w base (.slice a n c) bs vals) : ∀ i, i < bs.length → ∀ b off ai li ci, a = some ⟨b, off, none⟩ → w.cell? ⟨b, off + i, none⟩ = some (.slice ai li ci) → ai = none → ci = 0 := by
  intro i hi b off ai li ci ea hc hn
  subst hn
  rcases h.own.2 with ⟨_, e⟩ | ⟨gg, cap, cur, e, _⟩
  · omega
  · cases e
    cases ea
    obtain ⟨a', c', h1, h2⟩ := h.each i bs[i] (by simp [hi])
    have hc' := h.own.cells (g := b) rfl i _ h1
    have ha : (⟨b, 0, none⟩ : Addr).add i = ⟨b, 0 + i, none⟩ := by unfold Addr.add; split <;> simp_all
    rw [ha, hc] at hc'
    cases hc'
    rcases h2.2 with ⟨e, _⟩ | ⟨_, _, _, e, _⟩
    · exact (Value.slice.inj e).2.2
    · exact absurd (Value.slice.inj e).1 (by simp)
/-- A store into one of the lists. -/
theorem Lists.store (h : Lists w base v bs vals) {i g c k : Nat} {b : List Int} (hi : bs[i]? = some b) (hv : vals[i]? = some (.slice (some ⟨g, 0, none⟩) b.length c)) (z : Int) (hz : 0 ≤ z ∧ z ≤ 255) :
    Lists (w.setCell ⟨g, k, none⟩ (.int .u8 z)) base v (bs.set i (b.set k z)) vals := by
  have hrow : w.ownsRow base 5 1 (.slice (some ⟨g, 0, none⟩) b.length c) b.length (b.map (Value.int .u8)) := by
    obtain ⟨a, c', h1, h2⟩ := h.each i b hi
    rw [hv] at h1; cases h1; exact h2
  refine ⟨?_, fun j b' hj => ?_, h.apart, ?_⟩
  · rw [List.length_set]
    exact ownsRow_setCell_other h.own (fun e => own_types h.own hrow (by decide) g e rfl) _
  · by_cases e : i = j
    · subst e
      have hlt := (List.getElem?_eq_some_iff.1 hi).1
      rw [List.getElem?_set_self hlt] at hj
      cases hj
      rw [List.length_set, List.map_set]
      exact ⟨_, c, hv, (hrow.stored k _).1⟩
    · rw [List.getElem?_set_ne e] at hj
      obtain ⟨a, c', h1, h2⟩ := h.each j b' hj
      exact ⟨a, c', h1, ownsRow_setCell_other h2 (fun e' => h.far h1 hv (fun e2 => e e2.symm) g e' rfl) _⟩
  · intro b' hb' y hy
    rcases List.mem_or_eq_of_mem_set hb' with h1 | h1
    · exact h.u8 b' h1 y hy
    · subst h1
      rcases List.mem_or_eq_of_mem_set hy with h2 | h2
      · exact h.u8 b (List.mem_of_getElem? hi) y h2
      · subst h2; exact hz
/-- Two lists of lists, one behind the other. -/
theorem Lists.join {u r : Value} {cs : List (List Int)} {us : List Value} (h : Lists w base v bs vals) (k : Lists w base u cs us) {p : Nat} (h1 : ∀ x ∈ vals, ∀ g, x.ownBlock = some g → g < p) (h2 : ∀ x ∈ us, ∀ g, x.ownBlock = some g → p ≤ g)
    (ho : w.ownsRow base 34 1 r (bs.length + cs.length) (vals ++ us)) : Lists w base r (bs ++ cs) (vals ++ us) := by
  have hl := h.len
  refine ⟨by rw [List.length_append]; exact ho, fun i b hi => ?_, List.pairwise_append.2 ⟨h.apart, k.apart, fun x hx y hy g e e' => ?_⟩, fun b hb => ?_⟩
  · by_cases hlt : i < bs.length
    · rw [List.getElem?_append_left hlt] at hi
      rw [List.getElem?_append_left (by omega)]
      exact h.each i b hi
    · rw [List.getElem?_append_right (by omega)] at hi
      rw [List.getElem?_append_right (by omega), hl]
      exact k.each _ b hi
  · have := h1 x hx g e
    have := h2 y hy g e'
    omega
  · rcases List.mem_append.1 hb with e | e
    · exact h.u8 b e
    · exact k.u8 b e
/-- As a family. -/
theorem Lists.many {A c : Nat} (h : Lists w base (.slice (some ⟨A, 0, none⟩) bs.length c) bs vals) :
    Many w base A c bs.length (fun i => vals.getD i undef) (fun i => (bs.getD i []).length) (fun i => bs.getD i []) := by
  have hl := h.len
  refine ⟨?_, fun i hi => ?_, fun i j hi hj hij => ?_⟩
  · have e : (List.range bs.length).map (fun i => vals.getD i undef) = vals := by
      apply List.ext_getElem
      · simp [hl]
      · intro i h1 h2
        simp [h2]
    rw [e]; exact h.own
  · obtain ⟨a, c', h1, h2⟩ := h.each i (bs.getD i []) (by simp [hi])
    show w.ownsRow base 5 1 (vals.getD i undef) _ _
    rw [List.getD_eq_getElem?_getD, h1]
    exact h2
  · show (vals.getD i undef).ownBlock = none ∨ (vals.getD i undef).ownBlock ≠ (vals.getD j undef).ownBlock
    cases hq : (vals.getD i undef).ownBlock with
    | none => exact .inl rfl
    | some g =>
      right
      intro e
      exact h.far (i := i) (j := j) (x := vals.getD i undef) (y := vals.getD j undef) (by simp [hl, hi]) (by simp [hl, hj]) hij g hq e.symm
end
def mkd (z : List Int) : List Int := z ++ [201, 202, 203]
theorem mkd_len (z : List Int) : (mkd z).length = z.length + 3 := by simp [mkd]
def cutV : Value → Value
  | .slice a n c => .slice a (n - 3) c
  | v => v
/-- Lists with marks, and a list of their beginnings. -/
structure Rms (w : World) (B : Nat) (ar : Option Addr) (cr : Nat) (ag : Option Addr) (cg : Nat) (n : Nat) (cs : List (List Int)) (vals : List Value) : Prop where
  len : cs.length = n
  rooms : Lists w B (.slice ar n cr) cs vals
  given : w.ownsRow B 34 1 (.slice ag n cg) n (vals.map cutV)
  apart : ∀ g, (Value.slice ar n cr).ownBlock = some g → (Value.slice ag n cg).ownBlock ≠ some g
theorem Rms.nil (w : World) (B : Nat) : Rms w B none 0 none 0 0 [] [] := ⟨rfl, Lists.nil w B, World.ownsRow_nil _ _ _ _, fun g e => by simp [Value.ownBlock] at e⟩
section
variable {w : World} {B : Nat} {ar : Option Addr} {cr : Nat} {ag : Option Addr} {cg : Nat} {n : Nat} {cs : List (List Int)} {vals : List Value}
theorem Rms.mid (h : Rms w B ar cr ag cg n cs vals) {w2 w3 : World} (hb : Below w.heap.size w w2) {o : Obj} (g3 : (w2.alloc o).grownBy w3 (Value.slice ar n cr).ownBlock) : w3.ownsRow B 34 1 (.slice ag n cg) n (vals.map cutV) := by
  have k3 : But (fun k => (Value.slice ar n cr).ownBlock = some k) w w3 := ((But.of_below (S := fun k => (Value.slice ar n cr).ownBlock = some k) hb).alloc _).grown g3 (fun k _ e => e)
  exact own_but h.given k3 (fun g e e' => h.apart g e' e)
theorem Rms.snoc (h : Rms w B ar cr ag cg n cs vals) (hB : B ≤ w.heap.size) {w2 w3 w4 : World} {z : List Int} {g c : Nat} {ar' ag' : Option Addr} {cr' cg' : Nat} (hb : Below w.heap.size w w2)
    (ho : w2.ownsRow w.heap.size 5 1 (.slice (some ⟨g, 0, none⟩) (z.length + 3) c) (z.length + 3) ((mkd z).map (Value.int .u8))) (hu : ∀ y ∈ z, 0 ≤ y ∧ y ≤ 255)
    (o3 : w3.ownsRow B 34 1 (.slice ar' (n + 1) cr') (n + 1) (vals ++ [.slice (some ⟨g, 0, none⟩) (z.length + 3) c])) (g3 : (w2.alloc (.cells #[.slice (some ⟨g, 0, none⟩) (z.length + 3) c] 34)).grownBy w3 (Value.slice ar n cr).ownBlock)
    (l3 : (Value.slice ar' (n + 1) cr').ownBlock = (Value.slice ar n cr).ownBlock ∨ (Value.slice ar' (n + 1) cr').ownBlock = some (w2.alloc (.cells #[.slice (some ⟨g, 0, none⟩) (z.length + 3) c] 34)).heap.size)
    (o4 : w4.ownsRow B 34 1 (.slice ag' (n + 1) cg') (n + 1) (vals.map cutV ++ [.slice (some ⟨g, 0, none⟩) z.length c])) (g4 : (w3.alloc (.cells #[.slice (some ⟨g, 0, none⟩) z.length c] 34)).grownBy w4 (Value.slice ag n cg).ownBlock)
    (l4 : (Value.slice ag' (n + 1) cg').ownBlock = (Value.slice ag n cg).ownBlock ∨ (Value.slice ag' (n + 1) cg').ownBlock = some (w3.alloc (.cells #[.slice (some ⟨g, 0, none⟩) z.length c] 34)).heap.size) :
    Rms w4 B ar' cr' ag' cg' (n + 1) (cs ++ [mkd z]) (vals ++ [.slice (some ⟨g, 0, none⟩) (z.length + 3) c]) ∧ Below B w w4 := by
  have hl := h.len
  have hs2 := hb.size
  have hs3 := g3.size
  have hs4 := g4.size
  simp at hs3 hs4
  have hL3 : Lists w3 B (.slice ar' (n + 1) cr') (cs ++ [mkd z]) (vals ++ [.slice (some ⟨g, 0, none⟩) (z.length + 3) c]) := by
    have hr : Lists w B (.slice ar cs.length cr) cs vals := by rw [hl]; exact h.rooms
    have hm := mkd_len z
    have := hr.snoc (b := mkd z) (a1 := some ⟨g, 0, none⟩) (c1 := c) (a2 := ar') (c2 := cr') (w1 := w2) (w2 := w3) hb hB (by rw [hm]; exact ho) (by
      intro y hy
      rcases List.mem_append.1 hy with e | e
      · exact hu y e
      · simp at e; omega) (by rw [hm, hl]; exact o3) (by rw [hm, hl]; exact g3)
    rw [hm, hl] at this
    exact this
  have k4 : But (fun k => (Value.slice ag n cg).ownBlock = some k) w3 w4 := ((But.refl _ w3).alloc _).grown g4 (fun k _ e => e)
  have hG3 := h.mid hb g3
  have hne : ∀ q, (Value.slice ar' (n + 1) cr').ownBlock = some q → (Value.slice ag n cg).ownBlock ≠ some q := by
    intro q hq e
    rcases l3 with e1 | e1
    · rw [hq] at e1
      exact h.apart q e1.symm e
    · rw [hq] at e1
      have := (h.given.lt q e).2
      simp at e1
      omega
  refine ⟨⟨by simp [hl], hL3.but k4 hne ?_, by simpa [cutV] using o4, ?_⟩, ?_⟩
  · intro x hx q hq e
    obtain ⟨b, _, a, c', rfl, hx'⟩ := hL3.row hx
    exact own_types hx' hG3 (by decide) q hq e
  · intro q hq e
    rcases l4 with e1 | e1
    · rw [e] at e1
      exact hne q hq e1.symm
    · rw [e] at e1
      have := (hL3.own.lt q (by simpa using hq)).2
      simp at e1
      omega
  · have b3 : Below B w w3 := ((hb.mono hB).alloc (Nat.le_trans hB hs2) _).grown g3 (by simp; omega) (fun k hk => (h.rooms.own.lt k (by simpa [hl] using hk)).1)
    exact (b3.alloc (Nat.le_trans hB b3.size) _).grown g4 (by simp; have := b3.size; omega) (fun k hk => (h.given.lt k hk).1)
theorem Rms.but (h : Rms w B ar cr ag cg n cs vals) {w' : World} {S : Nat → Prop} (hb : But S w w') (hS : ∀ k, S k → k < B) : Rms w' B ar cr ag cg n cs vals := by
  refine ⟨h.len, h.rooms.but hb ?_ ?_, own_but h.given hb ?_, h.apart⟩
  · intro g hg e
    have h0 := h.rooms.own
    have := hS g e
    have := (h0.lt g hg).1
    omega
  · intro x hx g hg e
    have := h.rooms.blocks x hx g hg
    have := hS g e
    omega
  · intro g hg e
    have := (h.given.lt g hg).1
    have := hS g e
    omega
/-- The i-th list with marks. -/
theorem Rms.at (h : Rms w B ar cr ag cg n cs vals) {i : Nat} {b : List Int} (hi : cs[i]? = some b) (h3 : 3 ≤ b.length) :
    ∃ gr g c, ar = some ⟨gr, 0, none⟩ ∧ vals[i]? = some (.slice (some ⟨g, 0, none⟩) b.length c) ∧ w.cell? ⟨gr, i, none⟩ = some (.slice (some ⟨g, 0, none⟩) b.length c) ∧ w.ownsRow B 5 1 (.slice (some ⟨g, 0, none⟩) b.length c) b.length (b.map (Value.int .u8)) := by
  obtain ⟨ab, cb, h1, h2⟩ := h.rooms.each i b hi
  have hl := h.len
  have hlt := (List.getElem?_eq_some_iff.1 hi).1
  obtain ⟨g, rfl⟩ : ∃ g, ab = some ⟨g, 0, none⟩ := by
    rcases h2.2 with ⟨_, e⟩ | ⟨g, cap, cur, e, _⟩
    · omega
    · cases e; exact ⟨g, rfl⟩
  rcases h.rooms.own.2 with ⟨_, e⟩ | ⟨gr, cap, cur, e, _⟩
  · omega
  · cases e
    have hc := h.rooms.own.cells (g := gr) rfl i _ h1
    have ha : (⟨gr, 0, none⟩ : Addr).add i = ⟨gr, i, none⟩ := by unfold Addr.add; split <;> simp_all
    rw [ha] at hc
    exact ⟨gr, g, cb, rfl, h1, hc, h2⟩
/-- The beginnings, as lists. -/
theorem Rms.lrow (h : Rms w B ar cr ag cg n cs vals) (h3 : ∀ b ∈ cs, 3 ≤ b.length) (hs : ∀ b ∈ cs, b.length ≤ 20000000) : LRow w ag n (cs.map fun b => b.take (b.length - 3)) := by
  refine ⟨by simp [h.len], ?_⟩
  by_cases h0 : n = 0
  · exact .inl h0
  · right
    rcases h.given.2 with ⟨_, e⟩ | ⟨gg, cap, cur, e, _⟩
    · omega
    · cases e
      refine ⟨gg, 0, rfl, fun i z hz => ?_⟩
      rw [List.getElem?_map, Option.map_eq_some_iff] at hz
      obtain ⟨b, hb, rfl⟩ := hz
      have hmem := List.mem_of_getElem? hb
      obtain ⟨gr, g, c, _, hv, _, ho⟩ := h.at hb (h3 b hmem)
      have hc := h.given.cells (g := gg) rfl i (.slice (some ⟨g, 0, none⟩) (b.length - 3) c) (by rw [List.getElem?_map, hv]; rfl)
      have ha : (⟨gg, 0, none⟩ : Addr).add i = ⟨gg, 0 + i, none⟩ := by unfold Addr.add; split <;> simp_all
      rw [ha] at hc
      have hlt : (b.take (b.length - 3)).length = b.length - 3 := by rw [List.length_take]; omega
      have hs' := hs b hmem
      have h3' := h3 b hmem
      have hcap := own_capB ho
      rw [hlt]
      refine ⟨_, c, hc, ⟨hlt, fun k => ?_, ?_⟩, (fun e => by cases e), by omega, by omega⟩
      · by_cases hk : k < b.length - 3
        · rw [List.getElem?_take, if_pos hk, List.getElem?_eq_getElem (by omega)]
          exact h.rooms.u8 b hmem _ (List.getElem_mem _)
        · rw [List.getElem?_take, if_neg hk]; simp
      · refine .inr ⟨g, 0, rfl, fun k hk => ?_⟩
        rw [Nat.zero_add, ho.cellAt k (by omega)]
        have hkb : k < b.length := by omega
        simp [hk, hkb]
theorem Rms.some (h : Rms w B ar cr ag cg n cs vals) (h3 : ∀ b ∈ cs, 3 ≤ b.length) : ∀ i, i < n → ∀ b off ai li ci, ag = some ⟨b, off, none⟩ → w.cell? ⟨b, off + i, none⟩ = some (.slice ai li ci) → ai = none → ci = 0 := by
  intro i hi b off ai li ci ea hc hn
  subst hn
  rcases h.given.2 with ⟨_, e⟩ | ⟨gg, cap, cur, e, _⟩
  · omega
  · cases e
    cases ea
    have hl := h.len
    have hb : cs[i]? = some cs[i] := by simp [hl, hi]
    obtain ⟨gr, g, c, _, hv, _, ho⟩ := h.at hb (h3 _ (List.getElem_mem _))
    have hc' := h.given.cells (g := b) rfl i _ (by rw [List.getElem?_map, hv]; rfl)
    have ha : (⟨b, 0, none⟩ : Addr).add i = ⟨b, 0 + i, none⟩ := by unfold Addr.add; split <;> simp_all
    rw [ha, hc] at hc'
    simp [cutV] at hc'
theorem cut_mkd (bs : List (List Int)) : (bs.map mkd).map (fun b => b.take (b.length - 3)) = bs := by
  rw [List.map_map]
  conv => rhs; rw [← List.map_id bs]
  apply List.map_congr_left
  intro z _
  simp [mkd]
/-- While the marks are held and the lists written over: 'i' lists are done. -/
structure Ovr (w8 w : World) (B : Nat) (ar : Option Addr) (cr : Nat) (ag : Option Addr) (cg : Nat) (bs : List (List Int)) (vals : List Value) (i : Nat) (cs : List (List Int)) : Prop where
  rms : Rms w B ar cr ag cg bs.length cs vals
  lens : ∀ (j : Nat) (b z : List Int), cs[j]? = some b → bs[j]? = some z → b.length = z.length + 3
  left : ∀ j : Nat, i ≤ j → cs[j]? = (bs.map mkd)[j]?
  but : But (fun g => ∃ x ∈ vals, x.ownBlock = some g) w8 w
end
section
variable {w8 w : World} {B : Nat} {ar : Option Addr} {cr : Nat} {ag : Option Addr} {cg : Nat} {bs : List (List Int)} {vals : List Value} {i : Nat} {cs : List (List Int)}
theorem Ovr.start (h : Rms w B ar cr ag cg bs.length (bs.map mkd) vals) : Ovr w w B ar cr ag cg bs vals 0 (bs.map mkd) := by
  refine ⟨h, fun j b z hb hz => ?_, fun _ _ => rfl, But.refl _ _⟩
  rw [List.getElem?_map, hz] at hb
  cases hb
  exact mkd_len z
theorem Ovr.store (h : Ovr w8 w B ar cr ag cg bs vals i cs) {j g c k : Nat} {b : List Int} (hij : j < i) (hi : cs[j]? = some b) (hv : vals[j]? = some (.slice (some ⟨g, 0, none⟩) b.length c)) (z : Int) (hz : 0 ≤ z ∧ z ≤ 255) :
    Ovr w8 (w.setCell ⟨g, k, none⟩ (.int .u8 z)) B ar cr ag cg bs vals i (cs.set j (b.set k z)) := by
  have hrow : w.ownsRow B 5 1 (.slice (some ⟨g, 0, none⟩) b.length c) b.length (b.map (Value.int .u8)) := by
    obtain ⟨a, c', h1, h2⟩ := h.rms.rooms.each j b hi
    rw [hv] at h1; cases h1; exact h2
  refine ⟨⟨by rw [List.length_set]; exact h.rms.len, h.rms.rooms.store hi hv z hz, ownsRow_setCell_other h.rms.given (fun e => own_types h.rms.given hrow (by decide) g e rfl) _, h.rms.apart⟩, fun q b' z' hb hz' => ?_, fun q hq => ?_, h.but.setCell ⟨g, k, none⟩ (fun _ => ⟨_, List.mem_of_getElem? hv, rfl⟩) _⟩
  · by_cases e : j = q
    · subst e
      rw [List.getElem?_set_self (List.getElem?_eq_some_iff.1 hi).1] at hb
      cases hb
      rw [List.length_set]
      exact h.lens j b z' hi hz'
    · rw [List.getElem?_set_ne e] at hb
      exact h.lens q b' z' hb hz'
  · rw [List.getElem?_set_ne (by omega)]
    exact h.left q hq
theorem Ovr.len3 (h : Ovr w8 w B ar cr ag cg bs vals i cs) : ∀ b ∈ cs, 3 ≤ b.length := by
  intro b hb
  obtain ⟨j, hj, rfl⟩ := List.getElem_of_mem hb
  have hl := h.rms.len
  have := h.lens j cs[j] bs[j] (by simp) (by simp)
  omega
theorem Ovr.small (h : Ovr w8 w B ar cr ag cg bs vals i cs) (hs : ∀ z ∈ bs, z.length ≤ 10000000) : ∀ b ∈ cs, b.length ≤ 20000000 := by
  intro b hb
  obtain ⟨j, hj, rfl⟩ := List.getElem_of_mem hb
  have hl := h.rms.len
  have := h.lens j cs[j] bs[j] (by simp) (by simp)
  have := hs bs[j] (List.getElem_mem _)
  omega
theorem Ovr.next (h : Ovr w8 w B ar cr ag cg bs vals i cs) : Ovr w8 w B ar cr ag cg bs vals (i + 1) cs := ⟨h.rms, h.lens, fun j hj => h.left j (by omega), h.but⟩
theorem Ovr.at (h : Ovr w8 w B ar cr ag cg bs vals i cs) (hi : i < bs.length) : cs[i]? = some (mkd (bs.getD i [])) := by
  rw [h.left i (Nat.le_refl _), List.getElem?_map]
  simp [hi]
theorem Ovr.has (h : Ovr w8 w B ar cr ag cg bs vals i cs) {j : Nat} (hj : j < bs.length) : ∃ b, cs[j]? = some b ∧ b.length = (bs.getD j []).length + 3 := by
  have hl := h.rms.len
  refine ⟨cs[j], by simp, ?_⟩
  exact h.lens j cs[j] (bs.getD j []) (by simp) (by simp [hj])
end
end Go.Proofs.Ytmedpemicgffnaa
