/-
  Lists with marks behind them; lists that are put together.
-/
import Derived.Test.YtbcmheilgilipaaApart
import Derived.Test.YtbcmheilgilipaaKTab
namespace Go.Proofs.Ytbcmheilgilipaa
open Go.RowKit Go.Maps
theorem Cutting.len {L : List ByteArray} {lim : Nat} (hl : L.length ≤ 65536) (ht : total L ≤ 4194304) (hs : ∀ s ∈ L, s.size ≤ 65536) {bs : List (List Int)} {first : Nat} (h : Cutting L lim first bs) : ∀ z ∈ bs, z.length ≤ 10000000 := by
  induction bs generalizing first with
  | nil => simp
  | cons b bs ih =>
    obtain ⟨cnt, hc, hb, h3⟩ := h
    intro z hz
    rcases List.mem_cons.1 hz with e | e
    · subst e
      rw [hb]
      exact bodyOf_len (L := L) (first := first) (by have := hc.le; omega) hl ht hs cnt
    · exact ih h3 z e
theorem Cutting.ne {L : List ByteArray} {lim : Nat} {bs : List (List Int)} (h : Cutting L lim 0 bs) (hL : 0 < L.length) : 0 < bs.length := by
  cases bs with
  | nil => have e : 0 = L.length := h; omega
  | cons b bs => simp




section
variable {w : World} {base : Nat} {v : Value} {bs : List (List Int)} {vals : List Value}







/-- As a family. -/
theorem Lists.many {A c : Nat} (h : Lists w base (.slice (some ⟨A, 0, none⟩) bs.length c) bs vals) :
    Many w base A c bs.length (fun i => vals.getD i undef) (fun i => (bs.getD i []).length) (fun i => bs.getD i []) := by
  have hl := h.len
  refine ⟨?_, fun i hi => ?_, fun i j hi hj hij => ?_⟩
  · have e : (List.range bs.length).map (fun i => vals.getD i undef) = vals := by
      apply List.ext_getElem
      · simp [hl]
      · intro i h1 h2
        simp [h2]
    rw [e]; exact h.own
  · obtain ⟨a, c', h1, h2⟩ := h.each i (bs.getD i []) (by simp [hi])
    show w.ownsRow base 5 1 (vals.getD i undef) _ _
    rw [List.getD_eq_getElem?_getD, h1]
    exact h2
  · show (vals.getD i undef).ownBlock = none ∨ (vals.getD i undef).ownBlock ≠ (vals.getD j undef).ownBlock
    cases hq : (vals.getD i undef).ownBlock with
    | none => exact .inl rfl
    | some g =>
      right
      intro e
      exact h.far (i := i) (j := j) (x := vals.getD i undef) (y := vals.getD j undef) (by simp [hl, hi]) (by simp [hl, hj]) hij g hq e.symm
end
def mkd (z : List Int) : List Int := z ++ [201, 202, 203]
theorem mkd_len (z : List Int) : (mkd z).length = z.length + 3 := by simp [mkd]
def cutV : Value → Value
  | .slice a n c => .slice a (n - 3) c
  | v => v
/-- Lists with marks, and a list of their beginnings. -/
structure Rms (w : World) (B : Nat) (ar : Option Addr) (cr : Nat) (ag : Option Addr) (cg : Nat) (n : Nat) (cs : List (List Int)) (vals : List Value) : Prop where
  len : cs.length = n
  rooms : Lists w B (.slice ar n cr) cs vals
  given : w.ownsRow B 31 1 (.slice ag n cg) n (vals.map cutV)
  apart : ∀ g, (Value.slice ar n cr).ownBlock = some g → (Value.slice ag n cg).ownBlock ≠ some g
theorem Rms.nil (w : World) (B : Nat) : Rms w B none 0 none 0 0 [] [] := ⟨rfl, Lists.nil w B, World.ownsRow_nil _ _ _ _, fun g e => by simp [Value.ownBlock] at e⟩
section
variable {w : World} {B : Nat} {ar : Option Addr} {cr : Nat} {ag : Option Addr} {cg : Nat} {n : Nat} {cs : List (List Int)} {vals : List Value}
theorem Rms.mid (h : Rms w B ar cr ag cg n cs vals) {w2 w3 : World} (hb : Below w.heap.size w w2) {o : Obj} (g3 : (w2.alloc o).grownBy w3 (Value.slice ar n cr).ownBlock) : w3.ownsRow B 31 1 (.slice ag n cg) n (vals.map cutV) := by
  have k3 : But (fun k => (Value.slice ar n cr).ownBlock = some k) w w3 := ((But.of_below (S := fun k => (Value.slice ar n cr).ownBlock = some k) hb).alloc _).grown g3 (fun k _ e => e)
  exact own_but h.given k3 (fun g e e' => h.apart g e' e)
theorem Rms.snoc (h : Rms w B ar cr ag cg n cs vals) (hB : B ≤ w.heap.size) {w2 w3 w4 : World} {z : List Int} {g c : Nat} {ar' ag' : Option Addr} {cr' cg' : Nat} (hb : Below w.heap.size w w2)
    (ho : w2.ownsRow w.heap.size 5 1 (.slice (some ⟨g, 0, none⟩) (z.length + 3) c) (z.length + 3) ((mkd z).map (Value.int .u8))) (hu : ∀ y ∈ z, 0 ≤ y ∧ y ≤ 255)
    (o3 : w3.ownsRow B 31 1 (.slice ar' (n + 1) cr') (n + 1) (vals ++ [.slice (some ⟨g, 0, none⟩) (z.length + 3) c])) (g3 : (w2.alloc (.cells #[.slice (some ⟨g, 0, none⟩) (z.length + 3) c] 31)).grownBy w3 (Value.slice ar n cr).ownBlock)
    (l3 : (Value.slice ar' (n + 1) cr').ownBlock = (Value.slice ar n cr).ownBlock ∨ (Value.slice ar' (n + 1) cr').ownBlock = some (w2.alloc (.cells #[.slice (some ⟨g, 0, none⟩) (z.length + 3) c] 31)).heap.size)
    (o4 : w4.ownsRow B 31 1 (.slice ag' (n + 1) cg') (n + 1) (vals.map cutV ++ [.slice (some ⟨g, 0, none⟩) z.length c])) (g4 : (w3.alloc (.cells #[.slice (some ⟨g, 0, none⟩) z.length c] 31)).grownBy w4 (Value.slice ag n cg).ownBlock)
    (l4 : (Value.slice ag' (n + 1) cg').ownBlock = (Value.slice ag n cg).ownBlock ∨ (Value.slice ag' (n + 1) cg').ownBlock = some (w3.alloc (.cells #[.slice (some ⟨g, 0, none⟩) z.length c] 31)).heap.size) :
    Rms w4 B ar' cr' ag' cg' (n + 1) (cs ++ [mkd z]) (vals ++ [.slice (some ⟨g, 0, none⟩) (z.length + 3) c]) ∧ Below B w w4 := by
  have hl := h.len
  have hs2 := hb.size
  have hs3 := g3.size
  have hs4 := g4.size
  simp at hs3 hs4
  have hL3 : Lists w3 B (.slice ar' (n + 1) cr') (cs ++ [mkd z]) (vals ++ [.slice (some ⟨g, 0, none⟩) (z.length + 3) c]) := by
    have hr : Lists w B (.slice ar cs.length cr) cs vals := by rw [hl]; exact h.rooms
    have hm := mkd_len z
    have := hr.snoc (b := mkd z) (a1 := some ⟨g, 0, none⟩) (c1 := c) (a2 := ar') (c2 := cr') (w1 := w2) (w2 := w3) hb hB (by rw [hm]; exact ho) (by
      intro y hy
      rcases List.mem_append.1 hy with e | e
      · exact hu y e
      · simp at e; omega) (by rw [hm, hl]; exact o3) (by rw [hm, hl]; exact g3)
    rw [hm, hl] at this
    exact this
  have k4 : But (fun k => (Value.slice ag n cg).ownBlock = some k) w3 w4 := ((But.refl _ w3).alloc _).grown g4 (fun k _ e => e)
  have hG3 := h.mid hb g3
  have hne : ∀ q, (Value.slice ar' (n + 1) cr').ownBlock = some q → (Value.slice ag n cg).ownBlock ≠ some q := by
    intro q hq e
    rcases l3 with e1 | e1
    · rw [hq] at e1
      exact h.apart q e1.symm e
    · rw [hq] at e1
      have := (h.given.lt q e).2
      simp at e1
      omega
  refine ⟨⟨by simp [hl], hL3.but k4 hne ?_, by simpa [cutV] using o4, ?_⟩, ?_⟩
  · intro x hx q hq e
    obtain ⟨b, _, a, c', rfl, hx'⟩ := hL3.row hx
    exact own_types hx' hG3 (by decide) q hq e
  · intro q hq e
    rcases l4 with e1 | e1
    · rw [e] at e1
      exact hne q hq e1.symm
    · rw [e] at e1
      have := (hL3.own.lt q (by simpa using hq)).2
      simp at e1
      omega
  · have b3 : Below B w w3 := ((hb.mono hB).alloc (Nat.le_trans hB hs2) _).grown g3 (by simp; omega) (fun k hk => (h.rooms.own.lt k (by simpa [hl] using hk)).1)
    exact (b3.alloc (Nat.le_trans hB b3.size) _).grown g4 (by simp; have := b3.size; omega) (fun k hk => (h.given.lt k hk).1)
theorem Rms.but (h : Rms w B ar cr ag cg n cs vals) {w' : World} {S : Nat → Prop} (hb : But S w w') (hS : ∀ k, S k → k < B) : Rms w' B ar cr ag cg n cs vals := by
  refine ⟨h.len, h.rooms.but hb ?_ ?_, own_but h.given hb ?_, h.apart⟩
  · intro g hg e
    have h0 := h.rooms.own
    have := hS g e
    have := (h0.lt g hg).1
    omega
  · intro x hx g hg e
    have := h.rooms.blocks x hx g hg
    have := hS g e
    omega
  · intro g hg e
    have := (h.given.lt g hg).1
    have := hS g e
    omega
/-- The i-th list with marks. -/
theorem Rms.at (h : Rms w B ar cr ag cg n cs vals) {i : Nat} {b : List Int} (hi : cs[i]? = some b) (h3 : 3 ≤ b.length) :
    ∃ gr g c, ar = some ⟨gr, 0, none⟩ ∧ vals[i]? = some (.slice (some ⟨g, 0, none⟩) b.length c) ∧ w.cell? ⟨gr, i, none⟩ = some (.slice (some ⟨g, 0, none⟩) b.length c) ∧ w.ownsRow B 5 1 (.slice (some ⟨g, 0, none⟩) b.length c) b.length (b.map (Value.int .u8)) := by
  obtain ⟨ab, cb, h1, h2⟩ := h.rooms.each i b hi
  have hl := h.len
  have hlt := (List.getElem?_eq_some_iff.1 hi).1
  obtain ⟨g, rfl⟩ : ∃ g, ab = some ⟨g, 0, none⟩ := by
    rcases h2.2 with ⟨_, e⟩ | ⟨g, cap, cur, e, _⟩
    · omega
    · cases e; exact ⟨g, rfl⟩
  rcases h.rooms.own.2 with ⟨_, e⟩ | ⟨gr, cap, cur, e, _⟩
  · omega
  · cases e
    have hc := h.rooms.own.cells (g := gr) rfl i _ h1
    have ha : (⟨gr, 0, none⟩ : Addr).add i = ⟨gr, i, none⟩ := by unfold Addr.add; split <;> simp_all
    rw [ha] at hc
    exact ⟨gr, g, cb, rfl, h1, hc, h2⟩
/-- The beginnings, as lists. -/
theorem Rms.lrow (h : Rms w B ar cr ag cg n cs vals) (h3 : ∀ b ∈ cs, 3 ≤ b.length) (hs : ∀ b ∈ cs, b.length ≤ 20000000) : LRow w ag n (cs.map fun b => b.take (b.length - 3)) := by
  refine ⟨by simp [h.len], ?_⟩
  by_cases h0 : n = 0
  · exact .inl h0
  · right
    rcases h.given.2 with ⟨_, e⟩ | ⟨gg, cap, cur, e, _⟩
    · omega
    · cases e
      refine ⟨gg, 0, rfl, fun i z hz => ?_⟩
      rw [List.getElem?_map, Option.map_eq_some_iff] at hz
      obtain ⟨b, hb, rfl⟩ := hz
      have hmem := List.mem_of_getElem? hb
      obtain ⟨gr, g, c, _, hv, _, ho⟩ := h.at hb (h3 b hmem)
      have hc := h.given.cells (g := gg) rfl i (.slice (some ⟨g, 0, none⟩) (b.length - 3) c) (by rw [List.getElem?_map, hv]; rfl)
      have ha : (⟨gg, 0, none⟩ : Addr).add i = ⟨gg, 0 + i, none⟩ := by unfold Addr.add; split <;> simp_all
      rw [ha] at hc
      have hlt : (b.take (b.length - 3)).length = b.length - 3 := by rw [List.length_take]; omega
      have hs' := hs b hmem
      have h3' := h3 b hmem
      have hcap := own_capB ho
      rw [hlt]
      refine ⟨_, c, hc, ⟨hlt, fun k => ?_, ?_⟩, (fun e => by cases e), by omega, by omega⟩
      · by_cases hk : k < b.length - 3
        · rw [List.getElem?_take, if_pos hk, List.getElem?_eq_getElem (by omega)]
          exact h.rooms.u8 b hmem _ (List.getElem_mem _)
        · rw [List.getElem?_take, if_neg hk]; simp
      · refine .inr ⟨g, 0, rfl, fun k hk => ?_⟩
        rw [Nat.zero_add, ho.cellAt k (by omega)]
        have hkb : k < b.length := by omega
        simp [hk, hkb]
theorem Rms.some (h : Rms w B ar cr ag cg n cs vals) (h3 : ∀ b ∈ cs, 3 ≤ b.length) : ∀ i, i < n → ∀ b off ai li ci, ag = some ⟨b, off, none⟩ → w.cell? ⟨b, off + i, none⟩ = some (.slice ai li ci) → ai = none → ci = 0 := by
  intro i hi b off ai li ci ea hc hn
  subst hn
  rcases h.given.2 with ⟨_, e⟩ | ⟨gg, cap, cur, e, _⟩
  · omega
  · cases e
    cases ea
    have hl := h.len
    have hb : cs[i]? = some cs[i] := by simp [hl, hi]
    obtain ⟨gr, g, c, _, hv, _, ho⟩ := h.at hb (h3 _ (List.getElem_mem _))
    have hc' := h.given.cells (g := b) rfl i _ (by rw [List.getElem?_map, hv]; rfl)
    have ha : (⟨b, 0, none⟩ : Addr).add i = ⟨b, 0 + i, none⟩ := by unfold Addr.add; split <;> simp_all
    rw [ha, hc] at hc'
    simp [cutV] at hc'
theorem cut_mkd (bs : List (List Int)) : (bs.map mkd).map (fun b => b.take (b.length - 3)) = bs := by
  rw [List.map_map]
  conv => rhs; rw [← List.map_id bs]
  apply List.map_congr_left
  intro z _
  simp [mkd]
/-- While the marks are held and the lists written over: 'i' lists are done. -/
structure Ovr (w8 w : World) (B : Nat) (ar : Option Addr) (cr : Nat) (ag : Option Addr) (cg : Nat) (bs : List (List Int)) (vals : List Value) (i : Nat) (cs : List (List Int)) : Prop where
  rms : Rms w B ar cr ag cg bs.length cs vals
  lens : ∀ (j : Nat) (b z : List Int), cs[j]? = some b → bs[j]? = some z → b.length = z.length + 3
  left : ∀ j : Nat, i ≤ j → cs[j]? = (bs.map mkd)[j]?
  but : But (fun g => ∃ x ∈ vals, x.ownBlock = some g) w8 w
end
section
variable {w8 w : World} {B : Nat} {ar : Option Addr} {cr : Nat} {ag : Option Addr} {cg : Nat} {bs : List (List Int)} {vals : List Value} {i : Nat} {cs : List (List Int)}
theorem Ovr.start (h : Rms w B ar cr ag cg bs.length (bs.map mkd) vals) : Ovr w w B ar cr ag cg bs vals 0 (bs.map mkd) := by
  refine ⟨h, fun j b z hb hz => ?_, fun _ _ => rfl, But.refl _ _⟩
  rw [List.getElem?_map, hz] at hb
  cases hb
  exact mkd_len z
theorem Ovr.store (h : Ovr w8 w B ar cr ag cg bs vals i cs) {j g c k : Nat} {b : List Int} (hij : j < i) (hi : cs[j]? = some b) (hv : vals[j]? = some (.slice (some ⟨g, 0, none⟩) b.length c)) (z : Int) (hz : 0 ≤ z ∧ z ≤ 255) :
    Ovr w8 (w.setCell ⟨g, k, none⟩ (.int .u8 z)) B ar cr ag cg bs vals i (cs.set j (b.set k z)) := by
  have hrow : w.ownsRow B 5 1 (.slice (some ⟨g, 0, none⟩) b.length c) b.length (b.map (Value.int .u8)) := by
    obtain ⟨a, c', h1, h2⟩ := h.rms.rooms.each j b hi
    rw [hv] at h1; cases h1; exact h2
  refine ⟨⟨by rw [List.length_set]; exact h.rms.len, h.rms.rooms.store hi hv z hz, ownsRow_setCell_other h.rms.given (fun e => own_types h.rms.given hrow (by decide) g e rfl) _, h.rms.apart⟩, fun q b' z' hb hz' => ?_, fun q hq => ?_, h.but.setCell ⟨g, k, none⟩ (fun _ => ⟨_, List.mem_of_getElem? hv, rfl⟩) _⟩
  · by_cases e : j = q
    · subst e
      rw [List.getElem?_set_self (List.getElem?_eq_some_iff.1 hi).1] at hb
      cases hb
      rw [List.length_set]
      exact h.lens j b z' hi hz'
    · rw [List.getElem?_set_ne e] at hb
      exact h.lens q b' z' hb hz'
  · rw [List.getElem?_set_ne (by omega)]
    exact h.left q hq
theorem Ovr.len3 (h : Ovr w8 w B ar cr ag cg bs vals i cs) : ∀ b ∈ cs, 3 ≤ b.length := by
  intro b hb
  obtain ⟨j, hj, rfl⟩ := List.getElem_of_mem hb
  have hl := h.rms.len
  have := h.lens j cs[j] bs[j] (by simp) (by simp)
  omega
theorem Ovr.small (h : Ovr w8 w B ar cr ag cg bs vals i cs) (hs : ∀ z ∈ bs, z.length ≤ 10000000) : ∀ b ∈ cs, b.length ≤ 20000000 := by
  intro b hb
  obtain ⟨j, hj, rfl⟩ := List.getElem_of_mem hb
  have hl := h.rms.len
  have := h.lens j cs[j] bs[j] (by simp) (by simp)
  have := hs bs[j] (List.getElem_mem _)
  omega
theorem Ovr.next (h : Ovr w8 w B ar cr ag cg bs vals i cs) : Ovr w8 w B ar cr ag cg bs vals (i + 1) cs := ⟨h.rms, h.lens, fun j hj => h.left j (by omega), h.but⟩
theorem Ovr.at (h : Ovr w8 w B ar cr ag cg bs vals i cs) (hi : i < bs.length) : cs[i]? = some (mkd (bs.getD i [])) := by
  rw [h.left i (Nat.le_refl _), List.getElem?_map]
  simp [hi]
theorem Ovr.has (h : Ovr w8 w B ar cr ag cg bs vals i cs) {j : Nat} (hj : j < bs.length) : ∃ b, cs[j]? = some b ∧ b.length = (bs.getD j []).length + 3 := by
  have hl := h.rms.len
  refine ⟨cs[j], by simp, ?_⟩
  exact h.lens j cs[j] (bs.getD j []) (by simp) (by simp [hj])
end
end Go.Proofs.Ytbcmheilgilipaa
