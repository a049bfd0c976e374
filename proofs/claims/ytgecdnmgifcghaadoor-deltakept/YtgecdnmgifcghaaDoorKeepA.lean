/-
  Lists of lists that own their memory, and an append that says what becomes of the old list.
-/
import Derived.Test.YtgecdnmgifcghaaDoorLists
namespace Go.Proofs.YtgecdnmgifcghaaDoor
open Go.RowKit

/-- 'append(v, news...)', v the call's own, something appended: the new list owns old and new bytes; THE OLD LIST STILL OWNS ITS OWN. -/
theorem append_keep (w : World) {ops : Array Oper} {rest : List Oper} {o : Oper} {a : Act} {Q : Exit → Act → World → Prop} (hgd : o.guard = none) (s x : Operand)
    (ho : o.op = .call { callee := .builtin .append, args := #[s, x], argTypes := #[27, 27] }) (base : Nat)
    (v : Value) (n : Nat) (xs : List Value) (hs : a.eval s = v) (hown : w.ownsRow base 5 1 v n xs)
    (ad : Addr) (m c : Nat) (news : List Value) (hx : a.eval x = .slice (some ad) m c) (hl : news.length = m) (hnews : ∀ j u, news[j]? = some u → w.cell? (ad.add j) = some u) (h1 : ∀ u ∈ news, u.oneCell' = true)
    (hm : 0 < m) (hb : n + m ≤ 140737488355328) (hbase : base ≤ w.heap.size)
    (h : ∀ g cap w', w'.ownsRow base 5 1 (.slice (some ⟨g, 0, none⟩) (n + m) cap) (n + m) (xs ++ news) → w'.ownsRow base 5 1 v n xs → w.grownBy w' v.ownBlock → (v.ownBlock = some g ∨ w.heap.size ≤ g) → wpList Tryd.prog ops Q rest (a.put o.dst (.slice (some ⟨g, 0, none⟩) (n + m) cap)) w') : wpList Tryd.prog ops Q (o :: rest) a w := by
  obtain ⟨i0, hi, hz0, hz1, hz2⟩ := info_parts Tryd.info5
  have hown0 := hown
  have big : ∀ (ao : Option Addr) (cap : Nat), v = .slice ao n cap → (ao = none → n = 0 ∧ cap = 0) → (∀ b, ao = some b → ∀ j u, xs[j]? = some u → w.cell? (b.add j) = some u) → cap < n + m → wpList Tryd.prog ops Q (o :: rest) a w := by
    intro ao cap hv h0 hcells hfull
    refine wpList_append_grows w hgd s x 27 ho 5 i0 (.int .u8 0) 1 1 Tryd.underlying27 hi hz0 hz1 hz2 rfl (by decide) ao n cap xs (hs.trans hv) h0 (by simpa using hown.1) hcells ad m c news hx (by simpa using hl) hnews h1 hfull (by unfold maxLen; omega) (by omega) ?_
    intro v' w' hn hg
    have hf : ∃ g' cap', v' = .slice (some ⟨g', 0, none⟩) (n + m) cap' ∧ w.heap.size ≤ g' := by
      rcases hn.2 with ⟨_, h0⟩ | ⟨g', cap', cur, hv', hb', _⟩
      · omega
      · exact ⟨g', cap', hv', hb'⟩
    obtain ⟨g', cap', rfl, hge⟩ := hf
    refine h g' cap' w' (own_mono hn hbase) (hown0.kept hg (by cases v.ownBlock <;> simp)) ⟨hg.os, hg.tape, hg.output, hg.size, fun k hk _ => hg.block k hk (by simp)⟩ (.inr hge)
  rcases hown.2 with ⟨hv, h0⟩ | ⟨g, cap, cur, hv, hbg, hg, hnc, hcm, hcs, htk⟩
  · subst h0
    have hxs : xs = [] := List.length_eq_zero_iff.1 (by simpa using hown.1)
    exact big none 0 hv (fun _ => ⟨rfl, rfl⟩) (fun b hb => by cases hb) (by omega)
  · by_cases hroom : n + m ≤ cap
    · rw [hv] at hs hown
      refine wpList_append_fits w hgd s x 27 ho base 5 i0 1 Tryd.underlying27 hi hz1 g n cap xs hs hown ad m c news hx (by simpa using hl) hnews h1 hroom ?_
      intro w' hn hgr
      rw [← show v.ownBlock = some g by rw [hv]; rfl] at hgr
      refine h g cap w' hn ?_ hgr (.inl (by rw [hv]; rfl))
      rw [hv]
      refine ⟨hown.1, .inr ⟨g, cap, ?_⟩⟩
      rcases hn.2 with ⟨hv', _⟩ | ⟨g', cap', cur', hv', hb', hg', _, hcm', hcs', htk'⟩
      · cases hv'
      · cases hv'
        refine ⟨cur', rfl, hb', hg', hnc, hcm', hcs', ?_⟩
        have hlx : xs.length = n := by simpa using hown.1
        have e : cur'.toList.take (n * 1) = (cur'.toList.take ((n + m) * 1)).take (n * 1) := by rw [List.take_take]; congr 1; omega
        rw [e, htk', Nat.mul_one, List.take_append_of_le_length (by omega), List.take_of_length_le (by omega)]
    · exact big (some ⟨g, 0, none⟩) cap hv (fun h => by cases h) (fun b hb => by cases hb; exact hown.cells (by rw [hv]; rfl)) (by omega)

/-- A list of lists: the table, each list's bytes, no two in one memory. -/
structure Many (w : World) (base A cap m : Nat) (V : Nat → Value) (n : Nat → Nat) (L : Nat → List Int) : Prop where
  tab : w.ownsRow base 27 1 (.slice (some ⟨A, 0, none⟩) m cap) m ((List.range m).map V)
  own : ∀ i, i < m → w.ownsRow base 5 1 (V i) (n i) ((L i).map (Value.int .u8))
  dis : ∀ i j, i < m → j < m → i ≠ j → (V i).ownBlock = none ∨ (V i).ownBlock ≠ (V j).ownBlock

section
variable {w w' : World} {base A cap m : Nat} {V : Nat → Value} {n : Nat → Nat} {L : Nat → List Int}
theorem Many.cell (h : Many w base A cap m V n L) {i : Nat} (hi : i < m) : w.cell? ⟨A, i, none⟩ = some (V i) := by
  rw [h.tab.cellAt i (by omega)]; simp [hi]
theorem Many.form (h : Many w base A cap m V n L) {i : Nat} (hi : i < m) : ∃ a c, V i = .slice a (n i) c := own_form (h.own i hi)
theorem Many.len (h : Many w base A cap m V n L) {i : Nat} (hi : i < m) : (L i).length = n i := by have := (h.own i hi).1; simpa using this
/-- The table's block is none of the lists'. -/
theorem Many.tab_ne (h : Many w base A cap m V n L) {v : Value} {k : Nat} {xs : List Value} (hv : w.ownsRow base 5 1 v k xs) : v.ownBlock ≠ some A := by
  intro e
  rcases h.tab.2 with ⟨hv', _⟩ | ⟨g, cap', cur, hv', _, hg, _⟩
  · cases hv'
  · cases hv'
    rcases hv.2 with ⟨hn, _⟩ | ⟨g', c', cur', hn, _, hg', _⟩
    · rw [hn] at e; simp [Value.ownBlock] at e
    · rw [hn] at e; simp [Value.ownBlock] at e; subst e
      rw [hg] at hg'; simp at hg'
/-- What is left alone stays. -/
theorem Many.kept (h : Many w base A cap m V n L) {r : Option Nat} (hg : w.grownBy w' r) (hA : r ≠ some A) (hV : ∀ i, i < m → (V i).ownBlock = none ∨ (V i).ownBlock ≠ r) : Many w' base A cap m V n L :=
  ⟨h.tab.kept hg (.inr (fun e => hA (by rw [← e]; rfl))), fun i hi => (h.own i hi).kept hg (hV i hi), h.dis⟩
theorem Many.below (h : Many w base A cap m V n L) (hb : Below w.heap.size w w') : Many w' base A cap m V n L :=
  h.kept (r := none) ⟨hb.os, hb.tape, hb.output, hb.size, fun k hk _ => hb.block k hk⟩ (by simp) (fun i _ => by cases (V i).ownBlock <;> simp)
/-- A store into the i-th list. -/
theorem Many.store (h : Many w base A cap m V n L) {i g c k : Nat} (hi : i < m) (hv : V i = .slice (some ⟨g, 0, none⟩) (n i) c) (z : Int) :
    Many (w.setCell ⟨g, k, none⟩ (.int .u8 z)) base A cap m V n (fun j => if j = i then (L i).set k z else L j) := by
  have hbi : (V i).ownBlock = some g := by rw [hv]; rfl
  have hs := (hv ▸ h.own i hi).stored k (.int .u8 z)
  refine ⟨?_, fun j hj => ?_, h.dis⟩
  · refine h.tab.kept hs.2 (.inr (fun e => ?_))
    exact h.tab_ne (h.own i hi) (by rw [hbi]; exact e.symm)
  · by_cases hji : j = i
    · subst hji
      simp only [if_true]
      rw [List.map_set, hv]; exact hs.1
    · simp only [if_neg hji]
      refine (h.own j hj).kept hs.2 ?_
      have := h.dis j i hj hi hji
      rw [hbi] at this; exact this
end
end Go.Proofs.YtgecdnmgifcghaaDoor
