/-
  Lists that are gathered one by one, each in memory of its own.
-/
import Derived.Test.YtdjampgnpiedeaaApart
import Derived.Maps.AppendAt
import Derived.Laws.AppendOwnNone
namespace Go.Proofs.Ytdjampgnpiedeaa
open Go.RowKit

/-- m lists, no two in one memory; all from block 'lo' on. -/
structure Lists (w : World) (base lo m : Nat) (V : Nat → Value) (n : Nat → Nat) (L : Nat → List Int) : Prop where
  own : ∀ i, i < m → w.ownsRow base 5 1 (V i) (n i) ((L i).map (Value.int .u8))
  dis : ∀ i j, i < m → j < m → i ≠ j → (V i).ownBlock = none ∨ (V i).ownBlock ≠ (V j).ownBlock
  low : ∀ i, i < m → ∀ q, (V i).ownBlock = some q → lo ≤ q

theorem Lists.start (w : World) (base lo : Nat) (V : Nat → Value) (n : Nat → Nat) (L : Nat → List Int) : Lists w base lo 0 V n L := ⟨fun i hi => by omega, fun i j hi => by omega, fun i hi => by omega⟩

section
variable {w w' : World} {base lo m : Nat} {V : Nat → Value} {n : Nat → Nat} {L : Nat → List Int}
theorem Lists.kept (h : Lists w base lo m V n L) {r : Option Nat} (hg : w.grownBy w' r) (hV : ∀ i, i < m → (V i).ownBlock = none ∨ (V i).ownBlock ≠ r) : Lists w' base lo m V n L :=
  ⟨fun i hi => (h.own i hi).kept hg (hV i hi), h.dis, h.low⟩
theorem Lists.below (h : Lists w base lo m V n L) (hb : Below w.heap.size w w') : Lists w' base lo m V n L :=
  h.kept (grown_of' (r := none) hb) (fun i _ => by cases (V i).ownBlock <;> simp)
/-- One list more, in new memory. -/
theorem Lists.push (h : Lists w base lo m V n L) {r : Option Nat} (hg : w.grownBy w' r) (hV : ∀ i, i < m → (V i).ownBlock = none ∨ (V i).ownBlock ≠ r) {v : Value} {k : Nat} {l : List Int} (hv : w'.ownsRow w.heap.size 5 1 v k (l.map (Value.int .u8))) (hb : base ≤ w.heap.size) (hlo : lo ≤ w.heap.size) :
    Lists w' base lo (m + 1) (fun j => if j = m then v else V j) (fun j => if j = m then k else n j) (fun j => if j = m then l else L j) := by
  have hk := h.kept hg hV
  have far : ∀ i, i < m → (V i).ownBlock = none ∨ (V i).ownBlock ≠ v.ownBlock := by
    intro i hi
    cases hq : (V i).ownBlock with
    | none => exact .inl rfl
    | some q =>
      right
      intro e
      have h1 := ((h.own i hi).lt q hq).2
      have h2 := (hv.lt q e.symm).1
      omega
  refine ⟨fun i hi => ?_, fun i j hi hj hij => ?_, fun i hi q hq => ?_⟩
  · by_cases e : i = m
    · simp only [if_pos e]; exact own_mono hv hb
    · simp only [if_neg e]; exact hk.own i (by omega)
  · by_cases ei : i = m
    · by_cases ej : j = m
      · omega
      · simp only [if_pos ei, if_neg ej]
        rcases far j (by omega) with e | e
        · rw [e]; cases v.ownBlock <;> simp
        · exact .inr (fun e' => e e'.symm)
    · by_cases ej : j = m
      · simp only [if_neg ei, if_pos ej]; exact far i (by omega)
      · simp only [if_neg ei, if_neg ej]; exact h.dis i j (by omega) (by omega) hij
  · by_cases e : i = m
    · simp only [if_pos e] at hq; exact Nat.le_trans hlo (hv.lt q hq).1
    · simp only [if_neg e] at hq; exact h.low i (by omega) q hq
end

/-- 'append(b, raw...)', b the call's own, raw any row of bytes; where the new list lies. -/
theorem append_row_at (w : World) {ops : Array Oper} {rest : List Oper} {o : Oper} {a : Act} {Q : Exit → Act → World → Prop} (hgd : o.guard = none) (s x : Operand)
    (ho : o.op = .call { callee := .builtin .append, args := #[s, x], argTypes := #[28, 28] }) (base : Nat)
    (v : Value) (n : Nat) (xs : List Int) (hs : a.eval s = v) (hown : w.ownsRow base 5 1 v n (xs.map (Value.int .u8)))
    (ra : Option Addr) (m c : Nat) (zs : List Int) (hx : a.eval x = .slice ra m c) (hr : Row w ra m zs) (h0 : ra = none → m = 0 ∧ c = 0)
    (hb : n + m ≤ 140737488355328) (hbase : base ≤ w.heap.size)
    (h : ∀ v' w', w'.ownsRow base 5 1 v' (n + m) ((xs ++ zs).map (Value.int .u8)) → w.grownBy w' v.ownBlock → (v'.ownBlock = v.ownBlock ∨ v'.ownBlock = some w.heap.size) → wpList Try.prog ops Q rest (a.put o.dst v') w') : wpList Try.prog ops Q (o :: rest) a w := by
  obtain ⟨i0, hi, hz0, hz1, hz2⟩ := info_parts Try.info5
  cases ra with
  | none =>
    obtain ⟨rfl, rfl⟩ := h0 rfl
    have e1 := List.length_eq_zero_iff.1 hr.len
    subst e1
    refine wpList_append_own_none hgd s x 28 ho base 5 i0 1 Try.underlying28 hi v n _ hs hown hx (h v w (by simpa using hown) (World.grownBy.refl w _) (.inl rfl))
  | some ad =>
    refine wpList_append_own_at w hgd s x 28 ho base 5 i0 (.int .u8 0) 1 1 Try.underlying28 hi hz0 hz1 hz2 rfl (by decide) v n _ hs hown ad m c (zs.map (Value.int .u8)) hx (by have := hr.len; simpa using this) (row_cells hr) (ints_oneCell _ _) (by unfold maxLen; omega) (by omega) hbase ?_
    intro v' w' h1 h2 _ h4
    exact h v' w' (by rw [List.map_append]; exact h1) h2 h4

/-- 'all = append(all, v)': one list more in the table. -/
theorem append_tab (w : World) {ops : Array Oper} {rest : List Oper} {o : Oper} {a : Act} {Q : Exit → Act → World → Prop} (hgd : o.guard = none) (s x : Operand)
    (ho : o.op = .call { callee := .builtin .append, args := #[s, x], argTypes := #[43, 43] }) (base A cap m : Nat) (V : Nat → Value) (v : Value) (hv : v.oneCell' = true)
    (hs : a.eval s = .slice (some ⟨A, 0, none⟩) m cap) (hown : w.ownsRow base 28 1 (.slice (some ⟨A, 0, none⟩) m cap) m ((List.range m).map V)) (X : Nat) (hx : a.eval x = .slice (some ⟨X, 0, none⟩) 1 1) (hc : w.cell? ⟨X, 0, none⟩ = some v)
    (hb : m ≤ 4000000) (hbase : base ≤ w.heap.size)
    (h : ∀ A' cap' w', w'.ownsRow base 28 1 (.slice (some ⟨A', 0, none⟩) (m + 1) cap') (m + 1) ((List.range (m + 1)).map (fun j => if j = m then v else V j)) → w.grownBy w' (some A) → wpList Try.prog ops Q rest (a.put o.dst (.slice (some ⟨A', 0, none⟩) (m + 1) cap')) w') : wpList Try.prog ops Q (o :: rest) a w := by
  obtain ⟨i8, hi8, hy0, hy1, hy2⟩ := info_parts Try.info28
  refine wpList_append_own w hgd s x 43 ho base 28 i8 (.slice none 0 0) 1 24 Try.underlying43 hi8 hy0 hy1 hy2 rfl (by decide) _ m _ hs hown ⟨X, 0, none⟩ 1 1 [v] hx rfl (by intro t u ht; match t, ht with | 0, ht => simp at ht; subst ht; simpa [Addr.add] using hc) (by intro u hu; simp at hu; subst hu; exact hv) (by unfold maxLen; omega) (by omega) hbase ?_
  intro v' w' h1 h2 _
  obtain ⟨A', cap', rfl⟩ : ∃ A' cap', v' = .slice (some ⟨A', 0, none⟩) (m + 1) cap' := by
    rcases h1.2 with ⟨_, h0⟩ | ⟨A', cap', cur, hv', _⟩
    · omega
    · exact ⟨A', cap', hv'⟩
  refine h A' cap' w' ?_ h2
  have e : (List.range (m + 1)).map (fun j => if j = m then v else V j) = (List.range m).map V ++ [v] := by
    rw [List.range_succ, List.map_append]
    congr 1
    · apply List.map_congr_left
      intro j hj
      have := List.mem_range.1 hj
      rw [if_neg (by omega)]
    · simp
  rw [e]; exact h1
end Go.Proofs.Ytdjampgnpiedeaa
