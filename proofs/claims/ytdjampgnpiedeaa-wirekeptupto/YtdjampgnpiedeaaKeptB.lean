/-
  WireKept: what the loop over the cuts keeps.
-/
import Derived.Test.YtdjampgnpiedeaaLists
namespace Go.Proofs.Ytdjampgnpiedeaa
open Go.RowKit

theorem five_ne {w : World} {base k : Nat} {v : Value} {xs : List Value} {g : Nat} {cs : Array Value} {ty : TypeId} (h : w.ownsRow base 5 1 v k xs) (hg : w.heap[g]? = some (.cells cs ty (0, 0))) (ht : ty ≠ 5) : v.ownBlock ≠ some g := by
  intro e
  rcases h.2 with ⟨hv, _⟩ | ⟨q, c, cur, hv, _, hq, _⟩
  · rw [hv] at e; simp [Value.ownBlock] at e
  · rw [hv] at e; simp [Value.ownBlock] at e; subst e
    rw [hg] at hq; simp at hq; exact ht hq.2

theorem Lists.perm {w : World} {base lo M M' : Nat} {V : Nat → Value} {n : Nat → Nat} {L : Nat → List Int} (h : Lists w base lo M V n L) (σ : Nat → Nat) (h1 : ∀ i, i < M' → σ i < M) (h2 : ∀ i j, i < M' → j < M' → i ≠ j → σ i ≠ σ j) :
    Lists w base lo M' (fun j => V (σ j)) (fun j => n (σ j)) (fun j => L (σ j)) :=
  ⟨fun i hi => h.own (σ i) (h1 i hi), fun i j hi hj hij => h.dis (σ i) (σ j) (h1 i hi) (h1 j hj) (h2 i j hi hj hij), fun i hi => h.low (σ i) (h1 i hi)⟩
theorem Lists.two {w : World} {base : Nat} {v1 v2 : Value} {n1 n2 : Nat} {l1 l2 : List Int} (h1 : w.ownsRow base 5 1 v1 n1 (l1.map (Value.int .u8))) (h2 : w.ownsRow base 5 1 v2 n2 (l2.map (Value.int .u8))) (hd : v1.ownBlock = none ∨ v1.ownBlock ≠ v2.ownBlock) :
    Lists w base base 2 (fun j => if j = 0 then v1 else v2) (fun j => if j = 0 then n1 else n2) (fun j => if j = 0 then l1 else l2) := by
  refine ⟨fun i hi => ?_, fun i j hi hj hij => ?_, fun i hi q hq => ?_⟩
  · by_cases e : i = 0
    · simp only [if_pos e]; exact h1
    · simp only [if_neg e]; exact h2
  · by_cases ei : i = 0
    · simp only [if_pos ei, if_neg (show ¬ j = 0 by omega)]; exact hd
    · simp only [if_neg ei, if_pos (show j = 0 by omega)]
      rcases hd with e | e
      · rw [e]; cases v2.ownBlock <;> simp
      · exact .inr (fun e' => e e'.symm)
  · by_cases e : i = 0
    · simp only [if_pos e] at hq; exact (h1.lt q hq).1
    · simp only [if_neg e] at hq; exact (h2.lt q hq).1
/-- The places of the family in the order in which they are told. -/
def sig (j : Nat) : Nat := if j = 0 then 0 else if j = 1 then 1 else if j = 2 then 8 else if j = 3 then 9 else if j = 4 then 10 else j - 3
theorem sig_lt (j : Nat) (h : j < 11) : sig j < 11 := by unfold sig; repeat' split
                                                         all_goals omega
theorem sig_ne (i j : Nat) (hi : i < 11) (hj : j < 11) (h : i ≠ j) : sig i ≠ sig j := by
  unfold sig
  repeat' split
  all_goals omega
/-- The lists: 0 and 1 the cursors' bytes, 2 and 3 the copies, 4 what was got, from 5 on those of the table and such as wait. -/
structure KS (wr : World) (base g d bn : Nat) (ga da : Option Addr) (gc dc : Nat) (Z : List Int) (v2 v3 : Value) (n2 n3 : Nat) (l2 l3 : List Int) (M m A cap Pc Pd Pg : Nat) (vg : Value) (V : Nat → Value) (nn : Nat → Nat) (L : Nat → List Int) : Prop where
  fam : Lists wr base base M V nn L
  hM : 5 + m ≤ M
  e0 : V 0 = .slice ga bn gc ∧ nn 0 = bn ∧ L 0 = Z
  e1 : V 1 = .slice da bn dc ∧ nn 1 = bn ∧ L 1 = Z
  e2 : V 2 = v2 ∧ nn 2 = n2 ∧ L 2 = l2
  e3 : V 3 = v3 ∧ nn 3 = n3 ∧ L 3 = l3
  e4 : V 4 = vg ∧ nn 4 = Pg ∧ L 4 = Z.take Pg
  blkc : wr.heap[g]? = some (.cells #[.slice ga bn gc, .int .i64 Pc, .int .i64 0] 58 (0, 0))
  blkd : wr.heap[d]? = some (.cells #[.slice da bn dc, .int .i64 Pd, .int .i64 0] 58 (0, 0))
  tab : wr.ownsRow base 28 1 (.slice (some ⟨A, 0, none⟩) m cap) m ((List.range m).map (fun j => V (5 + j)))
  small : ∀ i, nn i ≤ 1048576

section
variable {wr w' : World} {base g d bn : Nat} {ga da : Option Addr} {gc dc : Nat} {Z : List Int} {v2 v3 : Value} {n2 n3 : Nat} {l2 l3 : List Int} {M m A cap Pc Pd Pg : Nat} {vg : Value} {V : Nat → Value} {nn : Nat → Nat} {L : Nat → List Int}

theorem KS.tabblk (h : KS wr base g d bn ga da gc dc Z v2 v3 n2 n3 l2 l3 M m A cap Pc Pd Pg vg V nn L) : ∃ cs, wr.heap[A]? = some (.cells cs 28 (0, 0)) := by
  rcases h.tab.2 with ⟨hv, _⟩ | ⟨q, c, cur, hv, _, hq, _⟩
  · cases hv
  · cases hv; exact ⟨cur, hq⟩
/-- Some block turns that is none of ours but perhaps a list's that is told apart. -/
theorem KS.kept (h : KS wr base g d bn ga da gc dc Z v2 v3 n2 n3 l2 l3 M m A cap Pc Pd Pg vg V nn L) {r : Option Nat} (hg : wr.grownBy w' r) (h1 : r ≠ some g) (h2 : r ≠ some d) (h3 : r ≠ some A) (hV : ∀ i, i < M → (V i).ownBlock = none ∨ (V i).ownBlock ≠ r) : KS w' base g d bn ga da gc dc Z v2 v3 n2 n3 l2 l3 M m A cap Pc Pd Pg vg V nn L :=
  ⟨h.fam.kept hg hV, h.hM, h.e0, h.e1, h.e2, h.e3, h.e4, (hg.block g (Array.getElem?_eq_some_iff.1 h.blkc).1 (fun e => h1 e.symm)).trans h.blkc, (hg.block d (Array.getElem?_eq_some_iff.1 h.blkd).1 (fun e => h2 e.symm)).trans h.blkd, h.tab.kept hg (.inr (fun e => h3 e.symm)), h.small⟩
theorem KS.below (h : KS wr base g d bn ga da gc dc Z v2 v3 n2 n3 l2 l3 M m A cap Pc Pd Pg vg V nn L) (hb : Below wr.heap.size wr w') : KS w' base g d bn ga da gc dc Z v2 v3 n2 n3 l2 l3 M m A cap Pc Pd Pg vg V nn L :=
  h.kept (grown_of' (r := none) hb) (by simp) (by simp) (by simp) (fun i _ => by cases (V i).ownBlock <;> simp)
theorem KS.cur (h : KS wr base g d bn ga da gc dc Z v2 v3 n2 n3 l2 l3 M m A cap Pc Pd Pg vg V nn L) (hZ : ∀ i : Nat, 0 ≤ Z[i]?.getD 0 ∧ Z[i]?.getD 0 ≤ 255) (hp : Pc ≤ bn) (hb : bn ≤ 1048576) : Cur wr base g ga bn gc Z Pc 0 := by
  have ho := h.fam.own 0 (by have := h.hM; omega)
  rw [h.e0.1, h.e0.2.1, h.e0.2.2] at ho
  exact ⟨h.blkc, ho, hZ, hp, by omega⟩
theorem KS.curd (h : KS wr base g d bn ga da gc dc Z v2 v3 n2 n3 l2 l3 M m A cap Pc Pd Pg vg V nn L) (hZ : ∀ i : Nat, 0 ≤ Z[i]?.getD 0 ∧ Z[i]?.getD 0 ≤ 255) (hp : Pd ≤ bn) (hb : bn ≤ 1048576) : Cur wr base d da bn dc Z Pd 0 := by
  have ho := h.fam.own 1 (by have := h.hM; omega)
  rw [h.e1.1, h.e1.2.1, h.e1.2.2] at ho
  exact ⟨h.blkd, ho, hZ, hp, by omega⟩
theorem KS.ne58 (h : KS wr base g d bn ga da gc dc Z v2 v3 n2 n3 l2 l3 M m A cap Pc Pd Pg vg V nn L) {q : Nat} {cs : Array Value} {ty : TypeId} (hq : wr.heap[q]? = some (.cells cs ty (0, 0))) (ht : ty ≠ 5) : ∀ i, i < M → (V i).ownBlock = none ∨ (V i).ownBlock ≠ some q :=
  fun i hi => .inr (five_ne (h.fam.own i hi) hq ht)

theorem range5 {M m : Nat} (hM : 5 + m ≤ M) (V : Nat → Value) (v : Value) : (List.range m).map (fun j => (fun j => if j = M then v else V j) (5 + j)) = (List.range m).map (fun j => V (5 + j)) := by
  apply List.map_congr_left
  intro j hj
  have := List.mem_range.1 hj
  simp only
  rw [if_neg (by omega)]

/-- A list is taken off the first cursor. -/
theorem KS.takeC (h : KS wr base g d bn ga da gc dc Z v2 v3 n2 n3 l2 l3 M m A cap Pc Pd Pg vg V nn L) (hgd : g ≠ d) (hbase : base ≤ wr.heap.size) {P' k : Nat} {v : Value} {l : List Int}
    (hv : w'.ownsRow wr.heap.size 5 1 v k (l.map (Value.int .u8))) (hk : k ≤ 1048576) (hblk : w'.heap[g]? = some (.cells #[.slice ga bn gc, .int .i64 P', .int .i64 0] 58 (0, 0))) (hg : wr.grownBy w' (some g)) :
    KS w' base g d bn ga da gc dc Z v2 v3 n2 n3 l2 l3 (M + 1) m A cap P' Pd Pg vg (fun j => if j = M then v else V j) (fun j => if j = M then k else nn j) (fun j => if j = M then l else L j) := by
  have hM := h.hM
  have hA : A ≠ g := by
    intro e
    obtain ⟨cs, hcs⟩ := h.tabblk
    rw [e, h.blkc] at hcs; simp at hcs
  refine ⟨h.fam.push hg (h.ne58 h.blkc (by decide)) hv hbase hbase, by omega, ?_, ?_, ?_, ?_, ?_, hblk, (hg.block d (Array.getElem?_eq_some_iff.1 h.blkd).1 (fun e => hgd (by cases e; rfl))).trans h.blkd, ?_, ?_⟩
  · simp only [if_neg (show ¬ 0 = M by omega)]; exact h.e0
  · simp only [if_neg (show ¬ 1 = M by omega)]; exact h.e1
  · simp only [if_neg (show ¬ 2 = M by omega)]; exact h.e2
  · simp only [if_neg (show ¬ 3 = M by omega)]; exact h.e3
  · simp only [if_neg (show ¬ 4 = M by omega)]; exact h.e4
  · rw [range5 hM]; exact h.tab.kept hg (.inr (fun e => hA (by simpa [Value.ownBlock] using e)))
  · intro i
    split
    · exact hk
    · exact h.small i
/-- .. off the second. -/
theorem KS.takeD (h : KS wr base g d bn ga da gc dc Z v2 v3 n2 n3 l2 l3 M m A cap Pc Pd Pg vg V nn L) (hgd : g ≠ d) (hbase : base ≤ wr.heap.size) {P' k : Nat} {v : Value} {l : List Int}
    (hv : w'.ownsRow wr.heap.size 5 1 v k (l.map (Value.int .u8))) (hk : k ≤ 1048576) (hblk : w'.heap[d]? = some (.cells #[.slice da bn dc, .int .i64 P', .int .i64 0] 58 (0, 0))) (hg : wr.grownBy w' (some d)) :
    KS w' base g d bn ga da gc dc Z v2 v3 n2 n3 l2 l3 (M + 1) m A cap Pc P' Pg vg (fun j => if j = M then v else V j) (fun j => if j = M then k else nn j) (fun j => if j = M then l else L j) := by
  have hM := h.hM
  have hA : A ≠ d := by
    intro e
    obtain ⟨cs, hcs⟩ := h.tabblk
    rw [e, h.blkd] at hcs; simp at hcs
  refine ⟨h.fam.push hg (h.ne58 h.blkd (by decide)) hv hbase hbase, by omega, ?_, ?_, ?_, ?_, ?_, (hg.block g (Array.getElem?_eq_some_iff.1 h.blkc).1 (fun e => hgd (by cases e; rfl))).trans h.blkc, hblk, ?_, ?_⟩
  · simp only [if_neg (show ¬ 0 = M by omega)]; exact h.e0
  · simp only [if_neg (show ¬ 1 = M by omega)]; exact h.e1
  · simp only [if_neg (show ¬ 2 = M by omega)]; exact h.e2
  · simp only [if_neg (show ¬ 3 = M by omega)]; exact h.e3
  · simp only [if_neg (show ¬ 4 = M by omega)]; exact h.e4
  · rw [range5 hM]; exact h.tab.kept hg (.inr (fun e => hA (by simpa [Value.ownBlock] using e)))
  · intro i
    split
    · exact hk
    · exact h.small i
/-- What was got is gone on with. -/
theorem KS.gotOn (h : KS wr base g d bn ga da gc dc Z v2 v3 n2 n3 l2 l3 M m A cap Pc Pd Pg vg V nn L) {P' : Nat} {vg' : Value} (hP : P' ≤ 1048576)
    (hv : w'.ownsRow base 5 1 vg' P' ((Z.take P').map (Value.int .u8))) (hg : wr.grownBy w' vg.ownBlock) (hat : vg'.ownBlock = vg.ownBlock ∨ vg'.ownBlock = some wr.heap.size) :
    KS w' base g d bn ga da gc dc Z v2 v3 n2 n3 l2 l3 M m A cap Pc Pd P' vg' (fun j => if j = 4 then vg' else V j) (fun j => if j = 4 then P' else nn j) (fun j => if j = 4 then Z.take P' else L j) := by
  have hM := h.hM
  have o4 := h.fam.own 4 (by omega)
  rw [h.e4.1] at o4
  have n1 := five_ne o4 h.blkc (by decide)
  have n2' := five_ne o4 h.blkd (by decide)
  obtain ⟨cs, hcs⟩ := h.tabblk
  have n3' := five_ne o4 hcs (by decide)
  have far : ∀ i, i < M → i ≠ 4 → (V i).ownBlock = none ∨ (V i).ownBlock ≠ vg'.ownBlock := by
    intro i hi h4
    rcases hat with e | e
    · rw [e, ← h.e4.1]; exact h.fam.dis i 4 hi (by omega) h4
    · rw [e]
      right
      intro e'
      have := ((h.fam.own i hi).lt _ e').2
      omega
  have keep : ∀ i, i < M → i ≠ 4 → w'.ownsRow base 5 1 (V i) (nn i) ((L i).map (Value.int .u8)) := fun i hi h4 => (h.fam.own i hi).kept hg (by rw [← h.e4.1]; exact h.fam.dis i 4 hi (by omega) h4)
  refine ⟨⟨fun i hi => ?_, fun i j hi hj hij => ?_, fun i hi q hq => ?_⟩, hM, ?_, ?_, ?_, ?_, ?_, (hg.block g (Array.getElem?_eq_some_iff.1 h.blkc).1 (fun e => n1 e.symm)).trans h.blkc, (hg.block d (Array.getElem?_eq_some_iff.1 h.blkd).1 (fun e => n2' e.symm)).trans h.blkd, ?_, ?_⟩
  · by_cases e : i = 4
    · simp only [if_pos e]; exact hv
    · simp only [if_neg e]; exact keep i hi e
  · by_cases ei : i = 4
    · by_cases ej : j = 4
      · omega
      · simp only [if_pos ei, if_neg ej]
        rcases far j hj ej with e | e
        · rw [e]; cases vg'.ownBlock <;> simp
        · exact .inr (fun e' => e e'.symm)
    · by_cases ej : j = 4
      · simp only [if_neg ei, if_pos ej]; exact far i hi ei
      · simp only [if_neg ei, if_neg ej]; exact h.fam.dis i j hi hj hij
  · by_cases e : i = 4
    · simp only [if_pos e] at hq; exact (hv.lt q hq).1
    · simp only [if_neg e] at hq; exact h.fam.low i hi q hq
  · simpa using h.e0
  · simpa using h.e1
  · simpa using h.e2
  · simpa using h.e3
  · simp
  · have e : (List.range m).map (fun j => (fun j => if j = 4 then vg' else V j) (5 + j)) = (List.range m).map (fun j => V (5 + j)) := by
      apply List.map_congr_left
      intro j _
      simp only
      rw [if_neg (by omega)]
    rw [e]; exact h.tab.kept hg (.inr (fun e => n3' (by simpa [Value.ownBlock] using e.symm)))
  · intro i
    split
    · exact hP
    · exact h.small i
/-- The list that waits is laid into the table. -/
theorem KS.tabOn (h : KS wr base g d bn ga da gc dc Z v2 v3 n2 n3 l2 l3 M m A cap Pc Pd Pg vg V nn L) (hM : 5 + (m + 1) ≤ M) {A' cap' : Nat} (ht : w'.ownsRow base 28 1 (.slice (some ⟨A', 0, none⟩) (m + 1) cap') (m + 1) ((List.range (m + 1)).map (fun j => if j = m then V (5 + m) else V (5 + j)))) (hg : wr.grownBy w' (some A)) :
    KS w' base g d bn ga da gc dc Z v2 v3 n2 n3 l2 l3 M (m + 1) A' cap' Pc Pd Pg vg V nn L := by
  obtain ⟨cs, hcs⟩ := h.tabblk
  have hgA : g ≠ A := by
    intro e; rw [← e, h.blkc] at hcs; simp at hcs
  have hdA : d ≠ A := by
    intro e; rw [← e, h.blkd] at hcs; simp at hcs
  refine ⟨h.fam.kept hg (h.ne58 hcs (by decide)), hM, h.e0, h.e1, h.e2, h.e3, h.e4, (hg.block g (Array.getElem?_eq_some_iff.1 h.blkc).1 (fun e => hgA (by cases e; rfl))).trans h.blkc, (hg.block d (Array.getElem?_eq_some_iff.1 h.blkd).1 (fun e => hdA (by cases e; rfl))).trans h.blkd, ?_, h.small⟩
  have e : (List.range (m + 1)).map (fun j => if j = m then V (5 + m) else V (5 + j)) = (List.range (m + 1)).map (fun j => V (5 + j)) := by
    apply List.map_congr_left
    intro j _
    split
    · subst_vars; rfl
    · rfl
  rw [← e]; exact ht
/-- The table's lists, for apart. -/
theorem KS.many (h : KS wr base g d bn ga da gc dc Z v2 v3 n2 n3 l2 l3 M m A cap Pc Pd Pg vg V nn L) : Many wr base A cap m (fun j => V (5 + j)) (fun j => nn (5 + j)) (fun j => L (5 + j)) :=
  ⟨h.tab, fun i hi => h.fam.own (5 + i) (by have := h.hM; omega), fun i j hi hj hij => h.fam.dis (5 + i) (5 + j) (by have := h.hM; omega) (by have := h.hM; omega) (by omega)⟩
/-- What apart leaves alone: the first four lists and the cursors. -/
theorem KS.away (h : KS wr base g d bn ga da gc dc Z v2 v3 n2 n3 l2 l3 M m A cap Pc Pd Pg vg V nn L) (ha : Away (fun k => ∃ i, i < m ∧ (V (5 + i)).ownBlock = some k) wr w') :
    (∀ i, i < 5 → w'.ownsRow base 5 1 (V i) (nn i) ((L i).map (Value.int .u8))) ∧ w'.heap[g]? = some (.cells #[.slice ga bn gc, .int .i64 Pc, .int .i64 0] 58 (0, 0)) := by
  have hM := h.hM
  refine ⟨fun i hi => ?_, ?_⟩
  · have ho := h.fam.own i (by omega)
    refine ⟨ho.1, ?_⟩
    rcases ho.2 with hn | ⟨q, c, cur, hv, hb, hq, r⟩
    · exact .inl hn
    · refine .inr ⟨q, c, cur, hv, hb, ?_, r⟩
      rw [ha.block q (Array.getElem?_eq_some_iff.1 hq).1 ?_]
      · exact hq
      · rintro ⟨j, hj, hjq⟩
        rcases h.fam.dis i (5 + j) (by omega) (by omega) (by omega) with e | e
        · rw [hv] at e; simp [Value.ownBlock] at e
        · exact e (by rw [hjq, hv]; rfl)
  · rw [ha.block g (Array.getElem?_eq_some_iff.1 h.blkc).1 ?_]
    · exact h.blkc
    · rintro ⟨j, hj, hjq⟩
      exact five_ne (h.fam.own (5 + j) (by omega)) h.blkc (by decide) hjq
end
end Go.Proofs.Ytdjampgnpiedeaa
