/-
  Lists of lists that gain a list that lies beside them; what DeltaKept wants besides.
-/
import Derived.Test.YtgecdnmgifcghaaDoorApart
import Derived.Test.YtgecdnmgifcghaaDoorTwB
namespace Go.Proofs.YtgecdnmgifcghaaDoor
open Go.RowKit
/-- A row's block is no state's. -/
theorem own_ne_cells {w : World} {base n b : Nat} {v : Value} {xs : List Value} {e T : TypeId} {z : Nat} {ds : Array Value} {fr : Nat × Nat} (h : w.ownsRow base e z v n xs) (hb : w.heap[b]? = some (.cells ds T fr)) (hne : e ≠ T) : v.ownBlock ≠ some b := by
  intro hv
  rcases h.2 with ⟨rfl, _⟩ | ⟨g, cap, cur, rfl, _, hh, _⟩
  · simp [Value.ownBlock] at hv
  · have e1 : g = b := by simpa [Value.ownBlock] using hv
    subst e1
    rw [hh] at hb
    simp at hb
    exact hne hb.2.1
/-- 'append(l, b)' of a list that lies beside the others. -/
theorem Lists.snocG {w w2 : World} {base : Nat} {v : Value} {bs : List (List Int)} {vals : List Value} {b : List Int} {a1 : Option Addr} {c1 : Nat} {a2 : Option Addr} {c2 : Nat} (h : Lists w base v bs vals)
    (ho1 : w.ownsRow base 5 1 (.slice a1 b.length c1) b.length (b.map (Value.int .u8))) (hdis : ∀ x ∈ vals, ∀ g, x.ownBlock = some g → (Value.slice a1 b.length c1).ownBlock ≠ some g) (hu : ∀ z ∈ b, 0 ≤ z ∧ z ≤ 255)
    (o2 : w2.ownsRow base 27 1 (.slice a2 (bs.length + 1) c2) (bs.length + 1) (vals ++ [.slice a1 b.length c1])) (g2 : (w.alloc (.cells #[.slice a1 b.length c1] 27)).grownBy w2 v.ownBlock) :
    Lists w2 base (.slice a2 (bs.length + 1) c2) (bs ++ [b]) (vals ++ [.slice a1 b.length c1]) := by
  have hl := h.len
  have k2 : But (fun k => v.ownBlock = some k) w w2 := (But.refl _ w).alloc _ |>.grown g2 (fun k _ e => e)
  have hone : w2.ownsRow base 5 1 (.slice a1 b.length c1) b.length (b.map (Value.int .u8)) := own_but ho1 k2 (fun g hg e => own_types ho1 h.own (by decide) g hg e)
  have hold : ∀ x ∈ vals, ∀ g, x.ownBlock = some g → ¬ v.ownBlock = some g := by
    intro x hx g hg e
    obtain ⟨b', _, a', c', rfl, ho⟩ := h.row hx
    exact own_types ho h.own (by decide) g hg e
  refine ⟨by rw [List.length_append]; exact o2, fun i b' hi => ?_, ?_, ?_⟩
  · by_cases hlt : i < bs.length
    · rw [List.getElem?_append_left hlt] at hi
      obtain ⟨a', c', e1, e2⟩ := h.each i b' hi
      exact ⟨a', c', by rw [List.getElem?_append_left (by omega)]; exact e1, own_but e2 k2 (hold _ (List.mem_of_getElem? e1))⟩
    · have hi2 := (List.getElem?_eq_some_iff.1 hi).1
      simp at hi2
      have e0 : i = bs.length := by omega
      subst e0
      rw [List.getElem?_append_right (Nat.le_refl _)] at hi
      simp at hi
      subst hi
      exact ⟨a1, c1, by rw [← hl, List.getElem?_append_right (Nat.le_refl _)]; simp, hone⟩
  · rw [List.pairwise_append]
    refine ⟨h.apart, List.pairwise_singleton _ _, ?_⟩
    intro x hx y hy
    simp at hy
    subst hy
    intro g hg e
    exact hdis x hx g hg e
  · intro b' hb'
    rcases List.mem_append.1 hb' with hb' | hb'
    · exact h.u8 b' hb'
    · simp at hb'; subst hb'; exact hu
/-- As a family. -/
theorem Lists.many {w : World} {base : Nat} {bs : List (List Int)} {vals : List Value} {A c : Nat} (h : Lists w base (.slice (some ⟨A, 0, none⟩) bs.length c) bs vals) :
    Many w base A c bs.length (fun i => vals.getD i undef) (fun i => (bs.getD i []).length) (fun i => bs.getD i []) := by
  have hl := h.len
  refine ⟨?_, fun i hi => ?_, fun i j hi hj hij => ?_⟩
  · have e : (List.range bs.length).map (fun i => vals.getD i undef) = vals := by
      apply List.ext_getElem
      · simp [hl]
      · intro i h1 h2
        simp [h2]
    rw [e]; exact h.own
  · obtain ⟨a, c', h1, h2⟩ := h.each i (bs.getD i []) (by simp [hi])
    show w.ownsRow base 5 1 (vals.getD i undef) _ _
    rw [List.getD_eq_getElem?_getD, h1]
    exact h2
  · show (vals.getD i undef).ownBlock = none ∨ (vals.getD i undef).ownBlock ≠ (vals.getD j undef).ownBlock
    cases hq : (vals.getD i undef).ownBlock with
    | none => exact .inl rfl
    | some g =>
      right
      intro e
      exact h.far (i := i) (j := j) (x := vals.getD i undef) (y := vals.getD j undef) (by simp [hl, hi]) (by simp [hl, hj]) hij g hq e.symm
theorem Lists.setRow {w : World} {base b : Nat} {v : Value} {bs : List (List Int)} {vals : List Value} {ds : Array Value} {T : TypeId} {fr : Nat × Nat} (h : Lists w base v bs vals) (hb : w.heap[b]? = some (.cells ds T fr)) (h5 : (5 : Nat) ≠ T) (hB : 27 ≠ T) (cs : Array Value) : Lists (w.setRow b cs) base v bs vals :=
  ⟨own_setRow h.own (own_ne_cells h.own hb hB) cs, fun i x hi => by
    obtain ⟨a, c, h1, h2⟩ := h.each i x hi
    exact ⟨a, c, h1, own_setRow h2 (own_ne_cells h2 hb h5) cs⟩, h.apart, h.u8⟩
theorem row_lit3 {w : World} {g : Nat} {a b c : Int} (h : w.heap[g]? = some (.cells #[.int .u8 a, .int .u8 b, .int .u8 c] 5 (0, 0))) (ha : 0 ≤ a ∧ a ≤ 255) (hb : 0 ≤ b ∧ b ≤ 255) (hc : 0 ≤ c ∧ c ≤ 255) : Row w (some ⟨g, 0, none⟩) 3 [a, b, c] := by
  refine ⟨rfl, u8_of_mem (by intro z hz; simp at hz; rcases hz with rfl | rfl | rfl <;> assumption), .inr ⟨g, 0, rfl, fun i hi => ?_⟩⟩
  match i, hi with
  | 0, _ => rw [cell_of_row w g (0 + 0) _ 5 (0, 0) h]; rfl
  | 1, _ => rw [cell_of_row w g (0 + 1) _ 5 (0, 0) h]; rfl
  | 2, _ => rw [cell_of_row w g (0 + 2) _ 5 (0, 0) h]; rfl
set_option maxRecDepth 20000 in
theorem apart_none (w : World) : Calls Tryd.prog 16 #[.slice none 0 0] w fun e w' => e = .returned (.bool true) ∧ Below w.heap.size w w' := by
  have HB : Hid (Below w.heap.size w w) := hide (Below.refl _ _)
  go_enter Tryd.func16, Tryd.ntmps16
  go_wp2_with fail
  refine wp_loop_rounds 1 ?_
  rw [rounds_succ]
  go_wp2_with fail
  refine wp_loop_rounds 1 ?_
  rw [rounds_succ]
  go_wp2_with fail
  refine wp_loop_rounds 1 ?_
  rw [rounds_succ]
  go_wp2
  go_ret
  exact ⟨rfl, HB.out⟩
/-- What a region leaves alone: below a world's own blocks. -/
theorem Bel.alloc {w X : World} (h : Below w.heap.size w X) (o : Obj) : Below w.heap.size w (X.alloc o) := h.alloc h.size o
theorem Bel.set {w X : World} {g i : Nat} (h : Below w.heap.size w X) (hg : w.heap.size ≤ g) (v : Value) : Below w.heap.size w (X.setCell ⟨g, i, none⟩ v) := h.setCell (p := ⟨g, i, none⟩) hg v
theorem rec5_heap {w : World} {g : Nat} {T : TypeId} {a b c d e x y z u v : Value} (h : w.heap[g]? = some (.cells #[a, b, c, d, e] T (0, 0))) : (((((w.setCell ⟨g, 0, none⟩ x).setCell ⟨g, 1, none⟩ y).setCell ⟨g, 2, none⟩ z).setCell ⟨g, 3, none⟩ u).setCell ⟨g, 4, none⟩ v).heap[g]? = some (.cells #[x, y, z, u, v] T (0, 0)) :=
  set1_heap v (set1_heap u (set1_heap z (set1_heap y (set1_heap x h))))
theorem heap_newS {w : World} {o : Obj} {n : Nat} (h : w.heap.size = n) : (w.alloc o).heap[n]? = some o := by rw [← h]; exact heap_new _ _
theorem heap_new2 (w : World) (o p : Obj) : ((w.alloc o).alloc p).heap[w.heap.size + 1]? = some p := heap_newS (by simp)
theorem text_one : (text ⟨0, 0, 0⟩ ⟨0, 1, 7, 0, 0⟩).length = 3 := by
  unfold text xO xA xK
  have hd : diff 0 7 = 14 := by first | rfl | (simp [diff, zig, wrap64, IntKind.wrap_u64]) | (unfold diff zig wrap64; rw [IntKind.wrap_u64]; decide)
  simp [enc_small, hd]
end Go.Proofs.YtgecdnmgifcghaaDoor
