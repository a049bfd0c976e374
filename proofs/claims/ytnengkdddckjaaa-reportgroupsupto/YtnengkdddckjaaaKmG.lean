/-
  A new shelf.
-/
import Derived.Test.YtnengkdddckjaaaKmF
namespace Go.Proofs.Ytnengkdddckjaaa
open Go.RowKit Go.Maps
set_option linter.unusedVariables false
set_option maxRecDepth 8000 in
set_option maxHeartbeats 2000000 in
theorem newShelf_any (es : List E6.Ev) (a : Option Addr) (n c : Nat) (w : World) (h : E6.ERow w a n es) :
    Calls Try.prog 15 #[.slice a n c] w fun e w' => ∃ m1 m2 m3, e = .returned (Sw.v ⟨a, n, c, m1, m2, m3⟩) ∧ Sh es w ⟨a, n, c, m1, m2, m3⟩ w' [] [] 0 := by
  have HR := hide h
  clear h
  have hm1 : ∀ X : World, (Instr.makeMap 44 none).run Try.prog X = .ok (.map (some X.heap.size)) (X.alloc (.map #[] 0)) := fun X => run_makeMap _ X
  have hm2 : ∀ X : World, (Instr.makeMap 45 none).run Try.prog X = .ok (.map (some X.heap.size)) (X.alloc (.map #[] 0)) := fun X => run_makeMap _ X
  have hm3 : ∀ X : World, (Instr.makeMap 46 none).run Try.prog X = .ok (.map (some X.heap.size)) (X.alloc (.map #[] 0)) := fun X => run_makeMap _ X
  go_enter Try.func15, Try.ntmps15
  go_wp2
  obtain ⟨w1, hw1⟩ : ∃ w1, w1 = w.alloc (.cells #[.slice a n c, .map (some (w.heap.size + 1)), .map (some (w.heap.size + 1 + 1)), .map (some (w.heap.size + 1 + 1 + 1))] 48) := ⟨_, rfl⟩
  rw [← hw1]
  have hs1 : w1.heap.size = w.heap.size + 1 := by rw [hw1]; simp
  have hh1 : w1.heap[w.heap.size]? = some (.cells #[.slice a n c, .map (some (w.heap.size + 1)), .map (some (w.heap.size + 1 + 1)), .map (some (w.heap.size + 1 + 1 + 1))] 48 (0, 0)) := by rw [hw1]; exact heap_new _ _
  have hb1 : Below w.heap.size w w1 := by rw [hw1]; exact below_alloc1 _ _
  clear hw1
  obtain ⟨w2, hw2⟩ : ∃ w2, w2 = w1.alloc (.map #[] 0) := ⟨_, rfl⟩
  have hs2 : w2.heap.size = w.heap.size + 1 + 1 := by rw [hw2]; simp [hs1]
  have hb2 : Below w1.heap.size w1 w2 := by rw [hw2]; exact below_alloc1 _ _
  have hn1 : NM yS w2 (w.heap.size + 1) [] := by rw [← hs1, hw2]; exact NM.made yS w1
  rw [← hw2]
  clear hw2
  obtain ⟨w3, hw3⟩ : ∃ w3, w3 = w2.alloc (.map #[] 0) := ⟨_, rfl⟩
  have hs3 : w3.heap.size = w.heap.size + 1 + 1 + 1 := by rw [hw3]; simp [hs2]
  have hb3 : Below w2.heap.size w2 w3 := by rw [hw3]; exact below_alloc1 _ _
  have hn2 : NM yP w3 (w.heap.size + 1 + 1) [] := by rw [← hs2, hw3]; exact NM.made yP w2
  rw [← hw3]
  clear hw3
  obtain ⟨w4, hw4⟩ : ∃ w4, w4 = w3.alloc (.map #[] 0) := ⟨_, rfl⟩
  have hb4 : Below w3.heap.size w3 w4 := by rw [hw4]; exact below_alloc1 _ _
  have hn3 : KM yI w4 (w.heap.size + 1 + 1 + 1) 0 (fun _ => none) := by rw [← hs3, hw4]; exact KM.made yI w3
  rw [← hw4]
  clear hw4
  have hb14 : Below w1.heap.size w1 w4 := Below.on (Below.on hb2 hb3) hb4
  refine bodyPost_ret (results_cell1 rfl _ _ w.heap.size 48 _ (0, 0) _ rfl ((hb14.block _ (by omega)).trans hh1) Try.underlying48 rfl (by kernel_rfl)) rfl ?_
  refine ⟨_, _, _, rfl, ?_⟩
  exact { row := HR.out, bel := Below.on hb1 hb14, g1 := by show _ ≤ w.heap.size + 1; omega, g2 := by show _ ≤ w.heap.size + 1 + 1; omega, g3 := by show _ ≤ w.heap.size + 1 + 1 + 1; omega,
          d12 := by show w.heap.size + 1 ≠ w.heap.size + 1 + 1; omega, d13 := by show w.heap.size + 1 ≠ w.heap.size + 1 + 1 + 1; omega, d23 := by show w.heap.size + 1 + 1 ≠ w.heap.size + 1 + 1 + 1; omega,
          nf := (hn1.below hb3).below hb4, ns := hn2.below hb4, ev := ⟨0, _, hn3, Nat.le_refl _, fun p s h => by cases h⟩, lf := Nat.le_refl _, ls := Nat.le_refl _ }
end Go.Proofs.Ytnengkdddckjaaa
