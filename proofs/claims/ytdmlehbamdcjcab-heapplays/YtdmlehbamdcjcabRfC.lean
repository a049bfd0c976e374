/-
  The document's heap: Peek, Pop, Sorted.
-/
import Derived.Test.YtdmlehbamdcjcabRfB
namespace Go.Proofs.Ytdmlehbamdcjcab
open Go.RowKit
theorem r9peek_nil (w : World) : Calls Try.prog 30 #[.pointer none] w fun r w' => r = .returned (.tuple #[.agg #[.int .i64 0, .int .i64 0], .int .i64 1]) ∧ Below w.heap.size w w' := by
  go_enter Try.func30, Try.ntmps30
  go_wp2_with fail
  refine bodyPost_ret (results_ct rfl _ _ w.heap.size 28 #[.int .i64 0, .int .i64 0] (0, 0) _ rfl ?_ Try.underlying28 rfl (by kernel_rfl)) rfl ?_
  · exact heap_new _ _
  · exact ⟨rfl, below_alloc1 _ _⟩
theorem r9peek_empty {w : World} {q : Nat} (h : Rq w q []) : Calls Try.prog 30 #[.pointer (some ⟨q, 0, none⟩)] w fun r w' => r = .returned (.tuple #[.agg #[.int .i64 0, .int .i64 0], .int .i64 90]) ∧ Below w.heap.size w w' := by
  obtain ⟨a, c, h⟩ := h
  have c0 : w.cell? ⟨q, 0, none⟩ = some (.slice a 0 c) := cell_at h.hp rfl
  have hq : q < w.heap.size := (Array.getElem?_eq_some_iff.1 h.hp).1
  clear h
  go_enter Try.func30, Try.ntmps30
  go_wp2_with fail
  refine bodyPost_ret (results_ct rfl _ _ w.heap.size 28 #[.int .i64 0, .int .i64 0] (0, 0) _ rfl ?_ Try.underlying28 rfl (by kernel_rfl)) rfl ?_
  · exact heap_new _ _
  · exact ⟨rfl, below_alloc1 _ _⟩
theorem r9peek {w : World} {q : Nat} {x : It} {L : List It} (h : Rq w q (x :: L)) : Calls Try.prog 30 #[.pointer (some ⟨q, 0, none⟩)] w fun r w' => r = .returned (.tuple #[.agg #[.int .i64 x.k, .int .i64 x.t], .int .i64 0]) ∧ Below w.heap.size w w' := by
  obtain ⟨xk, xt⟩ := x
  obtain ⟨a, c, h⟩ := h
  have c0 : w.cell? ⟨q, 0, none⟩ = some (.slice a (L.length + 1) c) := cell_at h.hp rfl
  have hq : q < w.heap.size := (Array.getElem?_eq_some_iff.1 h.hp).1
  obtain ⟨b, off, rfl, hb, hc⟩ := h.row.at (by simp)
  have x0 := hc 0 _ rfl 0 _ rfl
  have x1 := hc 0 _ rfl 1 _ rfl
  simp only [Nat.zero_mul, Nat.add_zero] at x0 x1
  clear h hc
  go_enter Try.func30, Try.ntmps30
  go_wp2_with fail
  refine bodyPost_ret (results_ct rfl _ _ w.heap.size 28 #[.int .i64 xk, .int .i64 xt] (0, 0) _ rfl ?_ Try.underlying28 rfl (by kernel_rfl)) rfl ?_
  · exact heap_new _ _
  · exact ⟨rfl, below_alloc1 _ _⟩
theorem r9pop_nil (w : World) : Calls Try.prog 29 #[.pointer none] w fun r w' => r = .returned (.tuple #[.agg #[.int .i64 0, .int .i64 0], .int .i64 1]) ∧ Below w.heap.size w w' := by
  have PK := r9peek_nil (w.alloc (.cells #[.int .i64 0, .int .i64 0] 28))
  go_enter Try.func29, Try.ntmps29
  go_wp2_with fail
  refine PK.mono ?_
  rintro r w1 ⟨rfl, hb1⟩
  have r1 := (hb1.block w.heap.size (by simp)).trans (heap_new w _)
  have HB1 : Hid _ := hide (Below.on (below_alloc1 w _) hb1)
  have hs2 : w.heap.size < w1.heap.size := by have hs1 := hb1.size; simp at hs1; omega
  have x0 : w1.cell? ⟨w.heap.size, 0, none⟩ = some (.int .i64 0) := cell_at r1 rfl
  have x1 : w1.cell? ⟨w.heap.size, 1, none⟩ = some (.int .i64 0) := cell_at r1 rfl
  have z0 := frz r1 0
  have z1 := frz r1 1
  have HR1 : Hid _ := hide r1
  clear r1 hb1
  go_wp2_with fail
  refine bodyPost_ret (results_ct rfl _ _ w.heap.size 28 #[.int .i64 0, .int .i64 0] (0, 0) _ rfl ?_ Try.underlying28 rfl (by kernel_rfl)) rfl ?_
  · exact (Below.heap_alloc _ _ _ (by simp; omega)).trans (set1_heap _ (set1_heap _ HR1.out))
  · exact ⟨rfl, ((HB1.out.setCell (p := ⟨w.heap.size, 0, none⟩) (Nat.le_refl _) _).setCell (p := ⟨w.heap.size, 1, none⟩) (Nat.le_refl _) _).alloc (by simp; omega) _⟩
theorem r9pop_empty {w : World} {q : Nat} (h : Rq w q []) : Calls Try.prog 29 #[.pointer (some ⟨q, 0, none⟩)] w fun r w' => r = .returned (.tuple #[.agg #[.int .i64 0, .int .i64 0], .int .i64 90]) ∧ Below w.heap.size w w' := by
  have PK := r9peek_empty (w := w.alloc (.cells #[.int .i64 0, .int .i64 0] 28)) (h.but (S := fun _ => False) (But.of_below (below_alloc1 _ _)) (fun e => e) (fun _ _ _ _ e => e))
  go_enter Try.func29, Try.ntmps29
  go_wp2_with fail
  refine PK.mono ?_
  rintro r w1 ⟨rfl, hb1⟩
  have r1 := (hb1.block w.heap.size (by simp)).trans (heap_new w _)
  have HB1 : Hid _ := hide (Below.on (below_alloc1 w _) hb1)
  have hs2 : w.heap.size < w1.heap.size := by have hs1 := hb1.size; simp at hs1; omega
  have x0 : w1.cell? ⟨w.heap.size, 0, none⟩ = some (.int .i64 0) := cell_at r1 rfl
  have x1 : w1.cell? ⟨w.heap.size, 1, none⟩ = some (.int .i64 0) := cell_at r1 rfl
  have z0 := frz r1 0
  have z1 := frz r1 1
  have HR1 : Hid _ := hide r1
  clear r1 hb1
  go_wp2_with fail
  refine bodyPost_ret (results_ct rfl _ _ w.heap.size 28 #[.int .i64 0, .int .i64 0] (0, 0) _ rfl ?_ Try.underlying28 rfl (by kernel_rfl)) rfl ?_
  · exact (Below.heap_alloc _ _ _ (by simp; omega)).trans (set1_heap _ (set1_heap _ HR1.out))
  · exact ⟨rfl, ((HB1.out.setCell (p := ⟨w.heap.size, 0, none⟩) (Nat.le_refl _) _).setCell (p := ⟨w.heap.size, 1, none⟩) (Nat.le_refl _) _).alloc (by simp; omega) _⟩
theorem r9tail {S : Nat → Prop} {w1 W : World} {q b off off2 c c2 : Nat} {x : It} {L : List It} (H1 : Rr w1 q (some ⟨b, off, none⟩) c (x :: L)) (hB : But S w1 W) (hS : ¬ S b) (hW : W.heap[q]? = some (.cells #[.slice (some ⟨b, off2, none⟩) L.length c2] 64 (0, 0))) (hcap : L.length ≤ c2) (hoff : off2 = off + 2 ∨ L.length = 0) : Rr W q (some ⟨b, off2, none⟩) c2 L := by
  obtain ⟨b', off', cur, fr, e1, hbb⟩ := H1.ty _ rfl
  cases e1
  have hlt := (Array.getElem?_eq_some_iff.1 hbb).1
  refine ⟨hW, ?_, (fun e => by cases e), hcap, fun ad had => ⟨b, off2, cur, fr, by injection had with e; exact e.symm, (hB.block b hlt hS).trans hbb⟩⟩
  rcases hoff with e | e
  · subst e
    have h9 := (H1.row.but hB hlt hS).drop 1 (by simp)
    simpa [layI] using h9
  · exact ⟨rfl, .inl e⟩
set_option maxRecDepth 8000 in
set_option maxHeartbeats 1600000 in
theorem r9pop {w : World} {q : Nat} {x : It} {L : List It} (h : Rq w q (x :: L)) (hl : (L.length : Int) ≤ 5000000000000) : Calls Try.prog 29 #[.pointer (some ⟨q, 0, none⟩)] w fun r w' => r = .returned (.tuple #[.agg #[.int .i64 x.k, .int .i64 x.t], .int .i64 0]) ∧ Rq w' q L ∧ But (fun k => k = q) w w' := by
  have PK := r9peek (w := w.alloc (.cells #[.int .i64 0, .int .i64 0] 28)) (h.but (S := fun _ => False) (But.of_below (below_alloc1 _ _)) (fun e => e) (fun _ _ _ _ e => e))
  obtain ⟨xk, xt⟩ := x
  obtain ⟨a, c, h⟩ := h
  obtain ⟨b, off, rfl, hb, -⟩ := h.row.at (by simp)
  have hq : q < w.heap.size := (Array.getElem?_eq_some_iff.1 h.hp).1
  have hcap : L.length + 1 ≤ c := h.cap
  have H : Hid _ := hide h
  clear h
  by_cases hc1 : c = 1
  · subst hc1
    go_enter Try.func29, Try.ntmps29
    go_wp2_with fail
    refine PK.mono ?_
    rintro r w1 ⟨rfl, hb1⟩
    clear PK
    have r1 := (hb1.block w.heap.size (by simp)).trans (heap_new w _)
    have b01 : Below w.heap.size w w1 := Below.on (below_alloc1 w _) hb1
    have hs1 : w.heap.size < w1.heap.size := by have hs1 := hb1.size; simp at hs1; omega
    have H1 := H.out.below b01
    have q0 : w1.cell? ⟨q, 0, none⟩ = some (.slice (some ⟨b, off, none⟩) (L.length + 1) 1) := cell_at H1.hp rfl
    have fq := frz H1.hp 0
    have x0 : w1.cell? ⟨w.heap.size, 0, none⟩ = some (.int .i64 0) := cell_at r1 rfl
    have x1 : w1.cell? ⟨w.heap.size, 1, none⟩ = some (.int .i64 0) := cell_at r1 rfl
    have z0 := frz r1 0
    have z1 := frz r1 1
    have HB1 : Hid _ := hide b01
    have HR1 : Hid _ := hide r1
    have HH1 : Hid _ := hide H1
    have hq1 : q < w1.heap.size := by omega
    have hqw : ¬ q = w.heap.size := by omega
    have hwq : ¬ w.heap.size = q := by omega
    clear r1 b01 hb1 H1
    go_wp2_with fail
    have H2 : (w1.setCell ⟨q, 0, none⟩ (.slice (some ⟨b, off, none⟩) 0 0)).heap[q]? = some (.cells #[.slice (some ⟨b, off, none⟩) 0 0] 64 (0, 0)) := set1_heap _ HH1.out.hp
    have B2 : But (fun k => k = q) w1 (w1.setCell ⟨q, 0, none⟩ (.slice (some ⟨b, off, none⟩) 0 0)) := (But.refl (fun k => k = q) w1).setCell ⟨q, 0, none⟩ (fun _ => rfl) _
    have A2 := (B2.block w.heap.size hs1 hwq).trans HR1.out
    generalize w1.setCell ⟨q, 0, none⟩ (.slice (some ⟨b, off, none⟩) 0 0) = w2 at H2 B2 A2 ⊢
    have R7 : (setC w2 w.heap.size 0 [.int .i64 xk, .int .i64 xt]).heap[w.heap.size]? = some (.cells #[.int .i64 xk, .int .i64 xt] 28 (0, 0)) := set1_heap _ (set1_heap _ A2)
    have B7 : But (fun k => k = w.heap.size) w2 (setC w2 w.heap.size 0 [.int .i64 xk, .int .i64 xt]) := (But.refl (fun k => k = w.heap.size) w2).setC _ (fun _ => rfl)
    have hs2 := B2.size
    have hs7 := B7.size
    have hA7 : w.heap.size < (setC w2 w.heap.size 0 [.int .i64 xk, .int .i64 xt]).heap.size := by omega
    have B8 := B7.alloc (.cells #[.int .i64 xk, .int .i64 xt] 28)
    refine bodyPost_ret (results_ct rfl _ _ w.heap.size 28 #[.int .i64 xk, .int .i64 xt] (0, 0) _ rfl ((Below.heap_alloc _ _ _ hA7).trans R7) Try.underlying28 rfl (by kernel_rfl)) rfl ?_
    refine ⟨rfl, ⟨some ⟨b, off, none⟩, 0, r9tail HH1.out ((B2.mono (T := fun k => k = q ∨ k = w.heap.size) (fun _ e => .inl e)).trans B8 (fun _ _ e => .inr e)) ?_ ?_ (by omega) (by omega)⟩, ((But.of_below HB1.out).trans B2 (fun _ _ e => e)).trans B8 (fun i hi e => by have e9 : i = w.heap.size := e; omega)⟩
    · intro e
      rcases e with e | e
      · obtain ⟨b', off', cur, fr, e1, hbb⟩ := HH1.out.ty _ rfl
        cases e1
        have h9 := HH1.out.hp
        rw [← e, hbb] at h9
        injection h9 with h9
        injection h9 with _ h9 _
        exact absurd h9 (by decide)
      · omega
    · have hL0 : L.length = 0 := by omega
      rw [hL0]
      exact (B8.block q (by omega) hqw).trans H2
  · have hc2 : ¬ c = 1 := hc1
    go_enter Try.func29, Try.ntmps29
    go_wp2_with fail
    refine PK.mono ?_
    rintro r w1 ⟨rfl, hb1⟩
    clear PK
    have r1 := (hb1.block w.heap.size (by simp)).trans (heap_new w _)
    have b01 : Below w.heap.size w w1 := Below.on (below_alloc1 w _) hb1
    have hs1 : w.heap.size < w1.heap.size := by have hs1 := hb1.size; simp at hs1; omega
    have H1 := H.out.below b01
    have q0 : w1.cell? ⟨q, 0, none⟩ = some (.slice (some ⟨b, off, none⟩) (L.length + 1) c) := cell_at H1.hp rfl
    have fq := frz H1.hp 0
    have x0 : w1.cell? ⟨w.heap.size, 0, none⟩ = some (.int .i64 0) := cell_at r1 rfl
    have x1 : w1.cell? ⟨w.heap.size, 1, none⟩ = some (.int .i64 0) := cell_at r1 rfl
    have z0 := frz r1 0
    have z1 := frz r1 1
    have HB1 : Hid _ := hide b01
    have HR1 : Hid _ := hide r1
    have HH1 : Hid _ := hide H1
    have hq1 : q < w1.heap.size := by omega
    have hqw : ¬ q = w.heap.size := by omega
    have hwq : ¬ w.heap.size = q := by omega
    clear r1 b01 hb1 H1
    go_wp2_with fail
    have H2 : (w1.setCell ⟨q, 0, none⟩ (.slice (some ⟨b, off + 2, none⟩) L.length (c - 1))).heap[q]? = some (.cells #[.slice (some ⟨b, off + 2, none⟩) L.length (c - 1)] 64 (0, 0)) := set1_heap _ HH1.out.hp
    have B2 : But (fun k => k = q) w1 (w1.setCell ⟨q, 0, none⟩ (.slice (some ⟨b, off + 2, none⟩) L.length (c - 1))) := (But.refl (fun k => k = q) w1).setCell ⟨q, 0, none⟩ (fun _ => rfl) _
    have A2 := (B2.block w.heap.size hs1 hwq).trans HR1.out
    generalize w1.setCell ⟨q, 0, none⟩ (.slice (some ⟨b, off + 2, none⟩) L.length (c - 1)) = w2 at H2 B2 A2 ⊢
    have R7 : (setC w2 w.heap.size 0 [.int .i64 xk, .int .i64 xt]).heap[w.heap.size]? = some (.cells #[.int .i64 xk, .int .i64 xt] 28 (0, 0)) := set1_heap _ (set1_heap _ A2)
    have B7 : But (fun k => k = w.heap.size) w2 (setC w2 w.heap.size 0 [.int .i64 xk, .int .i64 xt]) := (But.refl (fun k => k = w.heap.size) w2).setC _ (fun _ => rfl)
    have hs2 := B2.size
    have hs7 := B7.size
    have hA7 : w.heap.size < (setC w2 w.heap.size 0 [.int .i64 xk, .int .i64 xt]).heap.size := by omega
    have B8 := B7.alloc (.cells #[.int .i64 xk, .int .i64 xt] 28)
    refine bodyPost_ret (results_ct rfl _ _ w.heap.size 28 #[.int .i64 xk, .int .i64 xt] (0, 0) _ rfl ((Below.heap_alloc _ _ _ hA7).trans R7) Try.underlying28 rfl (by kernel_rfl)) rfl ?_
    refine ⟨rfl, ⟨some ⟨b, off + 2, none⟩, (c - 1), r9tail HH1.out ((B2.mono (T := fun k => k = q ∨ k = w.heap.size) (fun _ e => .inl e)).trans B8 (fun _ _ e => .inr e)) ?_ ?_ (by omega) (by omega)⟩, ((But.of_below HB1.out).trans B2 (fun _ _ e => e)).trans B8 (fun i hi e => by have e9 : i = w.heap.size := e; omega)⟩
    · intro e
      rcases e with e | e
      · obtain ⟨b', off', cur, fr, e1, hbb⟩ := HH1.out.ty _ rfl
        cases e1
        have h9 := HH1.out.hp
        rw [← e, hbb] at h9
        injection h9 with h9
        injection h9 with _ h9 _
        exact absurd h9 (by decide)
      · omega
    · skip
      skip
      exact (B8.block q (by omega) hqw).trans H2
end Go.Proofs.Ytdmlehbamdcjcab
