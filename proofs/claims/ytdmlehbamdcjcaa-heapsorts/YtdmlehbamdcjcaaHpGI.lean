/-
  Push and Pop.
-/
import Derived.Test.YtdmlehbamdcjcaaHpFI
namespace Go.Proofs.Ytdmlehbamdcjcaa
open Go.RowKit
theorem push_nilI (x : It) (w : World) : Calls Try.prog 15 #[.pointer none, .agg #[.int .i64 x.k, .int .i64 x.t]] w fun r w' => r = .returned (.int .i64 1) ∧ Below w.heap.size w w' := by
  obtain ⟨a0, a1⟩ := x
  go_enter Try.func15, Try.ntmps15
  go_wp2
  go_ret
  exact ⟨rfl, below_alloc1 _ _⟩
set_option maxRecDepth 8000 in
set_option maxHeartbeats 1600000 in
theorem pushI (w : World) (base p : Nat) (v : Value) (n : Int) (E : List (It × Int)) (x : It) (h : HqI w base p v n E) (hbase : base ≤ w.heap.size) (hn0 : 0 ≤ n) (hn1 : n ≤ 9000000000000000000) (hl : (E.length : Int) + 1 ≤ 8796093022208) :
    Calls Try.prog 15 #[.pointer (some ⟨p, 0, none⟩), .agg #[.int .i64 x.k, .int .i64 x.t]] w fun r w' => r = .returned (.int .i64 0) ∧ ∃ g c E', HqI w' base p (.slice (some ⟨g, 0, none⟩) (E.length + 1) c) (n + 1) E' ∧ E'.Perm (E ++ [(x, n)]) ∧ (Ord (fst bfI) → Hp (fst bfI) E → Hp (fst bfI) E') ∧ But (fun k => k = p ∨ v.ownBlock = some k) w w' ∧ (v.ownBlock = some g ∨ w.heap.size ≤ g) := by
  obtain ⟨a0, a1⟩ := x
  obtain ⟨w1, hw1⟩ : ∃ w1, w1 = w.alloc (.cells #[.int .i64 a0, .int .i64 a1] 27) := ⟨_, rfl⟩
  have hb1 : Below w.heap.size w w1 := by rw [hw1]; exact below_alloc1 _ _
  have hs1 : w.heap.size < w1.heap.size := by rw [hw1]; simp
  have r1 : w1.heap[w.heap.size]? = some (.cells #[.int .i64 a0, .int .i64 a1] 27 (0, 0)) := by rw [hw1]; exact heap_new _ _
  have h1 := h.below hb1
  have hp := h.lt
  have hvb : ∀ k, v.ownBlock = some k → k < w.heap.size := fun k hk => (h.own.lt k hk).2
  have H1 : Hid _ := hide h1
  have H1d : Hid (HqI w1.drew base p v n E) := hide (h1.below (Below.refl _ _).drew)
  have HB1 : Hid _ := hide hb1
  have HW1 : Hid _ := hide hw1
  have HV : Hid _ := hide hvb
  obtain ⟨p0, p1, _⟩ := hp_cellsI h1.hp
  have HS : Hid (∀ X, But (fun k => k = p ∨ v.ownBlock = some k) w1 X → (∃ v', X.heap[p]? = some (.cells #[v', .int .i64 n] 81 (0, 0))) → X.cell? ⟨p, 1, none⟩ = some (.int .i64 n) ∧ X.cell? ⟨w.heap.size, 0, none⟩ = some (.int .i64 a0) ∧ X.cell? ⟨w.heap.size, 1, none⟩ = some (.int .i64 a1)) := hide (fun X hX h9 => by
    obtain ⟨v', h9⟩ := h9
    have r2 := (hX.block w.heap.size hs1 (fun e9 => e9.elim (fun e8 => by omega) (fun e8 => by have := hvb _ e8; omega))).trans r1
    exact ⟨(hp_cellsI h9).2.1, cell_at r2 rfl, cell_at r2 rfl⟩)
  have HS0 := HS.out _ (But.refl _ _) ⟨_, h1.hp⟩
  obtain ⟨x0, x1, x2⟩ := HS0
  clear h h1 hb1 hw1 r1 hvb
  go_enter Try.func15, Try.ntmps15
  go_wp2_with fail
  rw [← HW1.out]
  go_region_held3 (fun X => X.cell? ⟨p, 1, none⟩ = some (.int .i64 n) ∧ X.cell? ⟨w.heap.size, 0, none⟩ = some (.int .i64 a0) ∧ X.cell? ⟨w.heap.size, 1, none⟩ = some (.int .i64 a1)) (first | exact HS.out _ hb3 ⟨_, H3⟩ | exact HS.out _ (But.refl _ _) ⟨_, H1.out.hp⟩ | exact HS.out _ (But.refl _ _).drew ⟨_, H1.out.hp⟩) (first
    | (go_at_call 44; go_must (
       refine (putI w1.drew base p v n E (⟨a0, a1⟩, n) H1d.out.hp H1d.out.own (by simp; omega) (by omega)).mono ?_
       rintro e2 w3 ⟨rfl, g, c, E', H3, O3, P3, F3, B3, G3⟩
       have hb3 : But (fun k => k = p ∨ v.ownBlock = some k) w1 w3 := (But.refl _ _).drew.trans B3 (fun _ _ e9 => e9))))
  have q1 := (hp_cellsI H3).2.1
  have fz := frz H3 1
  have HH3 : Hid _ := hide H3
  have HO3 : Hid _ := hide O3
  have HP3 : Hid _ := hide P3
  have HF3 : Hid _ := hide F3
  have HG3 : Hid _ := hide G3
  have HB3 : Hid _ := hide hb3
  clear H3 O3 P3 F3 B3 G3 hb3 x0 x1 x2 p0 p1
  go_wp2
  go_ret
  have B4 : But (fun k => k = p) w3 (w3.setCell ⟨p, 1, none⟩ (.int .i64 (n + 1))) := (But.refl (fun k => k = p) w3).setCell ⟨p, 1, none⟩ (fun _ => rfl) _
  have hne : some g ≠ some p := own_ne_cells HO3.out HH3.out (by decide)
  refine ⟨rfl, g, c, E', ⟨set1_heap _ HH3.out, HO3.out.but B4 (fun k hk e9 => hne (by rw [← (e9 : k = p)]; exact hk))⟩, HP3.out, HF3.out, ((But.of_below HB1.out).trans HB3.out (fun _ _ e9 => e9)).trans B4 (fun _ _ e9 => .inl e9), HG3.out.imp id (fun e9 => ?_)⟩
  have e8 : w1.heap.size ≤ g := e9
  omega
theorem pop_nilI (w : World) : Calls Try.prog 16 #[.pointer none] w fun r w' => r = .returned (.tuple #[.agg #[.int .i64 0, .int .i64 0], .int .i64 1]) ∧ Below w.heap.size w w' := by
  go_enter Try.func16, Try.ntmps16
  go_wp2_with fail
  refine (peek_nilI _).mono ?_
  rintro r w1 ⟨rfl, hb1⟩
  have r1 := (hb1.block w.heap.size (by simp)).trans (heap_new w _)
  have HB1 : Hid _ := hide (Below.on (below_alloc1 w _) hb1)
  have hs2 : w.heap.size < w1.heap.size := by have hs1 := hb1.size; simp at hs1; omega
  have x0 : w1.cell? ⟨w.heap.size, 0, none⟩ = some (.int .i64 0) := cell_at r1 rfl; have x1 : w1.cell? ⟨w.heap.size, 1, none⟩ = some (.int .i64 0) := cell_at r1 rfl
  have z0 := frz r1 0; have z1 := frz r1 1
  have HR1 : Hid _ := hide r1
  clear r1 hb1
  go_wp2_with fail
  refine bodyPost_ret (results_ct rfl _ _ w.heap.size 27 #[.int .i64 0, .int .i64 0] (0, 0) _ rfl ?_ Try.underlying27 rfl (by kernel_rfl)) rfl ?_
  · exact (Below.heap_alloc _ _ _ (by simp; omega)).trans (set1_heap _ (set1_heap _ (HR1.out)))
  · exact ⟨rfl, (((HB1.out.setCell (p := ⟨w.heap.size, 0, none⟩) (Nat.le_refl _) _).setCell (p := ⟨w.heap.size, 1, none⟩) (Nat.le_refl _) _)).alloc (by simp; omega) _⟩
theorem pop_emptyI {w : World} {base p : Nat} {v : Value} {n : Int} (h : HqI w base p v n []) : Calls Try.prog 16 #[.pointer (some ⟨p, 0, none⟩)] w fun r w' => r = .returned (.tuple #[.agg #[.int .i64 0, .int .i64 0], .int .i64 90]) ∧ Below w.heap.size w w' := by
  go_enter Try.func16, Try.ntmps16
  go_wp2_with fail
  refine (peek_emptyI (h.below (below_alloc1 _ _))).mono ?_
  rintro r w1 ⟨rfl, hb1⟩
  have r1 := (hb1.block w.heap.size (by simp)).trans (heap_new w _)
  have HB1 : Hid _ := hide (Below.on (below_alloc1 w _) hb1)
  have hs2 : w.heap.size < w1.heap.size := by have hs1 := hb1.size; simp at hs1; omega
  have x0 : w1.cell? ⟨w.heap.size, 0, none⟩ = some (.int .i64 0) := cell_at r1 rfl; have x1 : w1.cell? ⟨w.heap.size, 1, none⟩ = some (.int .i64 0) := cell_at r1 rfl
  have z0 := frz r1 0; have z1 := frz r1 1
  have HR1 : Hid _ := hide r1
  clear r1 hb1
  go_wp2_with fail
  refine bodyPost_ret (results_ct rfl _ _ w.heap.size 27 #[.int .i64 0, .int .i64 0] (0, 0) _ rfl ?_ Try.underlying27 rfl (by kernel_rfl)) rfl ?_
  · exact (Below.heap_alloc _ _ _ (by simp; omega)).trans (set1_heap _ (set1_heap _ (HR1.out)))
  · exact ⟨rfl, (((HB1.out.setCell (p := ⟨w.heap.size, 0, none⟩) (Nat.le_refl _) _).setCell (p := ⟨w.heap.size, 1, none⟩) (Nat.le_refl _) _)).alloc (by simp; omega) _⟩
set_option maxRecDepth 8000 in
set_option maxHeartbeats 1600000 in
theorem popI (w : World) (base p g c M : Nat) (n : Int) (E : List (It × Int)) (e : It × Int) (h : HqI w base p (.slice (some ⟨g, 0, none⟩) (M + 1) c) n E) (hE : E.length = M + 1) (h0 : E[0]? = some e) (hl : (M : Int) + 1 ≤ 8796093022208) :
    Calls Try.prog 16 #[.pointer (some ⟨p, 0, none⟩)] w fun r w' => r = .returned (.tuple #[.agg #[.int .i64 e.1.k, .int .i64 e.1.t], .int .i64 0]) ∧ ∃ E', HqI w' base p (.slice (some ⟨g, 0, none⟩) M c) n E' ∧ E'.Perm (cutTop E) ∧ (Ord (fst bfI) → Hp (fst bfI) E → Hp (fst bfI) E') ∧ But (fun k => k = p ∨ k = g) w w' := by
  obtain ⟨⟨a0, a1⟩, ua⟩ := e
  have hp := h.lt
  have hg : g < w.heap.size := (h.own.lt g rfl).2
  have H : Hid _ := hide h
  have HE : Hid _ := hide hE
  have H0 : Hid _ := hide h0
  have PK := peekI (h.below (below_alloc1 w (.cells #[.int .i64 0, .int .i64 0] 27))) h0
  clear h hE h0
  go_enter Try.func16, Try.ntmps16
  go_wp2_with fail
  refine PK.mono ?_
  rintro r w1 ⟨rfl, hb1⟩
  clear PK
  have r1 := (hb1.block w.heap.size (by simp)).trans (heap_new w _)
  have b01 : Below w.heap.size w w1 := Below.on (below_alloc1 w _) hb1
  have hs1 : w.heap.size < w1.heap.size := by have hs1 := hb1.size; simp at hs1; omega
  obtain ⟨w2, hw2⟩ : ∃ w2, w2 = w1.alloc (.cells #[.int .i64 a0, .int .i64 a1] 27) := ⟨_, rfl⟩
  have b02 : Below w.heap.size w w2 := by rw [hw2]; exact b01.alloc (by omega) _
  have r2 : w2.heap[w.heap.size]? = some (.cells #[.int .i64 0, .int .i64 0] 27 (0, 0)) := by rw [hw2]; exact (Below.heap_alloc _ _ _ hs1).trans r1
  have e2 : w2.heap[w1.heap.size]? = some (.cells #[.int .i64 a0, .int .i64 a1] 27 (0, 0)) := by rw [hw2]; exact heap_new _ _
  have hs2 : w1.heap.size < w2.heap.size := by rw [hw2]; simp
  have h2 := H.out.below b02
  have TK := takeI w2 base p g c M n E (⟨a0, a1⟩, ua) HE.out H0.out h2.hp h2.own hl
  have HW2 : Hid _ := hide hw2
  clear r1 b01 hb1 hw2 h2
  go_wp2_with fail
  rw [← HW2.out]
  refine TK.mono ?_
  rintro r w3 ⟨rfl, E', H3, O3, P3, F3, B3⟩
  have hs3 := B3.size
  have r3 := (B3.block w.heap.size (by omega) (by omega)).trans r2
  have e3 := (B3.block w1.heap.size (by omega) (by omega)).trans e2
  have y0 : w3.cell? ⟨w1.heap.size, 0, none⟩ = some (.int .i64 a0) := cell_at e3 rfl; have y1 : w3.cell? ⟨w1.heap.size, 1, none⟩ = some (.int .i64 a1) := cell_at e3 rfl
  have x0 : w3.cell? ⟨w.heap.size, 0, none⟩ = some (.int .i64 0) := cell_at r3 rfl; have x1 : w3.cell? ⟨w.heap.size, 1, none⟩ = some (.int .i64 0) := cell_at r3 rfl
  have z0 := frz r3 0; have z1 := frz r3 1
  have hab : ¬ w.heap.size = w1.heap.size := by omega
  have HH3 : Hid _ := hide H3
  have HO3 : Hid _ := hide O3
  have HP3 : Hid _ := hide P3
  have HF3 : Hid _ := hide F3
  have HB3 : Hid _ := hide ((But.of_below (S := fun k => k = p ∨ k = g) b02).trans B3 (fun _ _ e9 => e9))
  have HR3 : Hid _ := hide r3
  have HG : Hid (¬ g = w.heap.size ∧ ¬ p = w.heap.size ∧ p < w3.heap.size) := hide ⟨by omega, by omega, by omega⟩
  clear H3 O3 P3 F3 B3 r3 e3 r2 e2 TK b02 hs1 hs2 hs3 hl hp hg
  go_wp2_with fail
  have R7 : (setC w3 w.heap.size 0 [.int .i64 a0, .int .i64 a1]).heap[w.heap.size]? = some (.cells #[.int .i64 a0, .int .i64 a1] 27 (0, 0)) := set1_heap _ (set1_heap _ (HR3.out))
  have B7 : But (fun k => k = w.heap.size) w3 (setC w3 w.heap.size 0 [.int .i64 a0, .int .i64 a1]) := (But.refl (fun k => k = w.heap.size) w3).setC _ (fun _ => rfl)
  refine bodyPost_ret (results_ct rfl _ _ w.heap.size 27 #[.int .i64 a0, .int .i64 a1] (0, 0) _ rfl R7 Try.underlying27 rfl (by kernel_rfl)) rfl ?_
  exact ⟨rfl, E', ⟨(B7.block p HG.out.2.2 HG.out.2.1).trans HH3.out, HO3.out.but B7 (fun k hk e9 => HG.out.1 (by simp [Value.ownBlock] at hk; omega))⟩, HP3.out, HF3.out, HB3.out.trans B7 (fun i hi e9 => by have e8 : i = w.heap.size := e9; omega)⟩
end Go.Proofs.Ytdmlehbamdcjcaa
