/-
  The first entry is taken out.
-/
import Derived.Test.YtdmlehbamdcjcaaHpDI
namespace Go.Proofs.Ytdmlehbamdcjcaa
open Go.RowKit
set_option maxRecDepth 8000 in
set_option maxHeartbeats 3200000 in
theorem takeI (w : World) (base p g c M : Nat) (n : Int) (E : List (It × Int)) (e : It × Int) (hE : E.length = M + 1) (h0 : E[0]? = some e) (hH : w.heap[p]? = some (.cells #[.slice (some ⟨g, 0, none⟩) (M + 1) c, .int .i64 n] 81 (0, 0))) (hO : Own layEI 77 w base (.slice (some ⟨g, 0, none⟩) (M + 1) c) E) (hl : (M : Int) + 1 ≤ 8796093022208) :
    Calls Try.prog 42 #[.pointer (some ⟨p, 0, none⟩)] w fun r w' => r = .returned (.agg #[.int .i64 e.1.k, .int .i64 e.1.t, .int .i64 e.2]) ∧ ∃ E', w'.heap[p]? = some (.cells #[.slice (some ⟨g, 0, none⟩) M c, .int .i64 n] 81 (0, 0)) ∧ Own layEI 77 w' base (.slice (some ⟨g, 0, none⟩) M c) E' ∧ E'.Perm (cutTop E) ∧ (Ord (fst bfI) → Hp (fst bfI) E → Hp (fst bfI) E') ∧ But (fun k => k = p ∨ k = g) w w' := by
  obtain ⟨⟨a0, a1⟩, ua⟩ := e
  obtain ⟨b, hM⟩ : ∃ b, E[M]? = some b := ⟨_, List.getElem?_eq_getElem (by omega)⟩
  have HM : Hid _ := hide hM
  have HE : Hid _ := hide hE
  have hcap : M + 1 ≤ c := by
    obtain ⟨a', c', hv, _, hc⟩ := own_form hO
    injection hv with _ h2 h3
    omega
  have HA : Hid (∀ W, Own layEI 77 W base (.slice (some ⟨g, 0, none⟩) (M + 1) c) E → W.cell? ⟨g, 0, none⟩ = some (.int .i64 a0) ∧ W.cell? ⟨g, 1, none⟩ = some (.int .i64 a1) ∧ W.cell? ⟨g, 2, none⟩ = some (.int .i64 ua)) := hide (fun W hW => ⟨by have := hW.cell h0 0 rfl; rw [Nat.zero_mul, Nat.zero_add] at this; exact this, by have := hW.cell h0 1 rfl; rw [Nat.zero_mul, Nat.zero_add] at this; exact this, by have := hW.cell h0 2 rfl; rw [Nat.zero_mul, Nat.zero_add] at this; exact this⟩)
  have HC : Hid (∀ W, Own layEI 77 W base (.slice (some ⟨g, 0, none⟩) (M + 1) c) E → W.cell? ⟨g, M * 3, none⟩ = some (.int .i64 b.1.k) ∧ W.cell? ⟨g, M * 3 + 1, none⟩ = some (.int .i64 b.1.t) ∧ W.cell? ⟨g, M * 3 + 2, none⟩ = some (.int .i64 b.2)) := hide (fun W hW => ⟨hW.cell hM 0 rfl, hW.cell hM 1 rfl, hW.cell hM 2 rfl⟩)
  obtain ⟨⟨b0, b1⟩, ub⟩ := b
  obtain ⟨p0, p1, hp⟩ := hp_cellsI hH
  have hg : g < w.heap.size := (hO.lt g rfl).2
  have hne : g ≠ p := fun e9 => own_ne_cells hO hH (by decide) (by rw [← e9]; rfl)
  have hne2 : ¬ p = g := fun e9 => hne e9.symm
  have hwr : IntKind.i64.wrap ((M : Int) + 1 - 1) = (M : Int) := by rw [IntKind.wrap_i64]; omega
  have HO : Hid _ := hide hO
  have HH : Hid _ := hide hH
  clear hO hH hM h0 hE
  go_enter Try.func42, Try.ntmps42
  go_wp2_with fail
  go_quiet (fail)
  obtain ⟨w1, hw1⟩ : ∃ w1, w1 = (w.alloc (.cells #[.int .i64 0, .int .i64 0, .int .i64 0] 77)).drewN nq := ⟨_, rfl⟩
  rw [← hw1]
  have hb1 : Below w.heap.size w w1 := by rw [hw1]; exact below_drewN (below_alloc1 _ _) _
  have hs1 : w1.heap.size = w.heap.size + 1 := by rw [hw1]; simp
  have r1 : w1.heap[w.heap.size]? = some (.cells #[.int .i64 0, .int .i64 0, .int .i64 0] 77 (0, 0)) := by rw [hw1]; exact ((below_drewN (Below.refl (w.heap.size + 1) (w.alloc (.cells #[.int .i64 0, .int .i64 0, .int .i64 0] 77))) nq).block w.heap.size (by omega)).trans (heap_new _ _)
  clear hw1
  have O1 : Hid _ := hide (HO.out.below hb1)
  have H1 : Hid _ := hide ((hb1.block p hp).trans HH.out)
  obtain ⟨x0, x1, x2⟩ := HA.out _ O1.out
  have HS1 : Hid _ := hide hs1
  have HB1 : Hid _ := hide hb1
  have R1 : Hid _ := hide r1
  have hg1 : g < w1.heap.size := by omega
  clear hs1 hb1 r1
  go_upto_region 3 with fail
  obtain ⟨w2, hw2⟩ : ∃ w2, w2 = w1.alloc (.cells #[.int .i64 a0, .int .i64 a1, .int .i64 ua] 77) := ⟨_, rfl⟩
  rw [← hw2]
  have hb2 : Below w.heap.size w w2 := by rw [hw2]; exact Below.on HB1.out (below_alloc1 _ _)
  have r2 : w2.heap[w.heap.size]? = some (.cells #[.int .i64 0, .int .i64 0, .int .i64 0] 77 (0, 0)) := by rw [hw2]; exact (Below.heap_alloc _ _ _ (by have := HS1.out; omega)).trans R1.out
  have e2 : w2.heap[w1.heap.size]? = some (.cells #[.int .i64 a0, .int .i64 a1, .int .i64 ua] 77 (0, 0)) := by rw [hw2]; exact heap_new _ _
  have hs2 : w1.heap.size < w2.heap.size := by rw [hw2]; simp
  have hs1w : w.heap.size < w1.heap.size := by have := HS1.out; omega
  have O2 : Own layEI 77 w2 base (.slice (some ⟨g, 0, none⟩) (M + 1) c) E := HO.out.below hb2
  obtain ⟨y0, y1, y2⟩ := HC.out _ O2
  clear x0 x1 x2 hw2
  obtain ⟨x0, x1, x2⟩ := HA.out _ O2
  have z0 := O2.frozen 0; have z1 := O2.frozen 1; have z2 := O2.frozen 2
  have HO2 : Hid _ := hide O2
  have HB2 : Hid _ := hide hb2
  have HR2 : Hid _ := hide r2
  have HE2 : Hid _ := hide e2
  clear O2 hb2 r2 e2
  go_upto_region 4 with fail
  obtain ⟨w3, hw3⟩ : ∃ w3, w3 = setC w2 g 0 [.int .i64 b0, .int .i64 b1, .int .i64 ub] := ⟨_, rfl⟩
  have O3 : Own layEI 77 w3 base (.slice (some ⟨g, 0, none⟩) (M + 1) c) (E.set 0 (⟨b0, b1⟩, ub)) := by
    rw [hw3]; have := HO2.out.set HE.out (i := 0) (by rw [HE.out]; omega) (⟨b0, b1⟩, ub); rw [Nat.zero_mul] at this; exact this
  have B3 : But (fun k => k = g) w2 w3 := by rw [hw3]; exact (But.refl (fun k => k = g) w2).setC _ (fun _ => rfl)
  have hM3 : (E.set 0 (⟨b0, b1⟩, ub))[M]? = some (⟨b0, b1⟩, ub) := by
    rw [List.getElem?_set]; have h9 := HE.out; have h8 := HM.out
    by_cases h7 : 0 = M
    · rw [if_pos h7, if_pos (by omega)]
    · rw [if_neg h7]; exact h8
  have hw3' : ((w2.setCell ⟨g, 0, none⟩ (.int .i64 b0)).setCell ⟨g, 1, none⟩ (.int .i64 b1)).setCell ⟨g, 2, none⟩ (.int .i64 ub) = w3 := by rw [hw3]; rfl
  rw [hw3']
  clear x0 x1 x2 y0 y1 y2 z0 z1 z2 hw3 hw3'
  have y0 := O3.cell hM3 0 rfl; have y1 := O3.cell hM3 1 rfl; have y2 := O3.cell hM3 2 rfl
  simp only [layEI, Nat.add_zero] at y0 y1 y2
  have z0 := O3.frozen (M * 3); have z1 := O3.frozen (M * 3 + 1); have z2 := O3.frozen (M * 3 + 2)
  have HO3 : Hid _ := hide O3
  have HB3 : Hid _ := hide B3
  clear O3 B3 hM3
  go_upto_region 5 with fail
  obtain ⟨w4, hw4⟩ : ∃ w4, w4 = setC w3 g (M * 3) [.int .i64 0, .int .i64 0, .int .i64 0] := ⟨_, rfl⟩
  have O4 : Own layEI 77 w4 base (.slice (some ⟨g, 0, none⟩) (M + 1) c) ((E.set 0 (⟨b0, b1⟩, ub)).set M (⟨0, 0⟩, 0)) := by
    rw [hw4]; exact HO3.out.set (by rw [List.length_set]; exact HE.out) (i := M) (by rw [List.length_set, HE.out]; omega) (⟨0, 0⟩, 0)
  have B4 : But (fun k => k = g) w2 w4 := by rw [hw4]; exact HB3.out.setC _ (fun _ => rfl)
  have hw4' : ((w3.setCell ⟨g, M * 3, none⟩ (.int .i64 0)).setCell ⟨g, M * 3 + 1, none⟩ (.int .i64 0)).setCell ⟨g, M * 3 + 2, none⟩ (.int .i64 0) = w4 := by rw [hw4]; rfl
  rw [hw4']
  have O4c : Own layEI 77 w4 base (.slice (some ⟨g, 0, none⟩) M c) (cutTop E) := by
    have h9 := O4.cut (by rw [List.length_set, List.length_set]; exact HE.out) (k := M) (by omega)
    rw [cut_eq HE.out HM.out] at h9; exact h9
  have H4 : w4.heap[p]? = some (.cells #[.slice (some ⟨g, 0, none⟩) (M + 1) c, .int .i64 n] 81 (0, 0)) := (B4.block p (by have := HB2.out.size; omega) hne2).trans ((HB2.out.block p hp).trans HH.out)
  have R4 : w4.heap[w.heap.size]? = some (.cells #[.int .i64 0, .int .i64 0, .int .i64 0] 77 (0, 0)) := (B4.block w.heap.size (by omega) (by omega)).trans HR2.out
  have E4 : w4.heap[w1.heap.size]? = some (.cells #[.int .i64 a0, .int .i64 a1, .int .i64 ua] 77 (0, 0)) := (B4.block w1.heap.size (by omega) (by omega)).trans HE2.out
  have x0 := (hp_cellsI H4).1
  have fz := frz H4 0
  have B04 : But (fun k => k = p ∨ k = g) w w4 := (But.of_below HB2.out).trans B4 (fun _ _ e9 => .inr e9)
  have hs4 := B4.size
  have HH4 : Hid _ := hide H4
  have HO4 : Hid _ := hide O4c
  have HR4 : Hid _ := hide R4
  have HE4 : Hid _ := hide E4
  have HB4 : Hid _ := hide B04
  clear y0 y1 y2 z0 z1 z2 hw4' hw4 O4 O4c H4 R4 E4 B04 B4
  go_upto_region 6 with fail
  obtain ⟨w5, hw5⟩ : ∃ w5, w5 = w4.setCell ⟨p, 0, none⟩ (.slice (some ⟨g, 0, none⟩) M c) := ⟨_, rfl⟩
  rw [← hw5]
  have B5 : But (fun k => k = p) w4 w5 := by rw [hw5]; exact (But.refl (fun k => k = p) w4).setCell ⟨p, 0, none⟩ (fun _ => rfl) _
  have H5 : w5.heap[p]? = some (.cells #[.slice (some ⟨g, 0, none⟩) M c, .int .i64 n] 81 (0, 0)) := by rw [hw5]; exact set1_heap _ HH4.out
  have O5 := HO4.out.but B5 (fun k hk e9 => hne (by simp [Value.ownBlock] at hk; omega))
  have hs5 := B5.size
  have RS := sinkI w5 base p g c M 0 (cutTop E) (hp_cellsI H5).1 (by rw [cutTop_len, HE.out]; omega) O5 (by omega) (by omega)
  have HH5 : Hid _ := hide H5
  have HB5 : Hid _ := hide B5
  clear hw5 H5 B5 O5 x0 fz
  go_wp2_with fail
  refine RS.mono ?_
  rintro r w6 ⟨rfl, E', hO6, hp6, hh6, hb6⟩
  have hs6 := hb6.size
  have R6 : w6.heap[w.heap.size]? = some (.cells #[.int .i64 0, .int .i64 0, .int .i64 0] 77 (0, 0)) := (hb6.block _ (by omega) (by omega)).trans ((HB5.out.block _ (by omega) (by omega)).trans HR4.out)
  have E6 : w6.heap[w1.heap.size]? = some (.cells #[.int .i64 a0, .int .i64 a1, .int .i64 ua] 77 (0, 0)) := (hb6.block _ (by omega) (by omega)).trans ((HB5.out.block _ (by omega) (by omega)).trans HE4.out)
  have H6 : w6.heap[p]? = some (.cells #[.slice (some ⟨g, 0, none⟩) M c, .int .i64 n] 81 (0, 0)) := (hb6.block p (by omega) hne2).trans HH5.out
  have y0 : w6.cell? ⟨w1.heap.size, 0, none⟩ = some (.int .i64 a0) := cell_at E6 rfl; have y1 : w6.cell? ⟨w1.heap.size, 1, none⟩ = some (.int .i64 a1) := cell_at E6 rfl; have y2 : w6.cell? ⟨w1.heap.size, 2, none⟩ = some (.int .i64 ua) := cell_at E6 rfl
  have x0 : w6.cell? ⟨w.heap.size, 0, none⟩ = some (.int .i64 0) := cell_at R6 rfl; have x1 : w6.cell? ⟨w.heap.size, 1, none⟩ = some (.int .i64 0) := cell_at R6 rfl; have x2 : w6.cell? ⟨w.heap.size, 2, none⟩ = some (.int .i64 0) := cell_at R6 rfl
  have z0 := frz R6 0; have z1 := frz R6 1; have z2 := frz R6 2
  have HO6 : Hid _ := hide hO6
  have HP6 : Hid _ := hide hp6
  have HH6 : Hid _ := hide H6
  have HF6 : Hid _ := hide hh6
  have HB6 : Hid _ := hide ((HB4.out.trans HB5.out (fun _ _ e9 => .inl e9)).trans hb6 (fun _ _ e9 => .inr e9))
  have HR6 : Hid _ := hide R6
  have hab : ¬ w.heap.size = w1.heap.size := by omega
  have HG : Hid (¬ g = w.heap.size ∧ ¬ p = w.heap.size ∧ p < w6.heap.size) := hide ⟨by omega, by omega, by omega⟩
  clear hO6 hp6 H6 hh6 hb6 R6 E6 RS hs6 hs5 hs4 hs2 hs1w hwr hcap hl hne hne2 hp hg hg1 p0 p1
  go_wp2_with fail
  have R7 : (setC w6 w.heap.size 0 [.int .i64 a0, .int .i64 a1, .int .i64 ua]).heap[w.heap.size]? = some (.cells #[.int .i64 a0, .int .i64 a1, .int .i64 ua] 77 (0, 0)) := set1_heap _ (set1_heap _ (set1_heap _ (HR6.out)))
  have B7 : But (fun k => k = w.heap.size) w6 (setC w6 w.heap.size 0 [.int .i64 a0, .int .i64 a1, .int .i64 ua]) := (But.refl (fun k => k = w.heap.size) w6).setC _ (fun _ => rfl)
  refine bodyPost_ret (results_cell_row rfl _ _ w.heap.size 77 #[.int .i64 a0, .int .i64 a1, .int .i64 ua] (0, 0) _ rfl R7 Try.underlying77 rfl (by kernel_rfl)) rfl ?_
  exact ⟨rfl, E', (B7.block p HG.out.2.2 HG.out.2.1).trans HH6.out, HO6.out.but B7 (fun k hk e9 => HG.out.1 (by simp [Value.ownBlock] at hk; omega)), HP6.out, fun o h => HF6.out o (cutTop_sink h), HB6.out.trans B7 (fun i hi e9 => by have e8 : i = w.heap.size := e9; omega)⟩
end Go.Proofs.Ytdmlehbamdcjcaa
