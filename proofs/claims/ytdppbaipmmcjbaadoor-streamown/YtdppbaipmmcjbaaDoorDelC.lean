/-
  Put, where it is refused; the document's Put.
-/
import Derived.Test.YtdppbaipmmcjbaaDoorDelB
import Derived.BigRegion
namespace Go.Proofs.YtdppbaipmmcjbaaDoor
open Go.RowKit
theorem put_bad (S O K t k o a q : Int) (w : World) (hK : Kn w) (hw : 0 < w.heap.size) (h : putE ⟨S, O, K⟩ ⟨t, k, o, a, q⟩ ≠ 0) :
    Calls Tryd.prog 48 #[.agg #[.int .i64 S, .int .u64 O, .int .i64 K], .agg #[.int .i64 t, .int .i64 k, .int .u64 o, .int .u64 a, .int .i64 q]] w fun e w' =>
      e = .returned (.tuple #[.slice none 0 0, .agg #[.int .i64 0, .int .u64 0, .int .i64 0], .int .i64 (putE ⟨S, O, K⟩ ⟨t, k, o, a, q⟩)]) ∧ Below w.heap.size w w' := by
  have HP := pf_any S O K t k o a q
  generalize putE ⟨S, O, K⟩ ⟨t, k, o, a, q⟩ = R at h HP ⊢
  obtain ⟨W, hW⟩ : ∃ W, W = ((w.alloc (.cells #[.int .i64 S, .int .u64 O, .int .i64 K] 69)).alloc (.cells #[.int .i64 t, .int .i64 k, .int .u64 o, .int .u64 a, .int .i64 q] 48)).alloc (.cells #[.int .i64 0, .int .u64 0, .int .i64 0] 69) := ⟨_, rfl⟩
  have hb : Below w.heap.size w W := by rw [hW]; exact (below_alloc2 _ _ _).alloc (by simp; omega) _
  have hsz : W.heap.size = w.heap.size + 3 := by rw [hW]; simp
  have LZ : W.heap[w.heap.size + 2]? = some (.cells #[.int .i64 0, .int .u64 0, .int .i64 0] 69 (0, 0)) := by
    rw [hW, show w.heap.size + 2 = ((w.alloc (.cells #[.int .i64 S, .int .u64 O, .int .i64 K] 69)).alloc (.cells #[.int .i64 t, .int .i64 k, .int .u64 o, .int .u64 a, .int .i64 q] 48)).heap.size from by simp]
    exact heap_new _ _
  have HPW := HP W (hK.below hb hw) (by omega)
  have hq : (R != 0) = true := by simp [h]
  go_enter Tryd.func48, Tryd.ntmps48
  go_wp2_with fail
  rw [← hW]
  refine HPW.mono ?_
  rintro e w1 ⟨rfl, hb1⟩
  clear hW HP HPW
  have L1 : w1.heap[w.heap.size + 1 + 1]? = some (.cells #[.int .i64 0, .int .u64 0, .int .i64 0] 69 (0, 0)) := (hb1.block (w.heap.size + 2) (by omega)).trans LZ
  go_wp2_with (refine wpList_store_row rfl 69 (.tmp 5) (.tmp 14) rfl (w.heap.size + 1 + 1) #[.int .i64 0, .int .u64 0, .int .i64 0] rfl rfl 69 #[.int .i64 0, .int .u64 0, .int .i64 0] L1 Tryd.sizeS rfl (st_one _ _ _) ?_)
  refine bodyPost_ret (v := .tuple #[.slice none 0 0, .agg #[.int .i64 0, .int .u64 0, .int .i64 0], .int .i64 R]) (by exact results_tct Tryd.results48 _ _ (w.heap.size + 1 + 1) 69 #[.int .i64 0, .int .u64 0, .int .i64 0] (0, 0) _ rfl (setRow_heap _ _ _ _ _ _ L1) Tryd.underlying69 rfl Tryd.sizeS) rfl ?_
  exact ⟨rfl, below_setRow (Below.on hb hb1) (by omega) _⟩
/-! ### the document's -/
theorem frz {w : World} {g : Nat} {cs : Array Value} {T : TypeId} (h : w.heap[g]? = some (.cells cs T (0, 0))) (i : Nat) : w.frozen? ⟨g, i, none⟩ = false := by simp [World.frozen?, h]
theorem z3_cells {w : World} {g : Nat} {T : TypeId} {x y z : Value} (h : w.heap[g]? = some (.cells #[x, y, z] T (0, 0))) : w.cell? ⟨g, 0, none⟩ = some x ∧ w.cell? ⟨g, 1, none⟩ = some y ∧ w.cell? ⟨g, 2, none⟩ = some z :=
  ⟨by rw [cell_of_row w g 0 _ T (0, 0) h]; rfl, by rw [cell_of_row w g 1 _ T (0, 0) h]; rfl, by rw [cell_of_row w g 2 _ T (0, 0) h]; rfl⟩
def nilV (R : Int) : Value := .tuple #[.slice none 0 0, .agg #[.int .i64 0, .int .u64 0, .int .i64 0], .int .i64 R]
theorem set1_heap {w : World} {g i : Nat} {T : TypeId} {cs : Array Value} {fr : Nat × Nat} (v : Value) (h : w.heap[g]? = some (.cells cs T fr)) : (w.setCell ⟨g, i, none⟩ v).heap[g]? = some (.cells (cs.setIfInBounds i v) T fr) := by
  have hlt : g < w.heap.size := (Array.getElem?_eq_some_iff.1 h).1
  have hv : w.heap[g] = .cells cs T fr := (Array.getElem?_eq_some_iff.1 h).2
  unfold World.setCell
  rw [Array.getElem?_eq_getElem (by simpa using hlt), Array.getElem_modify]
  simp [hv]
theorem set3_heap {w : World} {g : Nat} {T : TypeId} {a b c x y z : Value} (h : w.heap[g]? = some (.cells #[a, b, c] T (0, 0))) : (((w.setCell ⟨g, 0, none⟩ x).setCell ⟨g, 1, none⟩ y).setCell ⟨g, 2, none⟩ z).heap[g]? = some (.cells #[x, y, z] T (0, 0)) :=
  set1_heap z (set1_heap y (set1_heap x h))
theorem set3_below {B g : Nat} {w w' : World} (h : Below B w w') (hg : B ≤ g) (x y z : Value) : Below B w (((w'.setCell ⟨g, 0, none⟩ x).setCell ⟨g, 1, none⟩ y).setCell ⟨g, 2, none⟩ z).drew :=
  (((h.setCell (p := ⟨g, 0, none⟩) hg x).setCell (p := ⟨g, 1, none⟩) hg y).setCell (p := ⟨g, 2, none⟩) hg z).drew
set_option maxHeartbeats 800000 in
theorem rput_bad (S O K t k o a q : Int) (w : World) (h : putE ⟨S, O, K⟩ ⟨t, k, o, a, q⟩ ≠ 0) :
    Calls Tryd.prog 50 #[.agg #[.int .i64 S, .int .u64 O, .int .i64 K], .agg #[.int .i64 t, .int .i64 k, .int .u64 o, .int .u64 a, .int .i64 q]] w fun e w' =>
      e = .returned (nilV (putE ⟨S, O, K⟩ ⟨t, k, o, a, q⟩)) ∧ Below w.heap.size w w' := by
  have E1 : Hid _ := hide (fun h => putE_state (s := ⟨S, O, K⟩) (r := ⟨t, k, o, a, q⟩) h)
  have E2 : Hid _ := hide (fun h => putE_kind (s := ⟨S, O, K⟩) (r := ⟨t, k, o, a, q⟩) h)
  have E3 : Hid _ := hide (fun h => putE_stamp (s := ⟨S, O, K⟩) (r := ⟨t, k, o, a, q⟩) h)
  have E4 : Hid _ := hide (fun h => putE_last (s := ⟨S, O, K⟩) (r := ⟨t, k, o, a, q⟩) h)
  generalize putE ⟨S, O, K⟩ ⟨t, k, o, a, q⟩ = R at h E1 E2 E3 E4 ⊢
  dsimp only at E1 E2 E3 E4
  have HS := rst_any S O K
  obtain ⟨W, hW⟩ : ∃ W, W = (((w.alloc (.cells #[.int .i64 S, .int .u64 O, .int .i64 K] 69)).alloc (.cells #[.int .i64 t, .int .i64 k, .int .u64 o, .int .u64 a, .int .i64 q] 48)).alloc (.cells #[.int .i64 0, .int .u64 0, .int .i64 0] 69)).alloc (.cells #[.int .i64 0, .int .u64 0, .int .i64 0] 69) := ⟨_, rfl⟩
  have hb : Below w.heap.size w W := by rw [hW]; exact ((below_alloc2 _ _ _).alloc (by simp; omega) _).alloc (by simp; omega) _
  have hsz : W.heap.size = w.heap.size + 4 := by rw [hW]; simp
  have s0 : W.cell? ⟨w.heap.size, 0, none⟩ = some (.int .i64 S) := by rw [hW]; go_simp
  have t0 : W.cell? ⟨w.heap.size + 1, 0, none⟩ = some (.int .i64 t) := by rw [hW]; go_simp
  have t1 : W.cell? ⟨w.heap.size + 1, 1, none⟩ = some (.int .i64 k) := by rw [hW]; go_simp
  have t4 : W.cell? ⟨w.heap.size + 1, 4, none⟩ = some (.int .i64 q) := by rw [hW]; go_simp
  have LZ : W.heap[w.heap.size + 2]? = some (.cells #[.int .i64 0, .int .u64 0, .int .i64 0] 69 (0, 0)) := by
    rw [hW, Below.heap_alloc _ _ _ (by simp), show w.heap.size + 2 = ((w.alloc (.cells #[.int .i64 S, .int .u64 O, .int .i64 K] 69)).alloc (.cells #[.int .i64 t, .int .i64 k, .int .u64 o, .int .u64 a, .int .i64 q] 48)).heap.size from by simp]
    exact heap_new _ _
  have LY : W.heap[w.heap.size + 3]? = some (.cells #[.int .i64 0, .int .u64 0, .int .i64 0] 69 (0, 0)) := by
    rw [hW, show w.heap.size + 3 = (((w.alloc (.cells #[.int .i64 S, .int .u64 O, .int .i64 K] 69)).alloc (.cells #[.int .i64 t, .int .i64 k, .int .u64 o, .int .u64 a, .int .i64 q] 48)).alloc (.cells #[.int .i64 0, .int .u64 0, .int .i64 0] 69)).heap.size from by simp]
    exact heap_new _ _
  cases hm : mayS S K
  · have HR : Hid (R = 71) := hide (E1.out hm)
    rw [hm] at HS
    clear E1 E2 E3 E4 hm
    go_enter Tryd.func50, Tryd.ntmps50
    go_wp2_with fail
    rw [← hW]
    refine (HS _).mono ?_
    rintro e w1 ⟨rfl, hb1⟩
    have L1 : w1.heap[w.heap.size + 1 + 1]? = some (.cells #[.int .i64 0, .int .u64 0, .int .i64 0] 69 (0, 0)) := (hb1.block (w.heap.size + 2) (by omega)).trans LZ
    have L2 : w1.heap[w.heap.size + 1 + 1 + 1]? = some (.cells #[.int .i64 0, .int .u64 0, .int .i64 0] 69 (0, 0)) := (hb1.block (w.heap.size + 3) (by omega)).trans LY
    have y0 := (hb1.cell (p := ⟨w.heap.size, 0, none⟩) (by simp; omega)).trans s0
    have x0 := (hb1.cell (p := ⟨w.heap.size + 1, 0, none⟩) (by simp; omega)).trans t0
    have x1 := (hb1.cell (p := ⟨w.heap.size + 1, 1, none⟩) (by simp; omega)).trans t1
    have x4 := (hb1.cell (p := ⟨w.heap.size + 1, 4, none⟩) (by simp; omega)).trans t4
    obtain ⟨a0, a1, a2⟩ := z3_cells L1
    obtain ⟨b0, b1, b2⟩ := z3_cells L2
    have f0 := frz L1 0
    have f1 := frz L1 1
    have f2 := frz L1 2
    go_wp2_with fail
    go_region_held3 (fun W' => W'.cell? ⟨w.heap.size + 1 + 1 + 1, 0, none⟩ = some (.int .i64 0) ∧ W'.cell? ⟨w.heap.size + 1 + 1 + 1, 1, none⟩ = some (.int .u64 0) ∧ W'.cell? ⟨w.heap.size + 1 + 1 + 1, 2, none⟩ = some (.int .i64 0)) (first | exact ⟨b0, b1, b2⟩ | go_keep) (fail)
    go_wp2_with fail
    refine bodyPost_ret (v := nilV 71) (by exact results_tct Tryd.results50 _ _ (w.heap.size + 1 + 1) 69 #[.int .i64 0, .int .u64 0, .int .i64 0] (0, 0) _ rfl (set3_heap L1) Tryd.underlying69 rfl Tryd.sizeS) rfl ?_
    exact ⟨by rw [HR.out], set3_below (Below.on hb hb1) (by omega) _ _ _⟩
  · rw [hm] at HS
    by_cases hk : 1 ≤ k ∧ k ≤ 22
    · by_cases ht : t < S ∨ 1048576 ≤ t
      · have HR : Hid (R = 70) := hide (E3.out hm hk ht)
        have hk1 := hk.1
        have hk2 := hk.2
        clear E1 E2 E3 E4 hm hk
        by_cases ht1 : t < S
        · clear ht
          go_enter Tryd.func50, Tryd.ntmps50
          go_wp2_with fail
          rw [← hW]
          refine (HS _).mono ?_
          rintro e w1 ⟨rfl, hb1⟩
          have L1 : w1.heap[w.heap.size + 1 + 1]? = some (.cells #[.int .i64 0, .int .u64 0, .int .i64 0] 69 (0, 0)) := (hb1.block (w.heap.size + 2) (by omega)).trans LZ
          have L2 : w1.heap[w.heap.size + 1 + 1 + 1]? = some (.cells #[.int .i64 0, .int .u64 0, .int .i64 0] 69 (0, 0)) := (hb1.block (w.heap.size + 3) (by omega)).trans LY
          have y0 := (hb1.cell (p := ⟨w.heap.size, 0, none⟩) (by simp; omega)).trans s0
          have x0 := (hb1.cell (p := ⟨w.heap.size + 1, 0, none⟩) (by simp; omega)).trans t0
          have x1 := (hb1.cell (p := ⟨w.heap.size + 1, 1, none⟩) (by simp; omega)).trans t1
          have x4 := (hb1.cell (p := ⟨w.heap.size + 1, 4, none⟩) (by simp; omega)).trans t4
          obtain ⟨a0, a1, a2⟩ := z3_cells L1
          obtain ⟨b0, b1, b2⟩ := z3_cells L2
          have f0 := frz L1 0
          have f1 := frz L1 1
          have f2 := frz L1 2
          go_wp2_with fail
          go_region_held3 (fun W' => W'.cell? ⟨w.heap.size + 1 + 1 + 1, 0, none⟩ = some (.int .i64 0) ∧ W'.cell? ⟨w.heap.size + 1 + 1 + 1, 1, none⟩ = some (.int .u64 0) ∧ W'.cell? ⟨w.heap.size + 1 + 1 + 1, 2, none⟩ = some (.int .i64 0)) (first | exact ⟨b0, b1, b2⟩ | go_keep) (fail)
          go_wp2_with fail
          refine bodyPost_ret (v := nilV 70) (by exact results_tct Tryd.results50 _ _ (w.heap.size + 1 + 1) 69 #[.int .i64 0, .int .u64 0, .int .i64 0] (0, 0) _ rfl (set3_heap L1) Tryd.underlying69 rfl Tryd.sizeS) rfl ?_
          exact ⟨by rw [HR.out], set3_below (Below.on hb hb1) (by omega) _ _ _⟩
        · have ht2 : 1048576 ≤ t := by omega
          clear ht
          go_enter Tryd.func50, Tryd.ntmps50
          go_wp2_with fail
          rw [← hW]
          refine (HS _).mono ?_
          rintro e w1 ⟨rfl, hb1⟩
          have L1 : w1.heap[w.heap.size + 1 + 1]? = some (.cells #[.int .i64 0, .int .u64 0, .int .i64 0] 69 (0, 0)) := (hb1.block (w.heap.size + 2) (by omega)).trans LZ
          have L2 : w1.heap[w.heap.size + 1 + 1 + 1]? = some (.cells #[.int .i64 0, .int .u64 0, .int .i64 0] 69 (0, 0)) := (hb1.block (w.heap.size + 3) (by omega)).trans LY
          have y0 := (hb1.cell (p := ⟨w.heap.size, 0, none⟩) (by simp; omega)).trans s0
          have x0 := (hb1.cell (p := ⟨w.heap.size + 1, 0, none⟩) (by simp; omega)).trans t0
          have x1 := (hb1.cell (p := ⟨w.heap.size + 1, 1, none⟩) (by simp; omega)).trans t1
          have x4 := (hb1.cell (p := ⟨w.heap.size + 1, 4, none⟩) (by simp; omega)).trans t4
          obtain ⟨a0, a1, a2⟩ := z3_cells L1
          obtain ⟨b0, b1, b2⟩ := z3_cells L2
          have f0 := frz L1 0
          have f1 := frz L1 1
          have f2 := frz L1 2
          go_wp2_with fail
          go_region_held3 (fun W' => W'.cell? ⟨w.heap.size + 1 + 1 + 1, 0, none⟩ = some (.int .i64 0) ∧ W'.cell? ⟨w.heap.size + 1 + 1 + 1, 1, none⟩ = some (.int .u64 0) ∧ W'.cell? ⟨w.heap.size + 1 + 1 + 1, 2, none⟩ = some (.int .i64 0)) (first | exact ⟨b0, b1, b2⟩ | go_keep) (fail)
          go_wp2_with fail
          refine bodyPost_ret (v := nilV 70) (by exact results_tct Tryd.results50 _ _ (w.heap.size + 1 + 1) 69 #[.int .i64 0, .int .u64 0, .int .i64 0] (0, 0) _ rfl (set3_heap L1) Tryd.underlying69 rfl Tryd.sizeS) rfl ?_
          exact ⟨by rw [HR.out], set3_below (Below.on hb hb1) (by omega) _ _ _⟩
      · have HR0 : Hid (R = if stkB q then 0 else 71) := hide (E4.out hm hk ht)
        have ht1 : ¬ t < S := by omega
        have ht2 : ¬ 1048576 ≤ t := by omega
        have hk1 := hk.1
        have hk2 := hk.2
        clear E1 E2 E3 E4 hm ht hk
        have hq : stkB q = false := by
          cases hq : stkB q
          · rfl
          · exact absurd (by rw [HR0.out, hq]; rfl) h
        have HR : Hid (R = 71) := hide (by rw [HR0.out, hq]; rfl)
        have hq' := of_decide_eq_false hq
        clear HR0 hq
        by_cases hq0 : q < 0
        · clear hq'
          go_enter Tryd.func50, Tryd.ntmps50
          go_wp2_with fail
          rw [← hW]
          refine (HS _).mono ?_
          rintro e w1 ⟨rfl, hb1⟩
          have L1 : w1.heap[w.heap.size + 1 + 1]? = some (.cells #[.int .i64 0, .int .u64 0, .int .i64 0] 69 (0, 0)) := (hb1.block (w.heap.size + 2) (by omega)).trans LZ
          have L2 : w1.heap[w.heap.size + 1 + 1 + 1]? = some (.cells #[.int .i64 0, .int .u64 0, .int .i64 0] 69 (0, 0)) := (hb1.block (w.heap.size + 3) (by omega)).trans LY
          have y0 := (hb1.cell (p := ⟨w.heap.size, 0, none⟩) (by simp; omega)).trans s0
          have x0 := (hb1.cell (p := ⟨w.heap.size + 1, 0, none⟩) (by simp; omega)).trans t0
          have x1 := (hb1.cell (p := ⟨w.heap.size + 1, 1, none⟩) (by simp; omega)).trans t1
          have x4 := (hb1.cell (p := ⟨w.heap.size + 1, 4, none⟩) (by simp; omega)).trans t4
          obtain ⟨a0, a1, a2⟩ := z3_cells L1
          obtain ⟨b0, b1, b2⟩ := z3_cells L2
          have f0 := frz L1 0
          have f1 := frz L1 1
          have f2 := frz L1 2
          go_wp2_with fail
          go_region_held3 (fun W' => W'.cell? ⟨w.heap.size + 1 + 1 + 1, 0, none⟩ = some (.int .i64 0) ∧ W'.cell? ⟨w.heap.size + 1 + 1 + 1, 1, none⟩ = some (.int .u64 0) ∧ W'.cell? ⟨w.heap.size + 1 + 1 + 1, 2, none⟩ = some (.int .i64 0)) (first | exact ⟨b0, b1, b2⟩ | go_keep) (fail)
          go_wp2_with fail
          refine bodyPost_ret (v := nilV 71) (by exact results_tct Tryd.results50 _ _ (w.heap.size + 1 + 1) 69 #[.int .i64 0, .int .u64 0, .int .i64 0] (0, 0) _ rfl (set3_heap L1) Tryd.underlying69 rfl Tryd.sizeS) rfl ?_
          exact ⟨by rw [HR.out], set3_below (Below.on hb hb1) (by omega) _ _ _⟩
        · have hq1 : 262144 < q := by omega
          clear hq'
          go_enter Tryd.func50, Tryd.ntmps50
          go_wp2_with fail
          rw [← hW]
          refine (HS _).mono ?_
          rintro e w1 ⟨rfl, hb1⟩
          have L1 : w1.heap[w.heap.size + 1 + 1]? = some (.cells #[.int .i64 0, .int .u64 0, .int .i64 0] 69 (0, 0)) := (hb1.block (w.heap.size + 2) (by omega)).trans LZ
          have L2 : w1.heap[w.heap.size + 1 + 1 + 1]? = some (.cells #[.int .i64 0, .int .u64 0, .int .i64 0] 69 (0, 0)) := (hb1.block (w.heap.size + 3) (by omega)).trans LY
          have y0 := (hb1.cell (p := ⟨w.heap.size, 0, none⟩) (by simp; omega)).trans s0
          have x0 := (hb1.cell (p := ⟨w.heap.size + 1, 0, none⟩) (by simp; omega)).trans t0
          have x1 := (hb1.cell (p := ⟨w.heap.size + 1, 1, none⟩) (by simp; omega)).trans t1
          have x4 := (hb1.cell (p := ⟨w.heap.size + 1, 4, none⟩) (by simp; omega)).trans t4
          obtain ⟨a0, a1, a2⟩ := z3_cells L1
          obtain ⟨b0, b1, b2⟩ := z3_cells L2
          have f0 := frz L1 0
          have f1 := frz L1 1
          have f2 := frz L1 2
          go_wp2_with fail
          go_region_held3 (fun W' => W'.cell? ⟨w.heap.size + 1 + 1 + 1, 0, none⟩ = some (.int .i64 0) ∧ W'.cell? ⟨w.heap.size + 1 + 1 + 1, 1, none⟩ = some (.int .u64 0) ∧ W'.cell? ⟨w.heap.size + 1 + 1 + 1, 2, none⟩ = some (.int .i64 0)) (first | exact ⟨b0, b1, b2⟩ | go_keep) (fail)
          go_wp2_with fail
          refine bodyPost_ret (v := nilV 71) (by exact results_tct Tryd.results50 _ _ (w.heap.size + 1 + 1) 69 #[.int .i64 0, .int .u64 0, .int .i64 0] (0, 0) _ rfl (set3_heap L1) Tryd.underlying69 rfl Tryd.sizeS) rfl ?_
          exact ⟨by rw [HR.out], set3_below (Below.on hb hb1) (by omega) _ _ _⟩
    · have HR : Hid (R = 60) := hide (E2.out hm hk)
      clear E1 E2 E3 E4 hm
      by_cases hk1 : k < 1
      · clear hk
        go_enter Tryd.func50, Tryd.ntmps50
        go_wp2_with fail
        rw [← hW]
        refine (HS _).mono ?_
        rintro e w1 ⟨rfl, hb1⟩
        have L1 : w1.heap[w.heap.size + 1 + 1]? = some (.cells #[.int .i64 0, .int .u64 0, .int .i64 0] 69 (0, 0)) := (hb1.block (w.heap.size + 2) (by omega)).trans LZ
        have L2 : w1.heap[w.heap.size + 1 + 1 + 1]? = some (.cells #[.int .i64 0, .int .u64 0, .int .i64 0] 69 (0, 0)) := (hb1.block (w.heap.size + 3) (by omega)).trans LY
        have y0 := (hb1.cell (p := ⟨w.heap.size, 0, none⟩) (by simp; omega)).trans s0
        have x0 := (hb1.cell (p := ⟨w.heap.size + 1, 0, none⟩) (by simp; omega)).trans t0
        have x1 := (hb1.cell (p := ⟨w.heap.size + 1, 1, none⟩) (by simp; omega)).trans t1
        have x4 := (hb1.cell (p := ⟨w.heap.size + 1, 4, none⟩) (by simp; omega)).trans t4
        obtain ⟨a0, a1, a2⟩ := z3_cells L1
        obtain ⟨b0, b1, b2⟩ := z3_cells L2
        have f0 := frz L1 0
        have f1 := frz L1 1
        have f2 := frz L1 2
        go_wp2_with fail
        go_region_held3 (fun W' => W'.cell? ⟨w.heap.size + 1 + 1 + 1, 0, none⟩ = some (.int .i64 0) ∧ W'.cell? ⟨w.heap.size + 1 + 1 + 1, 1, none⟩ = some (.int .u64 0) ∧ W'.cell? ⟨w.heap.size + 1 + 1 + 1, 2, none⟩ = some (.int .i64 0)) (first | exact ⟨b0, b1, b2⟩ | go_keep) (fail)
        go_wp2_with fail
        refine bodyPost_ret (v := nilV 60) (by exact results_tct Tryd.results50 _ _ (w.heap.size + 1 + 1) 69 #[.int .i64 0, .int .u64 0, .int .i64 0] (0, 0) _ rfl (set3_heap L1) Tryd.underlying69 rfl Tryd.sizeS) rfl ?_
        exact ⟨by rw [HR.out], set3_below (Below.on hb hb1) (by omega) _ _ _⟩
      · have hk2 : 22 < k := by omega
        clear hk
        go_enter Tryd.func50, Tryd.ntmps50
        go_wp2_with fail
        rw [← hW]
        refine (HS _).mono ?_
        rintro e w1 ⟨rfl, hb1⟩
        have L1 : w1.heap[w.heap.size + 1 + 1]? = some (.cells #[.int .i64 0, .int .u64 0, .int .i64 0] 69 (0, 0)) := (hb1.block (w.heap.size + 2) (by omega)).trans LZ
        have L2 : w1.heap[w.heap.size + 1 + 1 + 1]? = some (.cells #[.int .i64 0, .int .u64 0, .int .i64 0] 69 (0, 0)) := (hb1.block (w.heap.size + 3) (by omega)).trans LY
        have y0 := (hb1.cell (p := ⟨w.heap.size, 0, none⟩) (by simp; omega)).trans s0
        have x0 := (hb1.cell (p := ⟨w.heap.size + 1, 0, none⟩) (by simp; omega)).trans t0
        have x1 := (hb1.cell (p := ⟨w.heap.size + 1, 1, none⟩) (by simp; omega)).trans t1
        have x4 := (hb1.cell (p := ⟨w.heap.size + 1, 4, none⟩) (by simp; omega)).trans t4
        obtain ⟨a0, a1, a2⟩ := z3_cells L1
        obtain ⟨b0, b1, b2⟩ := z3_cells L2
        have f0 := frz L1 0
        have f1 := frz L1 1
        have f2 := frz L1 2
        go_wp2_with fail
        go_region_held3 (fun W' => W'.cell? ⟨w.heap.size + 1 + 1 + 1, 0, none⟩ = some (.int .i64 0) ∧ W'.cell? ⟨w.heap.size + 1 + 1 + 1, 1, none⟩ = some (.int .u64 0) ∧ W'.cell? ⟨w.heap.size + 1 + 1 + 1, 2, none⟩ = some (.int .i64 0)) (first | exact ⟨b0, b1, b2⟩ | go_keep) (fail)
        go_wp2_with fail
        refine bodyPost_ret (v := nilV 60) (by exact results_tct Tryd.results50 _ _ (w.heap.size + 1 + 1) 69 #[.int .i64 0, .int .u64 0, .int .i64 0] (0, 0) _ rfl (set3_heap L1) Tryd.underlying69 rfl Tryd.sizeS) rfl ?_
        exact ⟨by rw [HR.out], set3_below (Below.on hb hb1) (by omega) _ _ _⟩
end Go.Proofs.YtdppbaipmmcjbaaDoor
