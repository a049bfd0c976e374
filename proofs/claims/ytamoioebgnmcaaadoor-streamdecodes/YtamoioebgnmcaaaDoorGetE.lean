/-
  The document's Get, where there is a byte to be read.
-/
import Derived.Test.YtamoioebgnmcaaaDoorGetD
namespace Go.Proofs.YtamoioebgnmcaaaDoor
open Go.RowKit
set_option maxHeartbeats 4000000 in
set_option maxRecDepth 20000 in
theorem rget_at (S O K : Int) (b off n c tn : Nat) (zs : List Int) (w : World) (hr : Row w (some ⟨b, off, none⟩) n zs) (hn : (n : Int) ≤ 9223372036854700000) (hO0 : 0 ≤ O) (hO1 : O ≤ 18446744073709551615) (htn : tn < n) (hm : mayS S K = true) :
    Calls Tryd.prog 44 #[.agg #[.int .i64 S, .int .u64 O, .int .i64 K], .slice (some ⟨b, off, none⟩) n c, .int .i64 tn] w fun e w' => e = .returned (gV (readG ⟨S, O, K⟩ zs tn)) ∧ Below w.heap.size w w' := by
  obtain ⟨W, hW⟩ : ∃ W, W = ((((w.alloc (.cells #[.int .i64 S, .int .u64 O, .int .i64 K] 48)).alloc (.cells #[.int .i64 0, .int .i64 0, .int .u64 0, .int .u64 0, .int .i64 0] 52)).alloc (.cells #[.int .i64 0, .int .u64 0, .int .i64 0] 48)).alloc (.cells #[.int .i64 0, .int .i64 0, .int .u64 0, .int .u64 0, .int .i64 0] 52)).alloc (.cells #[.int .i64 0, .int .u64 0, .int .i64 0] 48) := ⟨_, rfl⟩
  have hb : Below w.heap.size w W := by rw [hW]; exact (((below_alloc2 _ _ _).alloc (by simp; omega) _).alloc (by simp; omega) _).alloc (by simp; omega) _
  have hsz : W.heap.size = w.heap.size + 5 := by rw [hW]; simp
  have s0 : W.cell? ⟨w.heap.size, 0, none⟩ = some (.int .i64 S) := by rw [hW]; go_simp
  have s1 : W.cell? ⟨w.heap.size, 1, none⟩ = some (.int .u64 O) := by rw [hW]; go_simp
  have s2 : W.cell? ⟨w.heap.size, 2, none⟩ = some (.int .i64 K) := by rw [hW]; go_simp
  have L6 : W.heap[w.heap.size + 1]? = some (.cells #[.int .i64 0, .int .i64 0, .int .u64 0, .int .u64 0, .int .i64 0] 52 (0, 0)) := by
    rw [hW, Below.heap_alloc _ _ _ (by simp <;> omega), Below.heap_alloc _ _ _ (by simp <;> omega), Below.heap_alloc _ _ _ (by simp), show w.heap.size + 1 = (w.alloc (.cells #[.int .i64 S, .int .u64 O, .int .i64 K] 48)).heap.size from by simp]
    exact heap_new _ _
  have L8 : W.heap[w.heap.size + 2]? = some (.cells #[.int .i64 0, .int .u64 0, .int .i64 0] 48 (0, 0)) := by
    rw [hW, Below.heap_alloc _ _ _ (by simp <;> omega), Below.heap_alloc _ _ _ (by simp), show w.heap.size + 2 = ((w.alloc (.cells #[.int .i64 S, .int .u64 O, .int .i64 K] 48)).alloc (.cells #[.int .i64 0, .int .i64 0, .int .u64 0, .int .u64 0, .int .i64 0] 52)).heap.size from by simp]
    exact heap_new _ _
  have L10 : W.heap[w.heap.size + 3]? = some (.cells #[.int .i64 0, .int .i64 0, .int .u64 0, .int .u64 0, .int .i64 0] 52 (0, 0)) := by
    rw [hW, Below.heap_alloc _ _ _ (by simp), show w.heap.size + 3 = (((w.alloc (.cells #[.int .i64 S, .int .u64 O, .int .i64 K] 48)).alloc (.cells #[.int .i64 0, .int .i64 0, .int .u64 0, .int .u64 0, .int .i64 0] 52)).alloc (.cells #[.int .i64 0, .int .u64 0, .int .i64 0] 48)).heap.size from by simp]
    exact heap_new _ _
  have L11 : W.heap[w.heap.size + 4]? = some (.cells #[.int .i64 0, .int .u64 0, .int .i64 0] 48 (0, 0)) := by
    rw [hW, show w.heap.size + 4 = ((((w.alloc (.cells #[.int .i64 S, .int .u64 O, .int .i64 K] 48)).alloc (.cells #[.int .i64 0, .int .i64 0, .int .u64 0, .int .u64 0, .int .i64 0] 52)).alloc (.cells #[.int .i64 0, .int .u64 0, .int .i64 0] 48)).alloc (.cells #[.int .i64 0, .int .i64 0, .int .u64 0, .int .u64 0, .int .i64 0] 52)).heap.size from by simp]
    exact heap_new _ _
  have HZ8 : Hid _ := hide (fun X (hB : Below W.heap.size W X) => (show Z8 X (w.heap.size + 1 + 1 + 1) (w.heap.size + 1 + 1 + 1 + 1) (.int .i64 0) (.int .i64 0) (.int .u64 0) (.int .u64 0) (.int .i64 0) (.int .i64 0) (.int .u64 0) (.int .i64 0) from by
    obtain ⟨a0, a1, a2, a3, a4⟩ := r5_cells ((hB.block (w.heap.size + 3) (by omega)).trans L10)
    obtain ⟨b0, b1, b2⟩ := z3_cells ((hB.block (w.heap.size + 4) (by omega)).trans L11)
    exact ⟨a0, a1, a2, a3, a4, b0, b1, b2⟩))
  have HS := rst_any S O K W
  have hl := hr.len
  have ht0 : ¬ (tn : Int) < 0 := by omega
  have ht1 : ¬ (n : Int) < (tn : Int) := by omega
  have hteb : ((tn : Int) == (n : Int)) = false := by simp; omega
  have htlt : (tn : Int) < (n : Int) := by omega
  have hmm := of_decide_eq_true hm
  rw [hm] at HS
  have hcs : ∀ i, i < n → w.cell? ⟨b, off + i, none⟩ = some (.int .u8 (zs.getD i 0)) := by
    rcases hr.cells with h0 | ⟨b', o', e, hc⟩
    · omega
    · cases e; exact hc
  clear hm
  have htl : tn ≠ zs.length := by omega
  obtain ⟨z, hz⟩ : ∃ z, z = zs.getD tn 0 := ⟨_, rfl⟩
  have hu := hr.u8 tn
  have hz01 : 0 ≤ z ∧ z ≤ 255 := by rw [hz]; simpa using hu
  have hcz : w.cell? ⟨b, off + tn, none⟩ = some (.int .u8 z) := by rw [hz]; exact hcs tn (by omega)
  have hcW : W.cell? ⟨b, off + tn, none⟩ = some (.int .u8 z) := (hb.cell (p := ⟨b, off + tn, none⟩) (World.block_lt_of_cell? w _ hcz)).trans hcz
  have hrW := hr.below hb
  have hbW : b < w.heap.size := World.block_lt_of_cell? w _ hcz
  have GK : Hid _ := hide (fun h => readG_kind (s := ⟨S, O, K⟩) (zs := zs) (t := tn) htl h)
  have GN : Hid _ := hide (fun h => readG_num (s := ⟨S, O, K⟩) (zs := zs) (t := tn) htl h)
  have GS : Hid _ := hide (fun h => readG_stamp (s := ⟨S, O, K⟩) (zs := zs) (t := tn) htl h)
  have GO : Hid _ := hide (fun h => readG_on (s := ⟨S, O, K⟩) (zs := zs) (t := tn) htl h)
  rw [← hz] at GK GN GS GO
  generalize readG ⟨S, O, K⟩ zs tn = R at GK GN GS GO ⊢
  generalize hrd : rdAt zs (tn + 1) = rr at GN GS GO
  have HRU := fun w1 (h1 : Below W.heap.size W w1) => rru_any (some ⟨b, off, none⟩) n c (tn + 1) zs w1 ((hr.below hb).below h1) hn
  rw [hrd] at HRU
  have hbd := rdAt_bd zs ((tn : Int) + 1) hr.u8
  rw [hrd] at hbd
  obtain ⟨x, p0, f0⟩ := rr
  simp only [out3] at HRU
  dsimp only at GK GN GS GO hbd
  obtain ⟨hx0, hx1, _⟩ := hbd
  clear hcs hu hcz hrd hz htl
  obtain ⟨kk, hkk⟩ : ∃ kk, kk = z % 32 := ⟨_, rfl⟩
  have hkb : 0 ≤ kk ∧ kk < 32 := by omega
  have HKK : Hid _ := hide hkk
  rw [← hkk] at GK GN GS GO
  clear hkk
  go_enter Tryd.func44, Tryd.ntmps44
  go_wp2_with fail
  rw [← hW]
  clear hW
  refine HS.mono ?_
  rintro e w1 ⟨rfl, hb1⟩
  have y0 := (hb1.cell (p := ⟨w.heap.size, 0, none⟩) (by simp; omega)).trans s0
  have y1 := (hb1.cell (p := ⟨w.heap.size, 1, none⟩) (by simp; omega)).trans s1
  have y2 := (hb1.cell (p := ⟨w.heap.size, 2, none⟩) (by simp; omega)).trans s2
  have hc1 := (hb1.cell (p := ⟨b, off + tn, none⟩) (by simp; omega)).trans hcW
  have HRP := fun p w1 (h1 : Below W.heap.size W w1) => rru_any (some ⟨b, off, none⟩) n c p zs w1 ((hr.below hb).below h1) hn
  have HVP := fun p w1 (h1 : Below W.heap.size W w1) => rrv_any (some ⟨b, off, none⟩) n c p zs w1 ((hr.below hb).below h1) hn
  have HBd : Hid _ := hide (fun p => rdAt_bd zs p hr.u8)
  go_upto_region 11 with fail
  rw [← HKK.out]
  have BX0 : Below W.heap.size W (w1.alloc (.cells #[.int .i64 0, .int .i64 kk, .int .u64 O, .int .u64 0, .int .i64 K] 52)) := hb1.alloc hb1.size _
  have v0 := (BX0.cell (p := ⟨w.heap.size, 0, none⟩) (by simp; omega)).trans s0
  by_cases hk : 1 ≤ kk ∧ kk ≤ 22
  · have hk0 : (kk == 0) = false := by simp; omega
    have hk22 : ¬ 22 < kk := by omega
    go_wp2_with fail
    refine (HRU _ BX0).mono ?_
    rintro e w2 ⟨rfl, rfl⟩
    clear HRU
    by_cases hf0 : f0 = 0
    · subst hf0
      by_cases hg : 1048576 - S ≤ x
      · have HR : Hid (R = bad 70) := hide (GS.out hk rfl (by omega))
        clear GK GN GS GO hk
        have BX : Below W.heap.size W (w1.alloc (.cells #[.int .i64 0, .int .i64 kk, .int .u64 O, .int .u64 0, .int .i64 K] 52)) := hb1.alloc hb1.size _
        have A6 : (w1.alloc (.cells #[.int .i64 0, .int .i64 kk, .int .u64 O, .int .u64 0, .int .i64 K] 52)).heap[w.heap.size + 1]? = some (.cells #[.int .i64 0, .int .i64 0, .int .u64 0, .int .u64 0, .int .i64 0] 52 (0, 0)) := (BX.block (w.heap.size + 1) (by omega)).trans L6
        have A8 : (w1.alloc (.cells #[.int .i64 0, .int .i64 kk, .int .u64 O, .int .u64 0, .int .i64 K] 52)).heap[w.heap.size + 1 + 1]? = some (.cells #[.int .i64 0, .int .u64 0, .int .i64 0] 48 (0, 0)) := (BX.block (w.heap.size + 2) (by omega)).trans L8
        obtain ⟨az0, az1, az2, az3, az4⟩ := r5_cells A6
        obtain ⟨bz0, bz1, bz2⟩ := z3_cells A8
        have fz0 := frz A6 0
        have fz1 := frz A6 1
        have fz2 := frz A6 2
        have fz3 := frz A6 3
        have fz4 := frz A6 4
        have gz0 := frz A8 0
        have gz1 := frz A8 1
        have gz2 := frz A8 2
        have KX := HZ8.out (w1.alloc (.cells #[.int .i64 0, .int .i64 kk, .int .u64 O, .int .u64 0, .int .i64 K] 52)) BX
        have KY := HZ8.out (w1.alloc (.cells #[.int .i64 0, .int .i64 kk, .int .u64 O, .int .u64 0, .int .i64 K] 52)).drew BX.drew
        have K5 := fun a b c d e => Z8.five (a := a) (b := b) (c := c) (d := d) (e := e) KX (g := w.heap.size + 1) (by omega) (by omega)
        have K8 := fun a b c d e x y z => Z8.eight (a := a) (b := b) (c := c) (d := d) (e := e) (x := x) (y := y) (z := z) KX (g := w.heap.size + 1) (h := w.heap.size + 1 + 1) (by omega) (by omega) (by omega) (by omega)
        unfold Z8 at KY K5 K8
        go_wp2_with fail
        go_region_held3 (fun W' => W'.cell? ⟨w.heap.size + 1 + 1 + 1, 0, none⟩ = some (.int .i64 0) ∧ W'.cell? ⟨w.heap.size + 1 + 1 + 1, 1, none⟩ = some (.int .i64 0) ∧ W'.cell? ⟨w.heap.size + 1 + 1 + 1, 2, none⟩ = some (.int .u64 0) ∧ W'.cell? ⟨w.heap.size + 1 + 1 + 1, 3, none⟩ = some (.int .u64 0) ∧ W'.cell? ⟨w.heap.size + 1 + 1 + 1, 4, none⟩ = some (.int .i64 0) ∧ W'.cell? ⟨w.heap.size + 1 + 1 + 1 + 1, 0, none⟩ = some (.int .i64 0) ∧ W'.cell? ⟨w.heap.size + 1 + 1 + 1 + 1, 1, none⟩ = some (.int .u64 0) ∧ W'.cell? ⟨w.heap.size + 1 + 1 + 1 + 1, 2, none⟩ = some (.int .i64 0)) (first | with_reducible exact KY | with_reducible exact K5 _ _ _ _ _ | with_reducible exact K8 _ _ _ _ _ _ _ _ | fail) (fail)
        go_wp2_with fail
        (try simp only [Exit.inBlock, Exit.then])
        refine bodyPost_ret (v := gZ (70)) (by exact results_ctct Tryd.results44 _ _ (w.heap.size + 1) (w.heap.size + 1 + 1) 52 48 #[.int .i64 0, .int .i64 0, .int .u64 0, .int .u64 0, .int .i64 0] #[.int .i64 0, .int .u64 0, .int .i64 0] (0, 0) (0, 0) _ _ rfl (out8_gd A6 (by omega)) Tryd.underlying52 rfl Tryd.sizeR rfl (out8_hd A8 (by omega)) Tryd.underlying48 rfl Tryd.sizeS) rfl ?_
        exact ⟨by rw [HR.out, gZ_bad (by decide)], (out8_below (hb.trans (BX.mono hb.size)) (by omega) (by omega)).drew⟩
      · have HR1 : Hid _ := hide (GO.out hk rfl (by omega))
        have hxs : x < 1048576 := by omega
        clear GK GN GS GO hk
        go_upto_if 99 with fail
        go_cut [15] (fun s15 wx => ∃ o1 p1, s15 = .int .i64 p1 ∧ wx = (w1.alloc (.cells #[.int .i64 (S + x), .int .i64 kk, .int .u64 o1, .int .u64 0, .int .i64 K] 52)) ∧ 0 ≤ o1 ∧ o1 ≤ 18446744073709551615 ∧ R = told (z / 128 % 2) (pK zs) (told (z / 64 % 2) (pA zs) (⟨S + x, kk, o1, 0, K⟩, p1, 0)))
        case first =>
          by_cases hb1' : z / 32 % 2 = 1
          · have hbb : (z / 32 % 2 == 1) = true := by simp [hb1']
            have hbn : Hid (z / 32 % 2 ≠ 0) := hide (by omega)
            have BX1 : Below W.heap.size W (w1.alloc (.cells #[.int .i64 (S + x), .int .i64 kk, .int .u64 O, .int .u64 0, .int .i64 K] 52)) := hb1.alloc hb1.size _
            have v1 := (BX1.cell (p := ⟨w.heap.size, 1, none⟩) (by simp; omega)).trans s1
            have v2 := (BX1.cell (p := ⟨w.heap.size, 2, none⟩) (by simp; omega)).trans s2
            have HU := HRP p0 _ BX1
            have hbd := HBd.out p0
            generalize hd : rdAt zs p0 = dd at HU hbd
            obtain ⟨d, pd, fd⟩ := dd
            simp only [out3] at HU
            dsimp only at hbd
            obtain ⟨hd0, hd1, _⟩ := hbd
            have hy : Hid (pO zs ⟨S + x, kk, O, 0, K⟩ p0 = (⟨S + x, kk, step O d, 0, K⟩, pd, fd)) := hide (by unfold pO; rw [hd])
            clear hd hb1' HRP HVP
            go_wp2_with fail
            refine HU.mono ?_
            rintro e w2 ⟨rfl, rfl⟩
            clear HU
            by_cases hfd : fd = 0
            · subst hfd
              by_cases hd00 : d = 0
              · subst hd00
                have HR : Hid (R = bad 71) := hide (by rw [HR1.out, told_same hbn.out _ _ hy.out (by rw [step_zero O hO0 hO1])]; rw [told_err (b := z / 64 % 2) (x := bad _) (by first | exact hf.out | (show (71 : Int) ≠ 0; decide)), told_err (b := z / 128 % 2) (x := bad _) (by first | exact hf.out | (show (71 : Int) ≠ 0; decide))])
                clear HR1
                have BX : Below W.heap.size W (w1.alloc (.cells #[.int .i64 (S + x), .int .i64 kk, .int .u64 O, .int .u64 0, .int .i64 K] 52)) := hb1.alloc hb1.size _
                have A6 : (w1.alloc (.cells #[.int .i64 (S + x), .int .i64 kk, .int .u64 O, .int .u64 0, .int .i64 K] 52)).heap[w.heap.size + 1]? = some (.cells #[.int .i64 0, .int .i64 0, .int .u64 0, .int .u64 0, .int .i64 0] 52 (0, 0)) := (BX.block (w.heap.size + 1) (by omega)).trans L6
                have A8 : (w1.alloc (.cells #[.int .i64 (S + x), .int .i64 kk, .int .u64 O, .int .u64 0, .int .i64 K] 52)).heap[w.heap.size + 1 + 1]? = some (.cells #[.int .i64 0, .int .u64 0, .int .i64 0] 48 (0, 0)) := (BX.block (w.heap.size + 2) (by omega)).trans L8
                obtain ⟨az0, az1, az2, az3, az4⟩ := r5_cells A6
                obtain ⟨bz0, bz1, bz2⟩ := z3_cells A8
                have fz0 := frz A6 0
                have fz1 := frz A6 1
                have fz2 := frz A6 2
                have fz3 := frz A6 3
                have fz4 := frz A6 4
                have gz0 := frz A8 0
                have gz1 := frz A8 1
                have gz2 := frz A8 2
                have KX := HZ8.out (w1.alloc (.cells #[.int .i64 (S + x), .int .i64 kk, .int .u64 O, .int .u64 0, .int .i64 K] 52)) BX
                have KY := HZ8.out (w1.alloc (.cells #[.int .i64 (S + x), .int .i64 kk, .int .u64 O, .int .u64 0, .int .i64 K] 52)).drew BX.drew
                have K5 := fun a b c d e => Z8.five (a := a) (b := b) (c := c) (d := d) (e := e) KX (g := w.heap.size + 1) (by omega) (by omega)
                have K8 := fun a b c d e x y z => Z8.eight (a := a) (b := b) (c := c) (d := d) (e := e) (x := x) (y := y) (z := z) KX (g := w.heap.size + 1) (h := w.heap.size + 1 + 1) (by omega) (by omega) (by omega) (by omega)
                unfold Z8 at KY K5 K8
                go_wp2_with fail
                go_region_held3 (fun W' => W'.cell? ⟨w.heap.size + 1 + 1 + 1, 0, none⟩ = some (.int .i64 0) ∧ W'.cell? ⟨w.heap.size + 1 + 1 + 1, 1, none⟩ = some (.int .i64 0) ∧ W'.cell? ⟨w.heap.size + 1 + 1 + 1, 2, none⟩ = some (.int .u64 0) ∧ W'.cell? ⟨w.heap.size + 1 + 1 + 1, 3, none⟩ = some (.int .u64 0) ∧ W'.cell? ⟨w.heap.size + 1 + 1 + 1, 4, none⟩ = some (.int .i64 0) ∧ W'.cell? ⟨w.heap.size + 1 + 1 + 1 + 1, 0, none⟩ = some (.int .i64 0) ∧ W'.cell? ⟨w.heap.size + 1 + 1 + 1 + 1, 1, none⟩ = some (.int .u64 0) ∧ W'.cell? ⟨w.heap.size + 1 + 1 + 1 + 1, 2, none⟩ = some (.int .i64 0)) (first | with_reducible exact KY | with_reducible exact K5 _ _ _ _ _ | with_reducible exact K8 _ _ _ _ _ _ _ _ | fail) (fail)
                go_wp2_with fail
                (try simp only [Exit.inBlock, Exit.then])
                refine bodyPost_ret (v := gZ (71)) (by exact results_ctct Tryd.results44 _ _ (w.heap.size + 1) (w.heap.size + 1 + 1) 52 48 #[.int .i64 0, .int .i64 0, .int .u64 0, .int .u64 0, .int .i64 0] #[.int .i64 0, .int .u64 0, .int .i64 0] (0, 0) (0, 0) _ _ rfl (out8_gd A6 (by omega)) Tryd.underlying52 rfl Tryd.sizeR rfl (out8_hd A8 (by omega)) Tryd.underlying48 rfl Tryd.sizeS) rfl ?_
                exact ⟨by rw [HR.out, gZ_bad (by decide)], (out8_below (hb.trans (BX.mono hb.size)) (by omega) (by omega)).drew⟩
              · have hdb : (d == 0) = false := by simp [hd00]
                have hsb := step_bd O d
                have HR2 : Hid (R = told (z / 128 % 2) (pK zs) (told (z / 64 % 2) (pA zs) (⟨S + x, kk, step O d, 0, K⟩, pd, 0))) := hide (by rw [HR1.out, told_on hbn.out _ _ hy.out (fun e => step_ne hd0 hd1 hd00 (congrArg Rc.obj e))])
                clear HR1 hd00
                go_wp2_with fail
                refine (rstep_any O d _ hd0 hd1).mono ?_
                rintro e w2 ⟨rfl, rfl⟩
                go_wp2_with fail
                go_meet
                exact ⟨step O d, pd, rfl, rfl, hsb.1, hsb.2, HR2.out⟩
            · have hf : Hid (fd ≠ 0) := hide hfd
              have hfb : (fd != 0) = true := by simp [hfd]
              have HR : Hid (R = bad fd) := hide (by rw [HR1.out, told_bad hbn.out _ _ hy.out hfd]; rw [told_err (b := z / 64 % 2) (x := bad _) (by first | exact hf.out | (show (71 : Int) ≠ 0; decide)), told_err (b := z / 128 % 2) (x := bad _) (by first | exact hf.out | (show (71 : Int) ≠ 0; decide))])
              clear HR1 hfd
              have BX : Below W.heap.size W (w1.alloc (.cells #[.int .i64 (S + x), .int .i64 kk, .int .u64 O, .int .u64 0, .int .i64 K] 52)) := hb1.alloc hb1.size _
              have A6 : (w1.alloc (.cells #[.int .i64 (S + x), .int .i64 kk, .int .u64 O, .int .u64 0, .int .i64 K] 52)).heap[w.heap.size + 1]? = some (.cells #[.int .i64 0, .int .i64 0, .int .u64 0, .int .u64 0, .int .i64 0] 52 (0, 0)) := (BX.block (w.heap.size + 1) (by omega)).trans L6
              have A8 : (w1.alloc (.cells #[.int .i64 (S + x), .int .i64 kk, .int .u64 O, .int .u64 0, .int .i64 K] 52)).heap[w.heap.size + 1 + 1]? = some (.cells #[.int .i64 0, .int .u64 0, .int .i64 0] 48 (0, 0)) := (BX.block (w.heap.size + 2) (by omega)).trans L8
              obtain ⟨az0, az1, az2, az3, az4⟩ := r5_cells A6
              obtain ⟨bz0, bz1, bz2⟩ := z3_cells A8
              have fz0 := frz A6 0
              have fz1 := frz A6 1
              have fz2 := frz A6 2
              have fz3 := frz A6 3
              have fz4 := frz A6 4
              have gz0 := frz A8 0
              have gz1 := frz A8 1
              have gz2 := frz A8 2
              have KX := HZ8.out (w1.alloc (.cells #[.int .i64 (S + x), .int .i64 kk, .int .u64 O, .int .u64 0, .int .i64 K] 52)) BX
              have KY := HZ8.out (w1.alloc (.cells #[.int .i64 (S + x), .int .i64 kk, .int .u64 O, .int .u64 0, .int .i64 K] 52)).drew BX.drew
              have K5 := fun a b c d e => Z8.five (a := a) (b := b) (c := c) (d := d) (e := e) KX (g := w.heap.size + 1) (by omega) (by omega)
              have K8 := fun a b c d e x y z => Z8.eight (a := a) (b := b) (c := c) (d := d) (e := e) (x := x) (y := y) (z := z) KX (g := w.heap.size + 1) (h := w.heap.size + 1 + 1) (by omega) (by omega) (by omega) (by omega)
              unfold Z8 at KY K5 K8
              go_wp2_with fail
              go_region_held3 (fun W' => W'.cell? ⟨w.heap.size + 1 + 1 + 1, 0, none⟩ = some (.int .i64 0) ∧ W'.cell? ⟨w.heap.size + 1 + 1 + 1, 1, none⟩ = some (.int .i64 0) ∧ W'.cell? ⟨w.heap.size + 1 + 1 + 1, 2, none⟩ = some (.int .u64 0) ∧ W'.cell? ⟨w.heap.size + 1 + 1 + 1, 3, none⟩ = some (.int .u64 0) ∧ W'.cell? ⟨w.heap.size + 1 + 1 + 1, 4, none⟩ = some (.int .i64 0) ∧ W'.cell? ⟨w.heap.size + 1 + 1 + 1 + 1, 0, none⟩ = some (.int .i64 0) ∧ W'.cell? ⟨w.heap.size + 1 + 1 + 1 + 1, 1, none⟩ = some (.int .u64 0) ∧ W'.cell? ⟨w.heap.size + 1 + 1 + 1 + 1, 2, none⟩ = some (.int .i64 0)) (first | with_reducible exact KY | with_reducible exact K5 _ _ _ _ _ | with_reducible exact K8 _ _ _ _ _ _ _ _ | fail) (fail)
              go_wp2_with fail
              (try simp only [Exit.inBlock, Exit.then])
              refine bodyPost_ret (v := gZ (fd)) (by exact results_ctct Tryd.results44 _ _ (w.heap.size + 1) (w.heap.size + 1 + 1) 52 48 #[.int .i64 0, .int .i64 0, .int .u64 0, .int .u64 0, .int .i64 0] #[.int .i64 0, .int .u64 0, .int .i64 0] (0, 0) (0, 0) _ _ rfl (out8_gd A6 (by omega)) Tryd.underlying52 rfl Tryd.sizeR rfl (out8_hd A8 (by omega)) Tryd.underlying48 rfl Tryd.sizeS) rfl ?_
              exact ⟨by rw [HR.out, gZ_bad hf.out], (out8_below (hb.trans (BX.mono hb.size)) (by omega) (by omega)).drew⟩
          · have hbb : (z / 32 % 2 == 1) = false := by simp [hb1']
            have HR2 : Hid (R = told (z / 128 % 2) (pK zs) (told (z / 64 % 2) (pA zs) (⟨S + x, kk, O, 0, K⟩, p0, 0))) := hide (by rw [HR1.out, show z / 32 % 2 = 0 by omega, told_no])
            clear HR1 hb1' HRP HVP
            go_wp2_with fail
            go_meet
            exact ⟨O, p0, rfl, rfl, hO0, hO1, HR2.out⟩
        case rest =>
        obtain ⟨o1, p1, rfl, rfl, ho10, ho11, hR2⟩ := hcut
        have HR1 : Hid _ := hide hR2
        clear hR2
        go_upto_if 125 with fail
        go_cut [15] (fun s15 wx => ∃ a1 p2, s15 = .int .i64 p2 ∧ wx = (w1.alloc (.cells #[.int .i64 (S + x), .int .i64 kk, .int .u64 o1, .int .u64 a1, .int .i64 K] 52)) ∧ 0 ≤ a1 ∧ a1 ≤ 18446744073709551615 ∧ R = told (z / 128 % 2) (pK zs) (⟨S + x, kk, o1, a1, K⟩, p2, 0))
        case first =>
          by_cases hb1' : z / 64 % 2 = 1
          · have hbb : (z / 64 % 2 == 1) = true := by simp [hb1']
            have hbn : Hid (z / 64 % 2 ≠ 0) := hide (by omega)
            have BX1 : Below W.heap.size W (w1.alloc (.cells #[.int .i64 (S + x), .int .i64 kk, .int .u64 o1, .int .u64 0, .int .i64 K] 52)) := hb1.alloc hb1.size _
            have v1 := (BX1.cell (p := ⟨w.heap.size, 1, none⟩) (by simp; omega)).trans s1
            have v2 := (BX1.cell (p := ⟨w.heap.size, 2, none⟩) (by simp; omega)).trans s2
            have HU := HRP p1 _ BX1
            have hbd := HBd.out p1
            generalize hd : rdAt zs p1 = dd at HU hbd
            obtain ⟨d, pd, fd⟩ := dd
            simp only [out3] at HU
            dsimp only at hbd
            obtain ⟨hd0, hd1, _⟩ := hbd
            have hy : Hid (pA zs ⟨S + x, kk, o1, 0, K⟩ p1 = (⟨S + x, kk, o1, d, K⟩, pd, fd)) := hide (by unfold pA; rw [hd])
            clear hd hb1' HRP HVP
            go_wp2_with fail
            refine HU.mono ?_
            rintro e w2 ⟨rfl, rfl⟩
            clear HU
            by_cases hfd : fd = 0
            · subst hfd
              by_cases hd00 : d = 0
              · subst hd00
                have HR : Hid (R = bad 71) := hide (by rw [HR1.out, told_same hbn.out _ _ hy.out rfl]; rw [told_err (b := z / 128 % 2) (x := bad _) (by first | exact hf.out | (show (71 : Int) ≠ 0; decide))])
                clear HR1
                have BX : Below W.heap.size W (w1.alloc (.cells #[.int .i64 (S + x), .int .i64 kk, .int .u64 o1, .int .u64 0, .int .i64 K] 52)) := hb1.alloc hb1.size _
                have A6 : (w1.alloc (.cells #[.int .i64 (S + x), .int .i64 kk, .int .u64 o1, .int .u64 0, .int .i64 K] 52)).heap[w.heap.size + 1]? = some (.cells #[.int .i64 0, .int .i64 0, .int .u64 0, .int .u64 0, .int .i64 0] 52 (0, 0)) := (BX.block (w.heap.size + 1) (by omega)).trans L6
                have A8 : (w1.alloc (.cells #[.int .i64 (S + x), .int .i64 kk, .int .u64 o1, .int .u64 0, .int .i64 K] 52)).heap[w.heap.size + 1 + 1]? = some (.cells #[.int .i64 0, .int .u64 0, .int .i64 0] 48 (0, 0)) := (BX.block (w.heap.size + 2) (by omega)).trans L8
                obtain ⟨az0, az1, az2, az3, az4⟩ := r5_cells A6
                obtain ⟨bz0, bz1, bz2⟩ := z3_cells A8
                have fz0 := frz A6 0
                have fz1 := frz A6 1
                have fz2 := frz A6 2
                have fz3 := frz A6 3
                have fz4 := frz A6 4
                have gz0 := frz A8 0
                have gz1 := frz A8 1
                have gz2 := frz A8 2
                have KX := HZ8.out (w1.alloc (.cells #[.int .i64 (S + x), .int .i64 kk, .int .u64 o1, .int .u64 0, .int .i64 K] 52)) BX
                have KY := HZ8.out (w1.alloc (.cells #[.int .i64 (S + x), .int .i64 kk, .int .u64 o1, .int .u64 0, .int .i64 K] 52)).drew BX.drew
                have K5 := fun a b c d e => Z8.five (a := a) (b := b) (c := c) (d := d) (e := e) KX (g := w.heap.size + 1) (by omega) (by omega)
                have K8 := fun a b c d e x y z => Z8.eight (a := a) (b := b) (c := c) (d := d) (e := e) (x := x) (y := y) (z := z) KX (g := w.heap.size + 1) (h := w.heap.size + 1 + 1) (by omega) (by omega) (by omega) (by omega)
                unfold Z8 at KY K5 K8
                go_wp2_with fail
                go_region_held3 (fun W' => W'.cell? ⟨w.heap.size + 1 + 1 + 1, 0, none⟩ = some (.int .i64 0) ∧ W'.cell? ⟨w.heap.size + 1 + 1 + 1, 1, none⟩ = some (.int .i64 0) ∧ W'.cell? ⟨w.heap.size + 1 + 1 + 1, 2, none⟩ = some (.int .u64 0) ∧ W'.cell? ⟨w.heap.size + 1 + 1 + 1, 3, none⟩ = some (.int .u64 0) ∧ W'.cell? ⟨w.heap.size + 1 + 1 + 1, 4, none⟩ = some (.int .i64 0) ∧ W'.cell? ⟨w.heap.size + 1 + 1 + 1 + 1, 0, none⟩ = some (.int .i64 0) ∧ W'.cell? ⟨w.heap.size + 1 + 1 + 1 + 1, 1, none⟩ = some (.int .u64 0) ∧ W'.cell? ⟨w.heap.size + 1 + 1 + 1 + 1, 2, none⟩ = some (.int .i64 0)) (first | with_reducible exact KY | with_reducible exact K5 _ _ _ _ _ | with_reducible exact K8 _ _ _ _ _ _ _ _ | fail) (fail)
                go_wp2_with fail
                (try simp only [Exit.inBlock, Exit.then])
                refine bodyPost_ret (v := gZ (71)) (by exact results_ctct Tryd.results44 _ _ (w.heap.size + 1) (w.heap.size + 1 + 1) 52 48 #[.int .i64 0, .int .i64 0, .int .u64 0, .int .u64 0, .int .i64 0] #[.int .i64 0, .int .u64 0, .int .i64 0] (0, 0) (0, 0) _ _ rfl (out8_gd A6 (by omega)) Tryd.underlying52 rfl Tryd.sizeR rfl (out8_hd A8 (by omega)) Tryd.underlying48 rfl Tryd.sizeS) rfl ?_
                exact ⟨by rw [HR.out, gZ_bad (by decide)], (out8_below (hb.trans (BX.mono hb.size)) (by omega) (by omega)).drew⟩
              · have hdb : (d == 0) = false := by simp [hd00]
                have HR2 : Hid (R = told (z / 128 % 2) (pK zs) (⟨S + x, kk, o1, d, K⟩, pd, 0)) := hide (by rw [HR1.out, told_on hbn.out _ _ hy.out (fun e => hd00 (congrArg Rc.arg e))])
                clear HR1 hd00
                go_wp2_with fail
                go_meet
                exact ⟨d, pd, rfl, rfl, hd0, hd1, HR2.out⟩
            · have hf : Hid (fd ≠ 0) := hide hfd
              have hfb : (fd != 0) = true := by simp [hfd]
              have HR : Hid (R = bad fd) := hide (by rw [HR1.out, told_bad hbn.out _ _ hy.out hfd]; rw [told_err (b := z / 128 % 2) (x := bad _) (by first | exact hf.out | (show (71 : Int) ≠ 0; decide))])
              clear HR1 hfd
              have BX : Below W.heap.size W (w1.alloc (.cells #[.int .i64 (S + x), .int .i64 kk, .int .u64 o1, .int .u64 0, .int .i64 K] 52)) := hb1.alloc hb1.size _
              have A6 : (w1.alloc (.cells #[.int .i64 (S + x), .int .i64 kk, .int .u64 o1, .int .u64 0, .int .i64 K] 52)).heap[w.heap.size + 1]? = some (.cells #[.int .i64 0, .int .i64 0, .int .u64 0, .int .u64 0, .int .i64 0] 52 (0, 0)) := (BX.block (w.heap.size + 1) (by omega)).trans L6
              have A8 : (w1.alloc (.cells #[.int .i64 (S + x), .int .i64 kk, .int .u64 o1, .int .u64 0, .int .i64 K] 52)).heap[w.heap.size + 1 + 1]? = some (.cells #[.int .i64 0, .int .u64 0, .int .i64 0] 48 (0, 0)) := (BX.block (w.heap.size + 2) (by omega)).trans L8
              obtain ⟨az0, az1, az2, az3, az4⟩ := r5_cells A6
              obtain ⟨bz0, bz1, bz2⟩ := z3_cells A8
              have fz0 := frz A6 0
              have fz1 := frz A6 1
              have fz2 := frz A6 2
              have fz3 := frz A6 3
              have fz4 := frz A6 4
              have gz0 := frz A8 0
              have gz1 := frz A8 1
              have gz2 := frz A8 2
              have KX := HZ8.out (w1.alloc (.cells #[.int .i64 (S + x), .int .i64 kk, .int .u64 o1, .int .u64 0, .int .i64 K] 52)) BX
              have KY := HZ8.out (w1.alloc (.cells #[.int .i64 (S + x), .int .i64 kk, .int .u64 o1, .int .u64 0, .int .i64 K] 52)).drew BX.drew
              have K5 := fun a b c d e => Z8.five (a := a) (b := b) (c := c) (d := d) (e := e) KX (g := w.heap.size + 1) (by omega) (by omega)
              have K8 := fun a b c d e x y z => Z8.eight (a := a) (b := b) (c := c) (d := d) (e := e) (x := x) (y := y) (z := z) KX (g := w.heap.size + 1) (h := w.heap.size + 1 + 1) (by omega) (by omega) (by omega) (by omega)
              unfold Z8 at KY K5 K8
              go_wp2_with fail
              go_region_held3 (fun W' => W'.cell? ⟨w.heap.size + 1 + 1 + 1, 0, none⟩ = some (.int .i64 0) ∧ W'.cell? ⟨w.heap.size + 1 + 1 + 1, 1, none⟩ = some (.int .i64 0) ∧ W'.cell? ⟨w.heap.size + 1 + 1 + 1, 2, none⟩ = some (.int .u64 0) ∧ W'.cell? ⟨w.heap.size + 1 + 1 + 1, 3, none⟩ = some (.int .u64 0) ∧ W'.cell? ⟨w.heap.size + 1 + 1 + 1, 4, none⟩ = some (.int .i64 0) ∧ W'.cell? ⟨w.heap.size + 1 + 1 + 1 + 1, 0, none⟩ = some (.int .i64 0) ∧ W'.cell? ⟨w.heap.size + 1 + 1 + 1 + 1, 1, none⟩ = some (.int .u64 0) ∧ W'.cell? ⟨w.heap.size + 1 + 1 + 1 + 1, 2, none⟩ = some (.int .i64 0)) (first | with_reducible exact KY | with_reducible exact K5 _ _ _ _ _ | with_reducible exact K8 _ _ _ _ _ _ _ _ | fail) (fail)
              go_wp2_with fail
              (try simp only [Exit.inBlock, Exit.then])
              refine bodyPost_ret (v := gZ (fd)) (by exact results_ctct Tryd.results44 _ _ (w.heap.size + 1) (w.heap.size + 1 + 1) 52 48 #[.int .i64 0, .int .i64 0, .int .u64 0, .int .u64 0, .int .i64 0] #[.int .i64 0, .int .u64 0, .int .i64 0] (0, 0) (0, 0) _ _ rfl (out8_gd A6 (by omega)) Tryd.underlying52 rfl Tryd.sizeR rfl (out8_hd A8 (by omega)) Tryd.underlying48 rfl Tryd.sizeS) rfl ?_
              exact ⟨by rw [HR.out, gZ_bad hf.out], (out8_below (hb.trans (BX.mono hb.size)) (by omega) (by omega)).drew⟩
          · have hbb : (z / 64 % 2 == 1) = false := by simp [hb1']
            have HR2 : Hid (R = told (z / 128 % 2) (pK zs) (⟨S + x, kk, o1, 0, K⟩, p1, 0)) := hide (by rw [HR1.out, show z / 64 % 2 = 0 by omega, told_no])
            clear HR1 hb1' HRP HVP
            go_wp2_with fail
            go_meet
            exact ⟨0, p1, rfl, rfl, by omega, by omega, HR2.out⟩
        case rest =>
        obtain ⟨a1, p2, rfl, rfl, ha10, ha11, hR2⟩ := hcut
        have HR1 : Hid _ := hide hR2
        clear hR2
        go_upto_if 147 with fail
        go_cut [15] (fun s15 wx => ∃ q1 p3, s15 = .int .i64 p3 ∧ wx = (w1.alloc (.cells #[.int .i64 (S + x), .int .i64 kk, .int .u64 o1, .int .u64 a1, .int .i64 q1] 52)) ∧ R = (⟨S + x, kk, o1, a1, q1⟩, p3, 0))
        case first =>
          by_cases hb1' : z / 128 = 1
          · have hbb : (z / 128 == 1) = true := by simp [hb1']
            have hbn : Hid (z / 128 % 2 ≠ 0) := hide (by omega)
            have BX1 : Below W.heap.size W (w1.alloc (.cells #[.int .i64 (S + x), .int .i64 kk, .int .u64 o1, .int .u64 a1, .int .i64 K] 52)) := hb1.alloc hb1.size _
            have v1 := (BX1.cell (p := ⟨w.heap.size, 1, none⟩) (by simp; omega)).trans s1
            have v2 := (BX1.cell (p := ⟨w.heap.size, 2, none⟩) (by simp; omega)).trans s2
            have HU := HVP p2 _ BX1
            have hbd := HBd.out p2
            have hzb := zag_bd _ hbd.1 hbd.2.1
            have hzz : -9223372036854775808 ≤ (rvAt zs p2).1 ∧ (rvAt zs p2).1 ≤ 9223372036854775807 := hzb
            have HVE : Hid (pK zs ⟨S + x, kk, o1, a1, K⟩ p2 = (⟨S + x, kk, o1, a1, wrap64 (K + (rvAt zs p2).1)⟩, (rvAt zs p2).2.1, if (rvAt zs p2).2.2 = 0 ∧ ((rvAt zs p2).1 < -K ∨ 262144 - K < (rvAt zs p2).1) then 71 else (rvAt zs p2).2.2)) := hide rfl
            clear hbd hzb
            generalize rvAt zs p2 = dd at HU HVE hzz
            obtain ⟨d, pd, fd⟩ := dd
            simp only [out3] at HU
            dsimp only at HVE hzz
            obtain ⟨hd0, hd1⟩ := hzz
            clear hb1' HRP HVP
            go_wp2_with fail
            refine HU.mono ?_
            rintro e w2 ⟨rfl, rfl⟩
            clear HU
            by_cases hfd : fd = 0
            · subst hfd
              by_cases hlo : d < -K
              · have HR : Hid (R = bad 71) := hide (by rw [HR1.out, told_bad hbn.out _ _ (by rw [HVE.out, if_pos ⟨rfl, .inl hlo⟩]) (by decide)])
                have hdb : (d == 0) = false := by simp; omega
                clear HR1 HVE
                have BX : Below W.heap.size W (w1.alloc (.cells #[.int .i64 (S + x), .int .i64 kk, .int .u64 o1, .int .u64 a1, .int .i64 K] 52)) := hb1.alloc hb1.size _
                have A6 : (w1.alloc (.cells #[.int .i64 (S + x), .int .i64 kk, .int .u64 o1, .int .u64 a1, .int .i64 K] 52)).heap[w.heap.size + 1]? = some (.cells #[.int .i64 0, .int .i64 0, .int .u64 0, .int .u64 0, .int .i64 0] 52 (0, 0)) := (BX.block (w.heap.size + 1) (by omega)).trans L6
                have A8 : (w1.alloc (.cells #[.int .i64 (S + x), .int .i64 kk, .int .u64 o1, .int .u64 a1, .int .i64 K] 52)).heap[w.heap.size + 1 + 1]? = some (.cells #[.int .i64 0, .int .u64 0, .int .i64 0] 48 (0, 0)) := (BX.block (w.heap.size + 2) (by omega)).trans L8
                obtain ⟨az0, az1, az2, az3, az4⟩ := r5_cells A6
                obtain ⟨bz0, bz1, bz2⟩ := z3_cells A8
                have fz0 := frz A6 0
                have fz1 := frz A6 1
                have fz2 := frz A6 2
                have fz3 := frz A6 3
                have fz4 := frz A6 4
                have gz0 := frz A8 0
                have gz1 := frz A8 1
                have gz2 := frz A8 2
                have KX := HZ8.out (w1.alloc (.cells #[.int .i64 (S + x), .int .i64 kk, .int .u64 o1, .int .u64 a1, .int .i64 K] 52)) BX
                have KY := HZ8.out (w1.alloc (.cells #[.int .i64 (S + x), .int .i64 kk, .int .u64 o1, .int .u64 a1, .int .i64 K] 52)).drew BX.drew
                have K5 := fun a b c d e => Z8.five (a := a) (b := b) (c := c) (d := d) (e := e) KX (g := w.heap.size + 1) (by omega) (by omega)
                have K8 := fun a b c d e x y z => Z8.eight (a := a) (b := b) (c := c) (d := d) (e := e) (x := x) (y := y) (z := z) KX (g := w.heap.size + 1) (h := w.heap.size + 1 + 1) (by omega) (by omega) (by omega) (by omega)
                unfold Z8 at KY K5 K8
                go_wp2_with fail
                go_region_held3 (fun W' => W'.cell? ⟨w.heap.size + 1 + 1 + 1, 0, none⟩ = some (.int .i64 0) ∧ W'.cell? ⟨w.heap.size + 1 + 1 + 1, 1, none⟩ = some (.int .i64 0) ∧ W'.cell? ⟨w.heap.size + 1 + 1 + 1, 2, none⟩ = some (.int .u64 0) ∧ W'.cell? ⟨w.heap.size + 1 + 1 + 1, 3, none⟩ = some (.int .u64 0) ∧ W'.cell? ⟨w.heap.size + 1 + 1 + 1, 4, none⟩ = some (.int .i64 0) ∧ W'.cell? ⟨w.heap.size + 1 + 1 + 1 + 1, 0, none⟩ = some (.int .i64 0) ∧ W'.cell? ⟨w.heap.size + 1 + 1 + 1 + 1, 1, none⟩ = some (.int .u64 0) ∧ W'.cell? ⟨w.heap.size + 1 + 1 + 1 + 1, 2, none⟩ = some (.int .i64 0)) (first | with_reducible exact KY | with_reducible exact K5 _ _ _ _ _ | with_reducible exact K8 _ _ _ _ _ _ _ _ | fail) (fail)
                go_wp2_with fail
                (try simp only [Exit.inBlock, Exit.then])
                refine bodyPost_ret (v := gZ (71)) (by exact results_ctct Tryd.results44 _ _ (w.heap.size + 1) (w.heap.size + 1 + 1) 52 48 #[.int .i64 0, .int .i64 0, .int .u64 0, .int .u64 0, .int .i64 0] #[.int .i64 0, .int .u64 0, .int .i64 0] (0, 0) (0, 0) _ _ rfl (out8_gd A6 (by omega)) Tryd.underlying52 rfl Tryd.sizeR rfl (out8_hd A8 (by omega)) Tryd.underlying48 rfl Tryd.sizeS) rfl ?_
                exact ⟨by rw [HR.out, gZ_bad (by decide)], (out8_below (hb.trans (BX.mono hb.size)) (by omega) (by omega)).drew⟩
              · by_cases hhi : 262144 - K < d
                · have HR : Hid (R = bad 71) := hide (by rw [HR1.out, told_bad hbn.out _ _ (by rw [HVE.out, if_pos ⟨rfl, .inr hhi⟩]) (by decide)])
                  have hdb : (d == 0) = false := by simp; omega
                  clear HR1 HVE
                  have BX : Below W.heap.size W (w1.alloc (.cells #[.int .i64 (S + x), .int .i64 kk, .int .u64 o1, .int .u64 a1, .int .i64 K] 52)) := hb1.alloc hb1.size _
                  have A6 : (w1.alloc (.cells #[.int .i64 (S + x), .int .i64 kk, .int .u64 o1, .int .u64 a1, .int .i64 K] 52)).heap[w.heap.size + 1]? = some (.cells #[.int .i64 0, .int .i64 0, .int .u64 0, .int .u64 0, .int .i64 0] 52 (0, 0)) := (BX.block (w.heap.size + 1) (by omega)).trans L6
                  have A8 : (w1.alloc (.cells #[.int .i64 (S + x), .int .i64 kk, .int .u64 o1, .int .u64 a1, .int .i64 K] 52)).heap[w.heap.size + 1 + 1]? = some (.cells #[.int .i64 0, .int .u64 0, .int .i64 0] 48 (0, 0)) := (BX.block (w.heap.size + 2) (by omega)).trans L8
                  obtain ⟨az0, az1, az2, az3, az4⟩ := r5_cells A6
                  obtain ⟨bz0, bz1, bz2⟩ := z3_cells A8
                  have fz0 := frz A6 0
                  have fz1 := frz A6 1
                  have fz2 := frz A6 2
                  have fz3 := frz A6 3
                  have fz4 := frz A6 4
                  have gz0 := frz A8 0
                  have gz1 := frz A8 1
                  have gz2 := frz A8 2
                  have KX := HZ8.out (w1.alloc (.cells #[.int .i64 (S + x), .int .i64 kk, .int .u64 o1, .int .u64 a1, .int .i64 K] 52)) BX
                  have KY := HZ8.out (w1.alloc (.cells #[.int .i64 (S + x), .int .i64 kk, .int .u64 o1, .int .u64 a1, .int .i64 K] 52)).drew BX.drew
                  have K5 := fun a b c d e => Z8.five (a := a) (b := b) (c := c) (d := d) (e := e) KX (g := w.heap.size + 1) (by omega) (by omega)
                  have K8 := fun a b c d e x y z => Z8.eight (a := a) (b := b) (c := c) (d := d) (e := e) (x := x) (y := y) (z := z) KX (g := w.heap.size + 1) (h := w.heap.size + 1 + 1) (by omega) (by omega) (by omega) (by omega)
                  unfold Z8 at KY K5 K8
                  go_wp2_with fail
                  go_region_held3 (fun W' => W'.cell? ⟨w.heap.size + 1 + 1 + 1, 0, none⟩ = some (.int .i64 0) ∧ W'.cell? ⟨w.heap.size + 1 + 1 + 1, 1, none⟩ = some (.int .i64 0) ∧ W'.cell? ⟨w.heap.size + 1 + 1 + 1, 2, none⟩ = some (.int .u64 0) ∧ W'.cell? ⟨w.heap.size + 1 + 1 + 1, 3, none⟩ = some (.int .u64 0) ∧ W'.cell? ⟨w.heap.size + 1 + 1 + 1, 4, none⟩ = some (.int .i64 0) ∧ W'.cell? ⟨w.heap.size + 1 + 1 + 1 + 1, 0, none⟩ = some (.int .i64 0) ∧ W'.cell? ⟨w.heap.size + 1 + 1 + 1 + 1, 1, none⟩ = some (.int .u64 0) ∧ W'.cell? ⟨w.heap.size + 1 + 1 + 1 + 1, 2, none⟩ = some (.int .i64 0)) (first | with_reducible exact KY | with_reducible exact K5 _ _ _ _ _ | with_reducible exact K8 _ _ _ _ _ _ _ _ | fail) (fail)
                  go_wp2_with fail
                  (try simp only [Exit.inBlock, Exit.then])
                  refine bodyPost_ret (v := gZ (71)) (by exact results_ctct Tryd.results44 _ _ (w.heap.size + 1) (w.heap.size + 1 + 1) 52 48 #[.int .i64 0, .int .i64 0, .int .u64 0, .int .u64 0, .int .i64 0] #[.int .i64 0, .int .u64 0, .int .i64 0] (0, 0) (0, 0) _ _ rfl (out8_gd A6 (by omega)) Tryd.underlying52 rfl Tryd.sizeR rfl (out8_hd A8 (by omega)) Tryd.underlying48 rfl Tryd.sizeS) rfl ?_
                  exact ⟨by rw [HR.out, gZ_bad (by decide)], (out8_below (hb.trans (BX.mono hb.size)) (by omega) (by omega)).drew⟩
                · have hcut := stack_cut hlo hhi
                  have HV2 : Hid (pK zs ⟨S + x, kk, o1, a1, K⟩ p2 = (⟨S + x, kk, o1, a1, K + d⟩, pd, 0)) := hide (by rw [HVE.out, if_neg (by omega), hcut.1])
                  by_cases hd00 : d = 0
                  · subst hd00
                    have HR : Hid (R = bad 71) := hide (by rw [HR1.out, told_same hbn.out _ _ HV2.out (by rw [Int.add_zero])])
                    clear HR1 HVE HV2 hcut
                    have BX : Below W.heap.size W (w1.alloc (.cells #[.int .i64 (S + x), .int .i64 kk, .int .u64 o1, .int .u64 a1, .int .i64 K] 52)) := hb1.alloc hb1.size _
                    have A6 : (w1.alloc (.cells #[.int .i64 (S + x), .int .i64 kk, .int .u64 o1, .int .u64 a1, .int .i64 K] 52)).heap[w.heap.size + 1]? = some (.cells #[.int .i64 0, .int .i64 0, .int .u64 0, .int .u64 0, .int .i64 0] 52 (0, 0)) := (BX.block (w.heap.size + 1) (by omega)).trans L6
                    have A8 : (w1.alloc (.cells #[.int .i64 (S + x), .int .i64 kk, .int .u64 o1, .int .u64 a1, .int .i64 K] 52)).heap[w.heap.size + 1 + 1]? = some (.cells #[.int .i64 0, .int .u64 0, .int .i64 0] 48 (0, 0)) := (BX.block (w.heap.size + 2) (by omega)).trans L8
                    obtain ⟨az0, az1, az2, az3, az4⟩ := r5_cells A6
                    obtain ⟨bz0, bz1, bz2⟩ := z3_cells A8
                    have fz0 := frz A6 0
                    have fz1 := frz A6 1
                    have fz2 := frz A6 2
                    have fz3 := frz A6 3
                    have fz4 := frz A6 4
                    have gz0 := frz A8 0
                    have gz1 := frz A8 1
                    have gz2 := frz A8 2
                    have KX := HZ8.out (w1.alloc (.cells #[.int .i64 (S + x), .int .i64 kk, .int .u64 o1, .int .u64 a1, .int .i64 K] 52)) BX
                    have KY := HZ8.out (w1.alloc (.cells #[.int .i64 (S + x), .int .i64 kk, .int .u64 o1, .int .u64 a1, .int .i64 K] 52)).drew BX.drew
                    have K5 := fun a b c d e => Z8.five (a := a) (b := b) (c := c) (d := d) (e := e) KX (g := w.heap.size + 1) (by omega) (by omega)
                    have K8 := fun a b c d e x y z => Z8.eight (a := a) (b := b) (c := c) (d := d) (e := e) (x := x) (y := y) (z := z) KX (g := w.heap.size + 1) (h := w.heap.size + 1 + 1) (by omega) (by omega) (by omega) (by omega)
                    unfold Z8 at KY K5 K8
                    go_wp2_with fail
                    go_region_held3 (fun W' => W'.cell? ⟨w.heap.size + 1 + 1 + 1, 0, none⟩ = some (.int .i64 0) ∧ W'.cell? ⟨w.heap.size + 1 + 1 + 1, 1, none⟩ = some (.int .i64 0) ∧ W'.cell? ⟨w.heap.size + 1 + 1 + 1, 2, none⟩ = some (.int .u64 0) ∧ W'.cell? ⟨w.heap.size + 1 + 1 + 1, 3, none⟩ = some (.int .u64 0) ∧ W'.cell? ⟨w.heap.size + 1 + 1 + 1, 4, none⟩ = some (.int .i64 0) ∧ W'.cell? ⟨w.heap.size + 1 + 1 + 1 + 1, 0, none⟩ = some (.int .i64 0) ∧ W'.cell? ⟨w.heap.size + 1 + 1 + 1 + 1, 1, none⟩ = some (.int .u64 0) ∧ W'.cell? ⟨w.heap.size + 1 + 1 + 1 + 1, 2, none⟩ = some (.int .i64 0)) (first | with_reducible exact KY | with_reducible exact K5 _ _ _ _ _ | with_reducible exact K8 _ _ _ _ _ _ _ _ | fail) (fail)
                    go_wp2_with fail
                    (try simp only [Exit.inBlock, Exit.then])
                    refine bodyPost_ret (v := gZ (71)) (by exact results_ctct Tryd.results44 _ _ (w.heap.size + 1) (w.heap.size + 1 + 1) 52 48 #[.int .i64 0, .int .i64 0, .int .u64 0, .int .u64 0, .int .i64 0] #[.int .i64 0, .int .u64 0, .int .i64 0] (0, 0) (0, 0) _ _ rfl (out8_gd A6 (by omega)) Tryd.underlying52 rfl Tryd.sizeR rfl (out8_hd A8 (by omega)) Tryd.underlying48 rfl Tryd.sizeS) rfl ?_
                    exact ⟨by rw [HR.out, gZ_bad (by decide)], (out8_below (hb.trans (BX.mono hb.size)) (by omega) (by omega)).drew⟩
                  · have hdb : (d == 0) = false := by simp [hd00]
                    have HR2 : Hid (R = (⟨S + x, kk, o1, a1, K + d⟩, pd, 0)) := hide (by rw [HR1.out, told_on hbn.out _ _ HV2.out (fun e => hd00 (by have := congrArg Rc.stack e; dsimp only at this; omega))])
                    obtain ⟨_, hc0, hc1⟩ := hcut
                    clear HR1 HVE HV2 hd00
                    go_wp2_with fail
                    go_meet
                    exact ⟨K + d, pd, rfl, rfl, HR2.out⟩
            · have hf : Hid (fd ≠ 0) := hide hfd
              have hfb : (fd != 0) = true := by simp [hfd]
              have HR : Hid (R = bad fd) := hide (by rw [HR1.out, told_bad hbn.out _ _ (by rw [HVE.out, if_neg (fun e => hfd e.1)]) hfd])
              clear HR1 HVE hfd
              have BX : Below W.heap.size W (w1.alloc (.cells #[.int .i64 (S + x), .int .i64 kk, .int .u64 o1, .int .u64 a1, .int .i64 K] 52)) := hb1.alloc hb1.size _
              have A6 : (w1.alloc (.cells #[.int .i64 (S + x), .int .i64 kk, .int .u64 o1, .int .u64 a1, .int .i64 K] 52)).heap[w.heap.size + 1]? = some (.cells #[.int .i64 0, .int .i64 0, .int .u64 0, .int .u64 0, .int .i64 0] 52 (0, 0)) := (BX.block (w.heap.size + 1) (by omega)).trans L6
              have A8 : (w1.alloc (.cells #[.int .i64 (S + x), .int .i64 kk, .int .u64 o1, .int .u64 a1, .int .i64 K] 52)).heap[w.heap.size + 1 + 1]? = some (.cells #[.int .i64 0, .int .u64 0, .int .i64 0] 48 (0, 0)) := (BX.block (w.heap.size + 2) (by omega)).trans L8
              obtain ⟨az0, az1, az2, az3, az4⟩ := r5_cells A6
              obtain ⟨bz0, bz1, bz2⟩ := z3_cells A8
              have fz0 := frz A6 0
              have fz1 := frz A6 1
              have fz2 := frz A6 2
              have fz3 := frz A6 3
              have fz4 := frz A6 4
              have gz0 := frz A8 0
              have gz1 := frz A8 1
              have gz2 := frz A8 2
              have KX := HZ8.out (w1.alloc (.cells #[.int .i64 (S + x), .int .i64 kk, .int .u64 o1, .int .u64 a1, .int .i64 K] 52)) BX
              have KY := HZ8.out (w1.alloc (.cells #[.int .i64 (S + x), .int .i64 kk, .int .u64 o1, .int .u64 a1, .int .i64 K] 52)).drew BX.drew
              have K5 := fun a b c d e => Z8.five (a := a) (b := b) (c := c) (d := d) (e := e) KX (g := w.heap.size + 1) (by omega) (by omega)
              have K8 := fun a b c d e x y z => Z8.eight (a := a) (b := b) (c := c) (d := d) (e := e) (x := x) (y := y) (z := z) KX (g := w.heap.size + 1) (h := w.heap.size + 1 + 1) (by omega) (by omega) (by omega) (by omega)
              unfold Z8 at KY K5 K8
              go_wp2_with fail
              go_region_held3 (fun W' => W'.cell? ⟨w.heap.size + 1 + 1 + 1, 0, none⟩ = some (.int .i64 0) ∧ W'.cell? ⟨w.heap.size + 1 + 1 + 1, 1, none⟩ = some (.int .i64 0) ∧ W'.cell? ⟨w.heap.size + 1 + 1 + 1, 2, none⟩ = some (.int .u64 0) ∧ W'.cell? ⟨w.heap.size + 1 + 1 + 1, 3, none⟩ = some (.int .u64 0) ∧ W'.cell? ⟨w.heap.size + 1 + 1 + 1, 4, none⟩ = some (.int .i64 0) ∧ W'.cell? ⟨w.heap.size + 1 + 1 + 1 + 1, 0, none⟩ = some (.int .i64 0) ∧ W'.cell? ⟨w.heap.size + 1 + 1 + 1 + 1, 1, none⟩ = some (.int .u64 0) ∧ W'.cell? ⟨w.heap.size + 1 + 1 + 1 + 1, 2, none⟩ = some (.int .i64 0)) (first | with_reducible exact KY | with_reducible exact K5 _ _ _ _ _ | with_reducible exact K8 _ _ _ _ _ _ _ _ | fail) (fail)
              go_wp2_with fail
              (try simp only [Exit.inBlock, Exit.then])
              refine bodyPost_ret (v := gZ (fd)) (by exact results_ctct Tryd.results44 _ _ (w.heap.size + 1) (w.heap.size + 1 + 1) 52 48 #[.int .i64 0, .int .i64 0, .int .u64 0, .int .u64 0, .int .i64 0] #[.int .i64 0, .int .u64 0, .int .i64 0] (0, 0) (0, 0) _ _ rfl (out8_gd A6 (by omega)) Tryd.underlying52 rfl Tryd.sizeR rfl (out8_hd A8 (by omega)) Tryd.underlying48 rfl Tryd.sizeS) rfl ?_
              exact ⟨by rw [HR.out, gZ_bad hf.out], (out8_below (hb.trans (BX.mono hb.size)) (by omega) (by omega)).drew⟩
          · have hbb : (z / 128 == 1) = false := by simp [hb1']
            have HR2 : Hid (R = (⟨S + x, kk, o1, a1, K⟩, p2, 0)) := hide (by rw [HR1.out, show z / 128 % 2 = 0 by omega, told_no])
            clear HR1 hb1' HRP HVP
            go_wp2_with fail
            go_meet
            exact ⟨K, p2, rfl, rfl, HR2.out⟩
        case rest =>
        obtain ⟨q1, p3, rfl, rfl, hR3⟩ := hcut
        have HR3 : Hid _ := hide hR3
        clear hR3
        obtain ⟨w3, hw3⟩ : ∃ w3, w3 = (w1.alloc (.cells #[.int .i64 (S + x), .int .i64 kk, .int .u64 o1, .int .u64 a1, .int .i64 q1] 52)) := ⟨_, rfl⟩
        have B3 : Below W.heap.size W w3 := by rw [hw3]; exact hb1.alloc hb1.size _
        have LR : w3.heap[w1.heap.size]? = some (.cells #[.int .i64 (S + x), .int .i64 kk, .int .u64 o1, .int .u64 a1, .int .i64 q1] 52 (0, 0)) := by rw [hw3]; exact heap_new _ _
        have Hw3 : Hid _ := hide hw3
        clear hw3
        obtain ⟨c0, c1, c2, c3, c4⟩ := r5_cells LR
        have hlr := lt_of_heap LR
        have HS3 : Hid _ := hide (fun W' (hB : Below w3.heap.size w3 W') => (And.intro ((hB.cell (p := ⟨w1.heap.size, 0, none⟩) hlr).trans c0) (And.intro ((hB.cell (p := ⟨w1.heap.size, 1, none⟩) hlr).trans c1) (And.intro ((hB.cell (p := ⟨w1.heap.size, 2, none⟩) hlr).trans c2) (And.intro ((hB.cell (p := ⟨w1.heap.size, 3, none⟩) hlr).trans c3) ((hB.cell (p := ⟨w1.heap.size, 4, none⟩) hlr).trans c4))))))
        have K3 := HS3.out w3.drew (Below.refl _ _).drew
        have HBh := rbh_any (S + x) kk o1 a1 q1 w3.drew (by omega) (by omega)
        clear LR
        go_wp2_with fail
        rw [← Hw3.out]
        have hne1 : ¬ w1.heap.size = w.heap.size + 1 := by have := hb1.size; omega
        have hne2 : ¬ w1.heap.size = w.heap.size + 1 + 1 := by have := hb1.size; omega
        go_region_held3 (fun W' => W'.cell? ⟨w1.heap.size, 0, none⟩ = some (.int .i64 (S + x)) ∧ W'.cell? ⟨w1.heap.size, 1, none⟩ = some (.int .i64 kk) ∧ W'.cell? ⟨w1.heap.size, 2, none⟩ = some (.int .u64 o1) ∧ W'.cell? ⟨w1.heap.size, 3, none⟩ = some (.int .u64 a1) ∧ W'.cell? ⟨w1.heap.size, 4, none⟩ = some (.int .i64 q1)) (first | with_reducible exact K4 | with_reducible exact keep5 hne1 K4 | with_reducible exact keep3 hne2 (keep5 hne1 K4) | with_reducible exact K3 | fail) (first
          | (go_at_call 61; refine HBh.mono ?_; rintro e w4 ⟨rfl, hb4'⟩; have hb4 : Below w3.heap.size w3 w4 := (Below.refl _ _).drew.trans hb4'; have B4 : Below W.heap.size W w4 := B3.trans (hb4.mono B3.size); have A6 : w4.heap[w.heap.size + 1]? = some (.cells #[.int .i64 0, .int .i64 0, .int .u64 0, .int .u64 0, .int .i64 0] 52 (0, 0)) := (B4.block (w.heap.size + 1) (by omega)).trans L6; have A8 : w4.heap[w.heap.size + 1 + 1]? = some (.cells #[.int .i64 0, .int .u64 0, .int .i64 0] 48 (0, 0)) := (B4.block (w.heap.size + 2) (by omega)).trans L8; obtain ⟨a0, a1', a2, a3, a4⟩ := r5_cells A6; obtain ⟨b0, b1, b2⟩ := z3_cells A8; have f0 := frz A6 0; have f1 := frz A6 1; have f2 := frz A6 2; have f3 := frz A6 3; have f4 := frz A6 4; have g0 := frz A8 0; have g1 := frz A8 1; have g2 := frz A8 2; have K4 := HS3.out w4 hb4))
        go_wp2_with fail
        (try simp only [Exit.inBlock, Exit.then])
        refine bodyPost_ret (v := gOk (S + x) kk o1 a1 q1 p3) (by exact results_ctct Tryd.results44 _ _ (w.heap.size + 1) (w.heap.size + 1 + 1) 52 48 #[.int .i64 (S + x), .int .i64 kk, .int .u64 o1, .int .u64 a1, .int .i64 q1] #[.int .i64 (S + x + 1), .int .u64 o1, .int .i64 q1] (0, 0) (0, 0) _ _ rfl (out8_g A6 (by omega)) Tryd.underlying52 rfl Tryd.sizeR rfl (out8_h A8 (by omega)) Tryd.underlying48 rfl Tryd.sizeS) rfl ?_
        exact ⟨by rw [HR3.out, gV_ok], out8_below (hb.trans (B4.mono hb.size)) (by omega) (by omega)⟩
    · have HR : Hid (R = bad f0) := hide (GN.out hk hf0)
      have hfb : (f0 != 0) = true := by simp [hf0]
      have hf : Hid _ := hide hf0
      clear GK GN GS GO hk hf0
      have BX : Below W.heap.size W (w1.alloc (.cells #[.int .i64 0, .int .i64 kk, .int .u64 O, .int .u64 0, .int .i64 K] 52)) := hb1.alloc hb1.size _
      have A6 : (w1.alloc (.cells #[.int .i64 0, .int .i64 kk, .int .u64 O, .int .u64 0, .int .i64 K] 52)).heap[w.heap.size + 1]? = some (.cells #[.int .i64 0, .int .i64 0, .int .u64 0, .int .u64 0, .int .i64 0] 52 (0, 0)) := (BX.block (w.heap.size + 1) (by omega)).trans L6
      have A8 : (w1.alloc (.cells #[.int .i64 0, .int .i64 kk, .int .u64 O, .int .u64 0, .int .i64 K] 52)).heap[w.heap.size + 1 + 1]? = some (.cells #[.int .i64 0, .int .u64 0, .int .i64 0] 48 (0, 0)) := (BX.block (w.heap.size + 2) (by omega)).trans L8
      obtain ⟨az0, az1, az2, az3, az4⟩ := r5_cells A6
      obtain ⟨bz0, bz1, bz2⟩ := z3_cells A8
      have fz0 := frz A6 0
      have fz1 := frz A6 1
      have fz2 := frz A6 2
      have fz3 := frz A6 3
      have fz4 := frz A6 4
      have gz0 := frz A8 0
      have gz1 := frz A8 1
      have gz2 := frz A8 2
      have KX := HZ8.out (w1.alloc (.cells #[.int .i64 0, .int .i64 kk, .int .u64 O, .int .u64 0, .int .i64 K] 52)) BX
      have KY := HZ8.out (w1.alloc (.cells #[.int .i64 0, .int .i64 kk, .int .u64 O, .int .u64 0, .int .i64 K] 52)).drew BX.drew
      have K5 := fun a b c d e => Z8.five (a := a) (b := b) (c := c) (d := d) (e := e) KX (g := w.heap.size + 1) (by omega) (by omega)
      have K8 := fun a b c d e x y z => Z8.eight (a := a) (b := b) (c := c) (d := d) (e := e) (x := x) (y := y) (z := z) KX (g := w.heap.size + 1) (h := w.heap.size + 1 + 1) (by omega) (by omega) (by omega) (by omega)
      unfold Z8 at KY K5 K8
      go_wp2_with fail
      go_region_held3 (fun W' => W'.cell? ⟨w.heap.size + 1 + 1 + 1, 0, none⟩ = some (.int .i64 0) ∧ W'.cell? ⟨w.heap.size + 1 + 1 + 1, 1, none⟩ = some (.int .i64 0) ∧ W'.cell? ⟨w.heap.size + 1 + 1 + 1, 2, none⟩ = some (.int .u64 0) ∧ W'.cell? ⟨w.heap.size + 1 + 1 + 1, 3, none⟩ = some (.int .u64 0) ∧ W'.cell? ⟨w.heap.size + 1 + 1 + 1, 4, none⟩ = some (.int .i64 0) ∧ W'.cell? ⟨w.heap.size + 1 + 1 + 1 + 1, 0, none⟩ = some (.int .i64 0) ∧ W'.cell? ⟨w.heap.size + 1 + 1 + 1 + 1, 1, none⟩ = some (.int .u64 0) ∧ W'.cell? ⟨w.heap.size + 1 + 1 + 1 + 1, 2, none⟩ = some (.int .i64 0)) (first | with_reducible exact KY | with_reducible exact K5 _ _ _ _ _ | with_reducible exact K8 _ _ _ _ _ _ _ _ | fail) (fail)
      go_wp2_with fail
      (try simp only [Exit.inBlock, Exit.then])
      refine bodyPost_ret (v := gZ (f0)) (by exact results_ctct Tryd.results44 _ _ (w.heap.size + 1) (w.heap.size + 1 + 1) 52 48 #[.int .i64 0, .int .i64 0, .int .u64 0, .int .u64 0, .int .i64 0] #[.int .i64 0, .int .u64 0, .int .i64 0] (0, 0) (0, 0) _ _ rfl (out8_gd A6 (by omega)) Tryd.underlying52 rfl Tryd.sizeR rfl (out8_hd A8 (by omega)) Tryd.underlying48 rfl Tryd.sizeS) rfl ?_
      exact ⟨by rw [HR.out, gZ_bad hf.out], (out8_below (hb.trans (BX.mono hb.size)) (by omega) (by omega)).drew⟩
  · have HR : Hid (R = bad 60) := hide (GK.out hk)
    clear GK GN GS GO
    by_cases hk0 : kk = 0
    · have hkb0 : (kk == 0) = true := by simp [hk0]
      clear hk hk0
      have BX : Below W.heap.size W (w1.alloc (.cells #[.int .i64 0, .int .i64 kk, .int .u64 O, .int .u64 0, .int .i64 K] 52)) := hb1.alloc hb1.size _
      have A6 : (w1.alloc (.cells #[.int .i64 0, .int .i64 kk, .int .u64 O, .int .u64 0, .int .i64 K] 52)).heap[w.heap.size + 1]? = some (.cells #[.int .i64 0, .int .i64 0, .int .u64 0, .int .u64 0, .int .i64 0] 52 (0, 0)) := (BX.block (w.heap.size + 1) (by omega)).trans L6
      have A8 : (w1.alloc (.cells #[.int .i64 0, .int .i64 kk, .int .u64 O, .int .u64 0, .int .i64 K] 52)).heap[w.heap.size + 1 + 1]? = some (.cells #[.int .i64 0, .int .u64 0, .int .i64 0] 48 (0, 0)) := (BX.block (w.heap.size + 2) (by omega)).trans L8
      obtain ⟨az0, az1, az2, az3, az4⟩ := r5_cells A6
      obtain ⟨bz0, bz1, bz2⟩ := z3_cells A8
      have fz0 := frz A6 0
      have fz1 := frz A6 1
      have fz2 := frz A6 2
      have fz3 := frz A6 3
      have fz4 := frz A6 4
      have gz0 := frz A8 0
      have gz1 := frz A8 1
      have gz2 := frz A8 2
      have KX := HZ8.out (w1.alloc (.cells #[.int .i64 0, .int .i64 kk, .int .u64 O, .int .u64 0, .int .i64 K] 52)) BX
      have KY := HZ8.out (w1.alloc (.cells #[.int .i64 0, .int .i64 kk, .int .u64 O, .int .u64 0, .int .i64 K] 52)).drew BX.drew
      have K5 := fun a b c d e => Z8.five (a := a) (b := b) (c := c) (d := d) (e := e) KX (g := w.heap.size + 1) (by omega) (by omega)
      have K8 := fun a b c d e x y z => Z8.eight (a := a) (b := b) (c := c) (d := d) (e := e) (x := x) (y := y) (z := z) KX (g := w.heap.size + 1) (h := w.heap.size + 1 + 1) (by omega) (by omega) (by omega) (by omega)
      unfold Z8 at KY K5 K8
      go_wp2_with fail
      go_region_held3 (fun W' => W'.cell? ⟨w.heap.size + 1 + 1 + 1, 0, none⟩ = some (.int .i64 0) ∧ W'.cell? ⟨w.heap.size + 1 + 1 + 1, 1, none⟩ = some (.int .i64 0) ∧ W'.cell? ⟨w.heap.size + 1 + 1 + 1, 2, none⟩ = some (.int .u64 0) ∧ W'.cell? ⟨w.heap.size + 1 + 1 + 1, 3, none⟩ = some (.int .u64 0) ∧ W'.cell? ⟨w.heap.size + 1 + 1 + 1, 4, none⟩ = some (.int .i64 0) ∧ W'.cell? ⟨w.heap.size + 1 + 1 + 1 + 1, 0, none⟩ = some (.int .i64 0) ∧ W'.cell? ⟨w.heap.size + 1 + 1 + 1 + 1, 1, none⟩ = some (.int .u64 0) ∧ W'.cell? ⟨w.heap.size + 1 + 1 + 1 + 1, 2, none⟩ = some (.int .i64 0)) (first | with_reducible exact KY | with_reducible exact K5 _ _ _ _ _ | with_reducible exact K8 _ _ _ _ _ _ _ _ | fail) (fail)
      go_wp2_with fail
      (try simp only [Exit.inBlock, Exit.then])
      refine bodyPost_ret (v := gZ (60)) (by exact results_ctct Tryd.results44 _ _ (w.heap.size + 1) (w.heap.size + 1 + 1) 52 48 #[.int .i64 0, .int .i64 0, .int .u64 0, .int .u64 0, .int .i64 0] #[.int .i64 0, .int .u64 0, .int .i64 0] (0, 0) (0, 0) _ _ rfl (out8_gd A6 (by omega)) Tryd.underlying52 rfl Tryd.sizeR rfl (out8_hd A8 (by omega)) Tryd.underlying48 rfl Tryd.sizeS) rfl ?_
      exact ⟨by rw [HR.out, gZ_bad (by decide)], (out8_below (hb.trans (BX.mono hb.size)) (by omega) (by omega)).drew⟩
    · have hkb0 : (kk == 0) = false := by simp [hk0]
      have hk22 : 22 < kk := by omega
      clear hk hk0
      have BX : Below W.heap.size W (w1.alloc (.cells #[.int .i64 0, .int .i64 kk, .int .u64 O, .int .u64 0, .int .i64 K] 52)) := hb1.alloc hb1.size _
      have A6 : (w1.alloc (.cells #[.int .i64 0, .int .i64 kk, .int .u64 O, .int .u64 0, .int .i64 K] 52)).heap[w.heap.size + 1]? = some (.cells #[.int .i64 0, .int .i64 0, .int .u64 0, .int .u64 0, .int .i64 0] 52 (0, 0)) := (BX.block (w.heap.size + 1) (by omega)).trans L6
      have A8 : (w1.alloc (.cells #[.int .i64 0, .int .i64 kk, .int .u64 O, .int .u64 0, .int .i64 K] 52)).heap[w.heap.size + 1 + 1]? = some (.cells #[.int .i64 0, .int .u64 0, .int .i64 0] 48 (0, 0)) := (BX.block (w.heap.size + 2) (by omega)).trans L8
      obtain ⟨az0, az1, az2, az3, az4⟩ := r5_cells A6
      obtain ⟨bz0, bz1, bz2⟩ := z3_cells A8
      have fz0 := frz A6 0
      have fz1 := frz A6 1
      have fz2 := frz A6 2
      have fz3 := frz A6 3
      have fz4 := frz A6 4
      have gz0 := frz A8 0
      have gz1 := frz A8 1
      have gz2 := frz A8 2
      have KX := HZ8.out (w1.alloc (.cells #[.int .i64 0, .int .i64 kk, .int .u64 O, .int .u64 0, .int .i64 K] 52)) BX
      have KY := HZ8.out (w1.alloc (.cells #[.int .i64 0, .int .i64 kk, .int .u64 O, .int .u64 0, .int .i64 K] 52)).drew BX.drew
      have K5 := fun a b c d e => Z8.five (a := a) (b := b) (c := c) (d := d) (e := e) KX (g := w.heap.size + 1) (by omega) (by omega)
      have K8 := fun a b c d e x y z => Z8.eight (a := a) (b := b) (c := c) (d := d) (e := e) (x := x) (y := y) (z := z) KX (g := w.heap.size + 1) (h := w.heap.size + 1 + 1) (by omega) (by omega) (by omega) (by omega)
      unfold Z8 at KY K5 K8
      go_wp2_with fail
      go_region_held3 (fun W' => W'.cell? ⟨w.heap.size + 1 + 1 + 1, 0, none⟩ = some (.int .i64 0) ∧ W'.cell? ⟨w.heap.size + 1 + 1 + 1, 1, none⟩ = some (.int .i64 0) ∧ W'.cell? ⟨w.heap.size + 1 + 1 + 1, 2, none⟩ = some (.int .u64 0) ∧ W'.cell? ⟨w.heap.size + 1 + 1 + 1, 3, none⟩ = some (.int .u64 0) ∧ W'.cell? ⟨w.heap.size + 1 + 1 + 1, 4, none⟩ = some (.int .i64 0) ∧ W'.cell? ⟨w.heap.size + 1 + 1 + 1 + 1, 0, none⟩ = some (.int .i64 0) ∧ W'.cell? ⟨w.heap.size + 1 + 1 + 1 + 1, 1, none⟩ = some (.int .u64 0) ∧ W'.cell? ⟨w.heap.size + 1 + 1 + 1 + 1, 2, none⟩ = some (.int .i64 0)) (first | with_reducible exact KY | with_reducible exact K5 _ _ _ _ _ | with_reducible exact K8 _ _ _ _ _ _ _ _ | fail) (fail)
      go_wp2_with fail
      (try simp only [Exit.inBlock, Exit.then])
      refine bodyPost_ret (v := gZ (60)) (by exact results_ctct Tryd.results44 _ _ (w.heap.size + 1) (w.heap.size + 1 + 1) 52 48 #[.int .i64 0, .int .i64 0, .int .u64 0, .int .u64 0, .int .i64 0] #[.int .i64 0, .int .u64 0, .int .i64 0] (0, 0) (0, 0) _ _ rfl (out8_gd A6 (by omega)) Tryd.underlying52 rfl Tryd.sizeR rfl (out8_hd A8 (by omega)) Tryd.underlying48 rfl Tryd.sizeS) rfl ?_
      exact ⟨by rw [HR.out, gZ_bad (by decide)], (out8_below (hb.trans (BX.mono hb.size)) (by omega) (by omega)).drew⟩
end Go.Proofs.YtamoioebgnmcaaaDoor
