/-
  The document's Get.
-/
import Derived.Test.YtamoioebgnmcaaaDoorGetC
import Derived.BigRegion
namespace Go.Proofs.YtamoioebgnmcaaaDoor
open Go.RowKit
section
variable {w : World} {g h k m : Nat} {a b c d e x y z u0 u1 u2 u3 u4 v0 v1 v2 : Value}
/-- The two lists of zeros lie in a world. -/
def Z8 (w : World) (k m : Nat) (u0 u1 u2 u3 u4 v0 v1 v2 : Value) : Prop := w.cell? ⟨k, 0, none⟩ = some u0 ∧ w.cell? ⟨k, 1, none⟩ = some u1 ∧ w.cell? ⟨k, 2, none⟩ = some u2 ∧ w.cell? ⟨k, 3, none⟩ = some u3 ∧ w.cell? ⟨k, 4, none⟩ = some u4 ∧ w.cell? ⟨m, 0, none⟩ = some v0 ∧ w.cell? ⟨m, 1, none⟩ = some v1 ∧ w.cell? ⟨m, 2, none⟩ = some v2
theorem Z8.of {w w' : World} (hz : Z8 w k m u0 u1 u2 u3 u4 v0 v1 v2) (h1 : w'.heap[k]? = w.heap[k]?) (h2 : w'.heap[m]? = w.heap[m]?) : Z8 w' k m u0 u1 u2 u3 u4 v0 v1 v2 :=
  ⟨(cell_eq h1 0).trans hz.1, (cell_eq h1 1).trans hz.2.1, (cell_eq h1 2).trans hz.2.2.1, (cell_eq h1 3).trans hz.2.2.2.1, (cell_eq h1 4).trans hz.2.2.2.2.1, (cell_eq h2 0).trans hz.2.2.2.2.2.1, (cell_eq h2 1).trans hz.2.2.2.2.2.2.1, (cell_eq h2 2).trans hz.2.2.2.2.2.2.2⟩
theorem set8_far (h1 : k ≠ g) (h3 : k ≠ h) : ((((((((w.setCell ⟨g, 0, none⟩ a).setCell ⟨g, 1, none⟩ b).setCell ⟨g, 2, none⟩ c).setCell ⟨g, 3, none⟩ d).setCell ⟨g, 4, none⟩ e).setCell ⟨h, 0, none⟩ x).setCell ⟨h, 1, none⟩ y).setCell ⟨h, 2, none⟩ z).heap[k]? = w.heap[k]? := by
  rw [set_far _ h3, set_far _ h3, set_far _ h3, set5_far h1]
theorem drew_heap (w : World) (k : Nat) : w.drew.heap[k]? = w.heap[k]? := rfl
theorem out8_gd {T : TypeId} {a' b' c' d' e' : Value} (hg : w.heap[g]? = some (.cells #[a', b', c', d', e'] T (0, 0))) (hne : g ≠ h) :
    ((((((((w.setCell ⟨g, 0, none⟩ a).setCell ⟨g, 1, none⟩ b).setCell ⟨g, 2, none⟩ c).setCell ⟨g, 3, none⟩ d).setCell ⟨g, 4, none⟩ e).setCell ⟨h, 0, none⟩ x).setCell ⟨h, 1, none⟩ y).setCell ⟨h, 2, none⟩ z).drew.heap[g]? = some (.cells #[a, b, c, d, e] T (0, 0)) := (drew_heap _ g).trans (out8_g hg hne)
theorem out8_hd {T' : TypeId} {x' y' z' : Value} (hh : w.heap[h]? = some (.cells #[x', y', z'] T' (0, 0))) (hne : h ≠ g) :
    ((((((((w.setCell ⟨g, 0, none⟩ a).setCell ⟨g, 1, none⟩ b).setCell ⟨g, 2, none⟩ c).setCell ⟨g, 3, none⟩ d).setCell ⟨g, 4, none⟩ e).setCell ⟨h, 0, none⟩ x).setCell ⟨h, 1, none⟩ y).setCell ⟨h, 2, none⟩ z).drew.heap[h]? = some (.cells #[x, y, z] T' (0, 0)) := (drew_heap _ h).trans (out8_h hh hne)
theorem Z8.drew (hz : Z8 w k m u0 u1 u2 u3 u4 v0 v1 v2) : Z8 w.drew k m u0 u1 u2 u3 u4 v0 v1 v2 := hz
theorem Z8.five (hz : Z8 w k m u0 u1 u2 u3 u4 v0 v1 v2) (h1 : k ≠ g) (h2 : m ≠ g) : Z8 (((((w.setCell ⟨g, 0, none⟩ a).setCell ⟨g, 1, none⟩ b).setCell ⟨g, 2, none⟩ c).setCell ⟨g, 3, none⟩ d).setCell ⟨g, 4, none⟩ e).drew k m u0 u1 u2 u3 u4 v0 v1 v2 :=
  Z8.drew (hz.of (w' := ((((w.setCell ⟨g, 0, none⟩ a).setCell ⟨g, 1, none⟩ b).setCell ⟨g, 2, none⟩ c).setCell ⟨g, 3, none⟩ d).setCell ⟨g, 4, none⟩ e) (set5_far h1) (set5_far h2))
theorem Z8.eight (hz : Z8 w k m u0 u1 u2 u3 u4 v0 v1 v2) (h1 : k ≠ g) (h2 : m ≠ g) (h3 : k ≠ h) (h4 : m ≠ h) : Z8 ((((((((w.setCell ⟨g, 0, none⟩ a).setCell ⟨g, 1, none⟩ b).setCell ⟨g, 2, none⟩ c).setCell ⟨g, 3, none⟩ d).setCell ⟨g, 4, none⟩ e).setCell ⟨h, 0, none⟩ x).setCell ⟨h, 1, none⟩ y).setCell ⟨h, 2, none⟩ z).drew k m u0 u1 u2 u3 u4 v0 v1 v2 :=
  Z8.drew (hz.of (w' := (((((((w.setCell ⟨g, 0, none⟩ a).setCell ⟨g, 1, none⟩ b).setCell ⟨g, 2, none⟩ c).setCell ⟨g, 3, none⟩ d).setCell ⟨g, 4, none⟩ e).setCell ⟨h, 0, none⟩ x).setCell ⟨h, 1, none⟩ y).setCell ⟨h, 2, none⟩ z) (set8_far h1 h3) (set8_far h2 h4))
end
set_option maxHeartbeats 4000000 in
set_option maxRecDepth 20000 in
theorem rget_early (S O K t : Int) (ad : Option Addr) (n c : Nat) (zs : List Int) (w : World) (hr : Row w ad n zs) (hE : mayS S K = false ∨ t < 0 ∨ (n : Int) ≤ t) :
    Calls Tryd.prog 44 #[.agg #[.int .i64 S, .int .u64 O, .int .i64 K], .slice ad n c, .int .i64 t] w fun e w' => e = .returned (gV (getG ⟨S, O, K⟩ zs t)) ∧ Below w.heap.size w w' := by
  obtain ⟨W, hW⟩ : ∃ W, W = ((((w.alloc (.cells #[.int .i64 S, .int .u64 O, .int .i64 K] 48)).alloc (.cells #[.int .i64 0, .int .i64 0, .int .u64 0, .int .u64 0, .int .i64 0] 52)).alloc (.cells #[.int .i64 0, .int .u64 0, .int .i64 0] 48)).alloc (.cells #[.int .i64 0, .int .i64 0, .int .u64 0, .int .u64 0, .int .i64 0] 52)).alloc (.cells #[.int .i64 0, .int .u64 0, .int .i64 0] 48) := ⟨_, rfl⟩
  have hb : Below w.heap.size w W := by rw [hW]; exact (((below_alloc2 _ _ _).alloc (by simp; omega) _).alloc (by simp; omega) _).alloc (by simp; omega) _
  have hsz : W.heap.size = w.heap.size + 5 := by rw [hW]; simp
  have s0 : W.cell? ⟨w.heap.size, 0, none⟩ = some (.int .i64 S) := by rw [hW]; go_simp
  have s1 : W.cell? ⟨w.heap.size, 1, none⟩ = some (.int .u64 O) := by rw [hW]; go_simp
  have s2 : W.cell? ⟨w.heap.size, 2, none⟩ = some (.int .i64 K) := by rw [hW]; go_simp
  have L6 : W.heap[w.heap.size + 1]? = some (.cells #[.int .i64 0, .int .i64 0, .int .u64 0, .int .u64 0, .int .i64 0] 52 (0, 0)) := by
    rw [hW, Below.heap_alloc _ _ _ (by simp <;> omega), Below.heap_alloc _ _ _ (by simp <;> omega), Below.heap_alloc _ _ _ (by simp), show w.heap.size + 1 = (w.alloc (.cells #[.int .i64 S, .int .u64 O, .int .i64 K] 48)).heap.size from by simp]
    exact heap_new _ _
  have L8 : W.heap[w.heap.size + 2]? = some (.cells #[.int .i64 0, .int .u64 0, .int .i64 0] 48 (0, 0)) := by
    rw [hW, Below.heap_alloc _ _ _ (by simp <;> omega), Below.heap_alloc _ _ _ (by simp), show w.heap.size + 2 = ((w.alloc (.cells #[.int .i64 S, .int .u64 O, .int .i64 K] 48)).alloc (.cells #[.int .i64 0, .int .i64 0, .int .u64 0, .int .u64 0, .int .i64 0] 52)).heap.size from by simp]
    exact heap_new _ _
  have L10 : W.heap[w.heap.size + 3]? = some (.cells #[.int .i64 0, .int .i64 0, .int .u64 0, .int .u64 0, .int .i64 0] 52 (0, 0)) := by
    rw [hW, Below.heap_alloc _ _ _ (by simp), show w.heap.size + 3 = (((w.alloc (.cells #[.int .i64 S, .int .u64 O, .int .i64 K] 48)).alloc (.cells #[.int .i64 0, .int .i64 0, .int .u64 0, .int .u64 0, .int .i64 0] 52)).alloc (.cells #[.int .i64 0, .int .u64 0, .int .i64 0] 48)).heap.size from by simp]
    exact heap_new _ _
  have L11 : W.heap[w.heap.size + 4]? = some (.cells #[.int .i64 0, .int .u64 0, .int .i64 0] 48 (0, 0)) := by
    rw [hW, show w.heap.size + 4 = ((((w.alloc (.cells #[.int .i64 S, .int .u64 O, .int .i64 K] 48)).alloc (.cells #[.int .i64 0, .int .i64 0, .int .u64 0, .int .u64 0, .int .i64 0] 52)).alloc (.cells #[.int .i64 0, .int .u64 0, .int .i64 0] 48)).alloc (.cells #[.int .i64 0, .int .i64 0, .int .u64 0, .int .u64 0, .int .i64 0] 52)).heap.size from by simp]
    exact heap_new _ _
  have HZ8 : Hid _ := hide (fun X (hB : Below W.heap.size W X) => (show Z8 X (w.heap.size + 1 + 1 + 1) (w.heap.size + 1 + 1 + 1 + 1) (.int .i64 0) (.int .i64 0) (.int .u64 0) (.int .u64 0) (.int .i64 0) (.int .i64 0) (.int .u64 0) (.int .i64 0) from by
    obtain ⟨a0, a1, a2, a3, a4⟩ := r5_cells ((hB.block (w.heap.size + 3) (by omega)).trans L10)
    obtain ⟨b0, b1, b2⟩ := z3_cells ((hB.block (w.heap.size + 4) (by omega)).trans L11)
    exact ⟨a0, a1, a2, a3, a4, b0, b1, b2⟩))
  have HS := rst_any S O K W
  have hl := hr.len
  cases hm : mayS S K
  · have HR : Hid (getG ⟨S, O, K⟩ zs t = bad 71) := hide (getG_state hm)
    rw [hm] at HS
    clear hm hE
    go_enter Tryd.func44, Tryd.ntmps44
    go_wp2_with fail
    rw [← hW]
    clear hW
    refine HS.mono ?_
    rintro e w1 ⟨rfl, hb1⟩
    have BX : Below W.heap.size W w1 := hb1
    have A6 : w1.heap[w.heap.size + 1]? = some (.cells #[.int .i64 0, .int .i64 0, .int .u64 0, .int .u64 0, .int .i64 0] 52 (0, 0)) := (BX.block (w.heap.size + 1) (by omega)).trans L6
    have A8 : w1.heap[w.heap.size + 1 + 1]? = some (.cells #[.int .i64 0, .int .u64 0, .int .i64 0] 48 (0, 0)) := (BX.block (w.heap.size + 2) (by omega)).trans L8
    obtain ⟨az0, az1, az2, az3, az4⟩ := r5_cells A6
    obtain ⟨bz0, bz1, bz2⟩ := z3_cells A8
    have fz0 := frz A6 0
    have fz1 := frz A6 1
    have fz2 := frz A6 2
    have fz3 := frz A6 3
    have fz4 := frz A6 4
    have gz0 := frz A8 0
    have gz1 := frz A8 1
    have gz2 := frz A8 2
    have KX := HZ8.out w1 BX
    have KY := HZ8.out w1.drew BX.drew
    have K5 := fun a b c d e => Z8.five (a := a) (b := b) (c := c) (d := d) (e := e) KX (g := w.heap.size + 1) (by omega) (by omega)
    have K8 := fun a b c d e x y z => Z8.eight (a := a) (b := b) (c := c) (d := d) (e := e) (x := x) (y := y) (z := z) KX (g := w.heap.size + 1) (h := w.heap.size + 1 + 1) (by omega) (by omega) (by omega) (by omega)
    unfold Z8 at KY K5 K8
    go_wp2_with fail
    go_region_held3 (fun W' => W'.cell? ⟨w.heap.size + 1 + 1 + 1, 0, none⟩ = some (.int .i64 0) ∧ W'.cell? ⟨w.heap.size + 1 + 1 + 1, 1, none⟩ = some (.int .i64 0) ∧ W'.cell? ⟨w.heap.size + 1 + 1 + 1, 2, none⟩ = some (.int .u64 0) ∧ W'.cell? ⟨w.heap.size + 1 + 1 + 1, 3, none⟩ = some (.int .u64 0) ∧ W'.cell? ⟨w.heap.size + 1 + 1 + 1, 4, none⟩ = some (.int .i64 0) ∧ W'.cell? ⟨w.heap.size + 1 + 1 + 1 + 1, 0, none⟩ = some (.int .i64 0) ∧ W'.cell? ⟨w.heap.size + 1 + 1 + 1 + 1, 1, none⟩ = some (.int .u64 0) ∧ W'.cell? ⟨w.heap.size + 1 + 1 + 1 + 1, 2, none⟩ = some (.int .i64 0)) (first | with_reducible exact KY | with_reducible exact K5 _ _ _ _ _ | with_reducible exact K8 _ _ _ _ _ _ _ _ | fail) (fail)
    go_wp2_with fail
    (try simp only [Exit.inBlock, Exit.then])
    refine bodyPost_ret (v := gZ (71)) (by exact results_ctct Tryd.results44 _ _ (w.heap.size + 1) (w.heap.size + 1 + 1) 52 48 #[.int .i64 0, .int .i64 0, .int .u64 0, .int .u64 0, .int .i64 0] #[.int .i64 0, .int .u64 0, .int .i64 0] (0, 0) (0, 0) _ _ rfl (out8_gd A6 (by omega)) Tryd.underlying52 rfl Tryd.sizeR rfl (out8_hd A8 (by omega)) Tryd.underlying48 rfl Tryd.sizeS) rfl ?_
    exact ⟨by rw [HR.out, gZ_bad (by decide)], (out8_below (hb.trans (BX.mono hb.size)) (by omega) (by omega)).drew⟩
  · rw [hm] at HS
    by_cases ht : t < 0 ∨ (n : Int) < t
    · have HR : Hid (getG ⟨S, O, K⟩ zs t = bad 2) := hide (getG_place hm (by rw [hl]; exact ht))
      clear hm hE
      by_cases ht0 : t < 0
      · clear ht
        go_enter Tryd.func44, Tryd.ntmps44
        go_wp2_with fail
        rw [← hW]
        clear hW
        refine HS.mono ?_
        rintro e w1 ⟨rfl, hb1⟩
        have BX : Below W.heap.size W w1 := hb1
        have A6 : w1.heap[w.heap.size + 1]? = some (.cells #[.int .i64 0, .int .i64 0, .int .u64 0, .int .u64 0, .int .i64 0] 52 (0, 0)) := (BX.block (w.heap.size + 1) (by omega)).trans L6
        have A8 : w1.heap[w.heap.size + 1 + 1]? = some (.cells #[.int .i64 0, .int .u64 0, .int .i64 0] 48 (0, 0)) := (BX.block (w.heap.size + 2) (by omega)).trans L8
        obtain ⟨az0, az1, az2, az3, az4⟩ := r5_cells A6
        obtain ⟨bz0, bz1, bz2⟩ := z3_cells A8
        have fz0 := frz A6 0
        have fz1 := frz A6 1
        have fz2 := frz A6 2
        have fz3 := frz A6 3
        have fz4 := frz A6 4
        have gz0 := frz A8 0
        have gz1 := frz A8 1
        have gz2 := frz A8 2
        have KX := HZ8.out w1 BX
        have KY := HZ8.out w1.drew BX.drew
        have K5 := fun a b c d e => Z8.five (a := a) (b := b) (c := c) (d := d) (e := e) KX (g := w.heap.size + 1) (by omega) (by omega)
        have K8 := fun a b c d e x y z => Z8.eight (a := a) (b := b) (c := c) (d := d) (e := e) (x := x) (y := y) (z := z) KX (g := w.heap.size + 1) (h := w.heap.size + 1 + 1) (by omega) (by omega) (by omega) (by omega)
        unfold Z8 at KY K5 K8
        go_wp2_with fail
        go_region_held3 (fun W' => W'.cell? ⟨w.heap.size + 1 + 1 + 1, 0, none⟩ = some (.int .i64 0) ∧ W'.cell? ⟨w.heap.size + 1 + 1 + 1, 1, none⟩ = some (.int .i64 0) ∧ W'.cell? ⟨w.heap.size + 1 + 1 + 1, 2, none⟩ = some (.int .u64 0) ∧ W'.cell? ⟨w.heap.size + 1 + 1 + 1, 3, none⟩ = some (.int .u64 0) ∧ W'.cell? ⟨w.heap.size + 1 + 1 + 1, 4, none⟩ = some (.int .i64 0) ∧ W'.cell? ⟨w.heap.size + 1 + 1 + 1 + 1, 0, none⟩ = some (.int .i64 0) ∧ W'.cell? ⟨w.heap.size + 1 + 1 + 1 + 1, 1, none⟩ = some (.int .u64 0) ∧ W'.cell? ⟨w.heap.size + 1 + 1 + 1 + 1, 2, none⟩ = some (.int .i64 0)) (first | with_reducible exact KY | with_reducible exact K5 _ _ _ _ _ | with_reducible exact K8 _ _ _ _ _ _ _ _ | fail) (fail)
        go_wp2_with fail
        (try simp only [Exit.inBlock, Exit.then])
        refine bodyPost_ret (v := gZ (2)) (by exact results_ctct Tryd.results44 _ _ (w.heap.size + 1) (w.heap.size + 1 + 1) 52 48 #[.int .i64 0, .int .i64 0, .int .u64 0, .int .u64 0, .int .i64 0] #[.int .i64 0, .int .u64 0, .int .i64 0] (0, 0) (0, 0) _ _ rfl (out8_gd A6 (by omega)) Tryd.underlying52 rfl Tryd.sizeR rfl (out8_hd A8 (by omega)) Tryd.underlying48 rfl Tryd.sizeS) rfl ?_
        exact ⟨by rw [HR.out, gZ_bad (by decide)], (out8_below (hb.trans (BX.mono hb.size)) (by omega) (by omega)).drew⟩
      · have ht1 : (n : Int) < t := by omega
        clear ht
        go_enter Tryd.func44, Tryd.ntmps44
        go_wp2_with fail
        rw [← hW]
        clear hW
        refine HS.mono ?_
        rintro e w1 ⟨rfl, hb1⟩
        have BX : Below W.heap.size W w1 := hb1
        have A6 : w1.heap[w.heap.size + 1]? = some (.cells #[.int .i64 0, .int .i64 0, .int .u64 0, .int .u64 0, .int .i64 0] 52 (0, 0)) := (BX.block (w.heap.size + 1) (by omega)).trans L6
        have A8 : w1.heap[w.heap.size + 1 + 1]? = some (.cells #[.int .i64 0, .int .u64 0, .int .i64 0] 48 (0, 0)) := (BX.block (w.heap.size + 2) (by omega)).trans L8
        obtain ⟨az0, az1, az2, az3, az4⟩ := r5_cells A6
        obtain ⟨bz0, bz1, bz2⟩ := z3_cells A8
        have fz0 := frz A6 0
        have fz1 := frz A6 1
        have fz2 := frz A6 2
        have fz3 := frz A6 3
        have fz4 := frz A6 4
        have gz0 := frz A8 0
        have gz1 := frz A8 1
        have gz2 := frz A8 2
        have KX := HZ8.out w1 BX
        have KY := HZ8.out w1.drew BX.drew
        have K5 := fun a b c d e => Z8.five (a := a) (b := b) (c := c) (d := d) (e := e) KX (g := w.heap.size + 1) (by omega) (by omega)
        have K8 := fun a b c d e x y z => Z8.eight (a := a) (b := b) (c := c) (d := d) (e := e) (x := x) (y := y) (z := z) KX (g := w.heap.size + 1) (h := w.heap.size + 1 + 1) (by omega) (by omega) (by omega) (by omega)
        unfold Z8 at KY K5 K8
        go_wp2_with fail
        go_region_held3 (fun W' => W'.cell? ⟨w.heap.size + 1 + 1 + 1, 0, none⟩ = some (.int .i64 0) ∧ W'.cell? ⟨w.heap.size + 1 + 1 + 1, 1, none⟩ = some (.int .i64 0) ∧ W'.cell? ⟨w.heap.size + 1 + 1 + 1, 2, none⟩ = some (.int .u64 0) ∧ W'.cell? ⟨w.heap.size + 1 + 1 + 1, 3, none⟩ = some (.int .u64 0) ∧ W'.cell? ⟨w.heap.size + 1 + 1 + 1, 4, none⟩ = some (.int .i64 0) ∧ W'.cell? ⟨w.heap.size + 1 + 1 + 1 + 1, 0, none⟩ = some (.int .i64 0) ∧ W'.cell? ⟨w.heap.size + 1 + 1 + 1 + 1, 1, none⟩ = some (.int .u64 0) ∧ W'.cell? ⟨w.heap.size + 1 + 1 + 1 + 1, 2, none⟩ = some (.int .i64 0)) (first | with_reducible exact KY | with_reducible exact K5 _ _ _ _ _ | with_reducible exact K8 _ _ _ _ _ _ _ _ | fail) (fail)
        go_wp2_with fail
        (try simp only [Exit.inBlock, Exit.then])
        refine bodyPost_ret (v := gZ (2)) (by exact results_ctct Tryd.results44 _ _ (w.heap.size + 1) (w.heap.size + 1 + 1) 52 48 #[.int .i64 0, .int .i64 0, .int .u64 0, .int .u64 0, .int .i64 0] #[.int .i64 0, .int .u64 0, .int .i64 0] (0, 0) (0, 0) _ _ rfl (out8_gd A6 (by omega)) Tryd.underlying52 rfl Tryd.sizeR rfl (out8_hd A8 (by omega)) Tryd.underlying48 rfl Tryd.sizeS) rfl ?_
        exact ⟨by rw [HR.out, gZ_bad (by decide)], (out8_below (hb.trans (BX.mono hb.size)) (by omega) (by omega)).drew⟩
    · obtain ⟨tn, rfl⟩ : ∃ tn : Nat, t = tn := ⟨t.toNat, by omega⟩
      have htn : tn ≤ n := by omega
      have HG := getG_read (s := ⟨S, O, K⟩) (zs := zs) (t := tn) hm (by rw [hl]; exact htn)
      rw [HG]
      have ht0 : ¬ (tn : Int) < 0 := by omega
      have ht1 : ¬ (n : Int) < (tn : Int) := by omega
      have HMM : Hid (mayS S K = true) := hide hm
      clear ht HG hm
      have hte : tn = n := by
        rcases hE with h | h | h
        · rw [h] at HMM; exact absurd HMM.out (by simp)
        · omega
        · omega
      have HR : Hid (readG ⟨S, O, K⟩ zs tn = bad 10) := hide (readG_end (by rw [hl]; exact hte))
      have hteb : ((tn : Int) == (n : Int)) = true := by simp [hte]
      clear hte hE
      go_enter Tryd.func44, Tryd.ntmps44
      go_wp2_with fail
      rw [← hW]
      clear hW
      refine HS.mono ?_
      rintro e w1 ⟨rfl, hb1⟩
      have BX : Below W.heap.size W w1 := hb1
      have A6 : w1.heap[w.heap.size + 1]? = some (.cells #[.int .i64 0, .int .i64 0, .int .u64 0, .int .u64 0, .int .i64 0] 52 (0, 0)) := (BX.block (w.heap.size + 1) (by omega)).trans L6
      have A8 : w1.heap[w.heap.size + 1 + 1]? = some (.cells #[.int .i64 0, .int .u64 0, .int .i64 0] 48 (0, 0)) := (BX.block (w.heap.size + 2) (by omega)).trans L8
      obtain ⟨az0, az1, az2, az3, az4⟩ := r5_cells A6
      obtain ⟨bz0, bz1, bz2⟩ := z3_cells A8
      have fz0 := frz A6 0
      have fz1 := frz A6 1
      have fz2 := frz A6 2
      have fz3 := frz A6 3
      have fz4 := frz A6 4
      have gz0 := frz A8 0
      have gz1 := frz A8 1
      have gz2 := frz A8 2
      have KX := HZ8.out w1 BX
      have KY := HZ8.out w1.drew BX.drew
      have K5 := fun a b c d e => Z8.five (a := a) (b := b) (c := c) (d := d) (e := e) KX (g := w.heap.size + 1) (by omega) (by omega)
      have K8 := fun a b c d e x y z => Z8.eight (a := a) (b := b) (c := c) (d := d) (e := e) (x := x) (y := y) (z := z) KX (g := w.heap.size + 1) (h := w.heap.size + 1 + 1) (by omega) (by omega) (by omega) (by omega)
      unfold Z8 at KY K5 K8
      go_wp2_with fail
      go_region_held3 (fun W' => W'.cell? ⟨w.heap.size + 1 + 1 + 1, 0, none⟩ = some (.int .i64 0) ∧ W'.cell? ⟨w.heap.size + 1 + 1 + 1, 1, none⟩ = some (.int .i64 0) ∧ W'.cell? ⟨w.heap.size + 1 + 1 + 1, 2, none⟩ = some (.int .u64 0) ∧ W'.cell? ⟨w.heap.size + 1 + 1 + 1, 3, none⟩ = some (.int .u64 0) ∧ W'.cell? ⟨w.heap.size + 1 + 1 + 1, 4, none⟩ = some (.int .i64 0) ∧ W'.cell? ⟨w.heap.size + 1 + 1 + 1 + 1, 0, none⟩ = some (.int .i64 0) ∧ W'.cell? ⟨w.heap.size + 1 + 1 + 1 + 1, 1, none⟩ = some (.int .u64 0) ∧ W'.cell? ⟨w.heap.size + 1 + 1 + 1 + 1, 2, none⟩ = some (.int .i64 0)) (first | with_reducible exact KY | with_reducible exact K5 _ _ _ _ _ | with_reducible exact K8 _ _ _ _ _ _ _ _ | fail) (fail)
      go_wp2_with fail
      (try simp only [Exit.inBlock, Exit.then])
      refine bodyPost_ret (v := gZ (10)) (by exact results_ctct Tryd.results44 _ _ (w.heap.size + 1) (w.heap.size + 1 + 1) 52 48 #[.int .i64 0, .int .i64 0, .int .u64 0, .int .u64 0, .int .i64 0] #[.int .i64 0, .int .u64 0, .int .i64 0] (0, 0) (0, 0) _ _ rfl (out8_gd A6 (by omega)) Tryd.underlying52 rfl Tryd.sizeR rfl (out8_hd A8 (by omega)) Tryd.underlying48 rfl Tryd.sizeS) rfl ?_
      exact ⟨by rw [HR.out, gZ_bad (by decide)], (out8_below (hb.trans (BX.mono hb.size)) (by omega) (by omega)).drew⟩
end Go.Proofs.YtamoioebgnmcaaaDoor
