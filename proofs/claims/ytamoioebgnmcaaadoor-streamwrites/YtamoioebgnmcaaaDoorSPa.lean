/-
  Put of a writer, refused.
-/
import Derived.Test.YtamoioebgnmcaaaDoorSWr
import Derived.BigRegion
namespace Go.Proofs.YtamoioebgnmcaaaDoor
open Go.RowKit
set_option maxHeartbeats 1600000 in
set_option maxRecDepth 8000 in
theorem wput_bad {w : World} {p : Nat} {lim held S O K least : Int} {v : Value} (t k o a q : Int) (hK : Kn w) (h : w.heap[p]? = some (.cells (wcs lim v held S O K least) 74 (0, 0))) (hE : putE ⟨0, 0, 0⟩ ⟨t, k, o, a, q⟩ ≠ 0) :
    Calls Tryd.prog 28 #[.pointer (some ⟨p, 0, none⟩), .agg #[.int .i64 t, .int .i64 k, .int .u64 o, .int .u64 a, .int .i64 q]] w fun e w' => e = .returned (.tuple #[.slice none 0 0, .int .i64 (putE ⟨0, 0, 0⟩ ⟨t, k, o, a, q⟩)]) ∧ Below w.heap.size w w' := by
  have hmf : ∀ (fn : Fn) (first cap : Array Value) (w : World), (Instr.makeFunc fn first cap).run Tryd.prog w = .ok (.func fn first cap) w := fun _ _ _ _ => rfl
  have hp := lt_of_heap h
  obtain ⟨W, hW⟩ : ∃ W, W = ((w.alloc (.cells #[.pointer (some ⟨p, 0, none⟩)] 42)).alloc (.cells #[.int .i64 t, .int .i64 k, .int .u64 o, .int .u64 a, .int .i64 q] 52)).alloc (.cells #[.int .i64 0] 25) := ⟨_, rfl⟩
  have hb : Below w.heap.size w W := by rw [hW]; exact (below_alloc2 _ _ _).alloc (by simp; omega) _
  have hsz : W.heap.size = w.heap.size + 3 := by rw [hW]; simp
  have LF : W.heap[w.heap.size + 1 + 1]? = some (.cells #[.int .i64 0] 25 (0, 0)) := by rw [hW]; exact heap_newS (by simp)
  have HP := put_bad 0 0 0 t k o a q W (hK.below hb (by omega)) (by omega) hE
  generalize putE ⟨0, 0, 0⟩ ⟨t, k, o, a, q⟩ = E at HP hE ⊢
  have HW : Hid _ := hide hW
  have HB : Hid _ := hide hb
  clear hW hb
  go_enter_defers Tryd.func28, Tryd.ntmps28
  go_wp2_with fail
  rw [← HW.out]
  refine HP.mono ?_
  rintro e w1 ⟨rfl, hb1⟩
  have hs1 := hb1.size
  have LF1 := (hb1.block (w.heap.size + 1 + 1) (by omega)).trans LF
  have f1 := frz LF1 0
  have c1 : w1.cell? ⟨w.heap.size + 1 + 1, 0, none⟩ = some (.int .i64 0) := by rw [cell_of_row w1 _ 0 _ _ (0, 0) LF1]; rfl
  have hlt : w.heap.size + 1 + 1 < w1.heap.size := by omega
  clear LF LF1
  go_wp2_with fail
  go_region
  go_wp2
  obtain ⟨Z, hZ⟩ : ∃ Z, Z = (((w1.setCell ⟨w.heap.size + 1 + 1, 0, none⟩ (.int .i64 E)).setCell ⟨w.heap.size + 1 + 1, 0, none⟩ (.int .i64 E)).alloc (.cells #[.int .i64 0, .int .u64 0, .int .i64 0] 48)).drew := ⟨_, rfl⟩
  have hcZ : Z.cell? ⟨w.heap.size + 1 + 1, 0, none⟩ = some (.int .i64 E) := by rw [hZ]; go_simp
  have hBZ : Below w.heap.size w Z := by
    rw [hZ]
    have h1 : Below w.heap.size w w1 := HB.out.trans (hb1.mono (by omega))
    exact (((h1.setCell (p := ⟨w.heap.size + 1 + 1, 0, none⟩) (by dsimp only; omega) _).setCell (p := ⟨w.heap.size + 1 + 1, 0, none⟩) (by dsimp only; omega) _).alloc (by simp; omega) _).drew
  rw [← hZ]
  refine leaves_cons (f := 50) (args := #[.pointer (some ⟨w.heap.size + 1 + 1, 0, none⟩), .pointer (some ⟨w.heap.size, 0, none⟩), .pointer (some ⟨w.heap.size + 1, 0, none⟩)]) (by simp) (by simp [go_sem]) ?_
  refine (put1_idle _ E _ _ _ Z hcZ hE).mono ?_
  rintro e u' w'' ⟨rfl, rfl, rfl⟩
  simp [Leaves, settle, results, Tryd.results28, go_sem, hcZ]
  exact hBZ
end Go.Proofs.YtamoioebgnmcaaaDoor
