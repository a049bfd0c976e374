/-
  The document's small calls: limits, fault.
-/
import Derived.Test.YtamoioebgnmcaaaDoorSLaw
import Derived.Test.YtamoioebgnmcaaaDoorDelD
namespace Go.Proofs.YtamoioebgnmcaaaDoor
open Go.RowKit
theorem rlimits_any (l : Int) (w : World) : Calls Tryd.prog 36 #[.int .i64 l] w fun e w' => e = .returned (.bool (decide (64 ≤ l ∧ l ≤ 1048576))) ∧ w' = w := by
  by_cases h1 : 64 ≤ l
  · by_cases h2 : l ≤ 1048576
    · rw [decide_eq_true ⟨h1, h2⟩]
      go_enter Tryd.func36, Tryd.ntmps36
      go_wp2
      go_ret
      exact ⟨rfl, rfl⟩
    · rw [decide_eq_false (fun h => h2 h.2)]
      go_enter Tryd.func36, Tryd.ntmps36
      go_wp2
      go_ret
      exact ⟨rfl, rfl⟩
  · rw [decide_eq_false (fun h => h1 h.1)]
    go_enter Tryd.func36, Tryd.ntmps36
    go_wp2
    go_ret
    exact ⟨rfl, rfl⟩
/-- The fault of a record behind one with the stamp m. -/
def flt (m : Int) (r : Rc) : Int := if putE St.zero r ≠ 0 then putE St.zero r else if r.stamp ≤ m then 80 else 0
set_option maxHeartbeats 1600000 in
set_option maxRecDepth 8000 in
theorem rfault_any (m t k o a q : Int) (w : World) (hr : (⟨t, k, o, a, q⟩ : Rc).ok) : Calls Tryd.prog 37 #[.int .i64 m, .agg #[.int .i64 t, .int .i64 k, .int .u64 o, .int .u64 a, .int .i64 q]] w fun e w' => e = .returned (.int .i64 (flt m ⟨t, k, o, a, q⟩)) ∧ Below w.heap.size w w' := by
  obtain ⟨W, hW⟩ : ∃ W, W = w.alloc (.cells #[.int .i64 t, .int .i64 k, .int .u64 o, .int .u64 a, .int .i64 q] 52) := ⟨_, rfl⟩
  have hb : Below w.heap.size w W := by rw [hW]; exact below_alloc1 _ _
  have LR : W.heap[w.heap.size]? = some (.cells #[.int .i64 t, .int .i64 k, .int .u64 o, .int .u64 a, .int .i64 q] 52 (0, 0)) := by rw [hW]; exact heap_new _ _
  have HW : Hid _ := hide hW
  have HB : Hid _ := hide hb
  have hlt := lt_of_heap LR
  by_cases hE : putE St.zero ⟨t, k, o, a, q⟩ = 0
  · have HP := rput_ok 0 0 0 t k o a q W hE hr.a0 hr.a1
    have hf : flt m ⟨t, k, o, a, q⟩ = if t ≤ m then 80 else 0 := by unfold flt; rw [if_neg (by omega)]
    have HF : Hid _ := hide hf
    clear hE hf hW hb
    go_enter Tryd.func37, Tryd.ntmps37
    go_wp2_with fail
    rw [← HW.out]
    refine HP.mono ?_
    rintro e w2 ⟨v, n2, rfl, -, -, hb2⟩
    have hs2 := hb2.size
    have hbw : Below w.heap.size w (w2.alloc (.cells #[.int .i64 (t + 1), .int .u64 o, .int .i64 q] 48)) := (HB.out.trans (hb2.mono (by omega))).alloc (by omega) _
    have L2 := (hb2.block _ hlt).trans LR
    obtain ⟨x0, x1, x2, x3, x4⟩ := r5_cells L2
    have hlt2 := lt_of_heap L2
    have HBW : Hid _ := hide hbw
    clear L2 LR hb2 hbw HP
    by_cases htm : t ≤ m
    · go_wp2
      go_ret
      rw [HF.out, if_pos htm]
      exact ⟨rfl, HBW.out⟩
    · go_wp2
      go_ret
      rw [HF.out, if_neg (by omega)]
      exact ⟨rfl, HBW.out⟩
  · have HP := rput_bad 0 0 0 t k o a q W hE
    have hf : flt m ⟨t, k, o, a, q⟩ = putE St.zero ⟨t, k, o, a, q⟩ := by unfold flt; rw [if_pos hE]
    have HP' : Calls Tryd.prog 51 #[.agg #[.int .i64 0, .int .u64 0, .int .i64 0], .agg #[.int .i64 t, .int .i64 k, .int .u64 o, .int .u64 a, .int .i64 q]] W fun e w' => e = .returned (nilV (putE St.zero ⟨t, k, o, a, q⟩)) ∧ Below W.heap.size W w' := HP
    have HF : Hid _ := hide hf
    generalize putE St.zero ⟨t, k, o, a, q⟩ = E at HP' HF hE
    simp only [nilV] at HP'
    clear hf hW hb HP
    go_enter Tryd.func37, Tryd.ntmps37
    go_wp2_with fail
    rw [← HW.out]
    refine HP'.mono ?_
    rintro e w2 ⟨rfl, hb2⟩
    have hs2 := hb2.size
    have HBW : Hid (Below w.heap.size w (w2.alloc (.cells #[.int .i64 0, .int .u64 0, .int .i64 0] 48))) := hide ((HB.out.trans (hb2.mono (by omega))).alloc (by omega) _)
    clear hb2 HP'
    go_wp2
    go_ret
    rw [HF.out]
    exact ⟨rfl, HBW.out⟩
end Go.Proofs.YtamoioebgnmcaaaDoor
