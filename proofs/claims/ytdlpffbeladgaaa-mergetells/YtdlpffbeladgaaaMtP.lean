/-
  put of the law.
-/
import Derived.Test.YtdlpffbeladgaaaMtT
namespace Go.Proofs.Ytdlpffbeladgaaa
open Go.RowKit
theorem filter_take {R : List Rc} {k : Nat} {x : Rc} (h : R[k]? = some x) (p : Rc → Bool) : (R.take (k + 1)).filter p = (R.take k).filter p ++ (if p x = true then [x] else []) := by
  rw [List.take_add_one, h, List.filter_append]
  congr 1
  simp only [Option.toList_some, List.filter_cons, List.filter_nil]
set_option maxRecDepth 8000 in
set_option maxHeartbeats 12800000 in
theorem put_any (w : World) (a : Option Addr) (n c : Nat) (R : List Rc) (x : Rc) (hr : TRow layR w a n R) (hn : n * 40 + 40 ≤ 140737488355328) :
    Calls Try.prog 28 #[.slice a n c, .agg #[.int .i64 x.stamp, .int .i64 x.kind, .int .u64 x.obj, .int .u64 x.arg, .int .i64 x.stack]] w fun r w' => ∃ v, r = .returned v ∧ Own layR 41 w' w.heap.size v (putR x.stamp x R) ∧ Below w.heap.size w w' := by
  obtain ⟨i0, hi0, hz0, hz1, hz2⟩ := info_parts Try.infoR
  have HR : Hid _ := hide hr
  have HL : Hid _ := hide hr.len
  have hnI : (n : Int) ≤ 3518437208883 := by omega
  have HN : Hid _ := hide hn
  clear hr hn
  obtain ⟨w1, hw1⟩ : ∃ w1, w1 = w.alloc (.cells #[.int .i64 x.stamp, .int .i64 x.kind, .int .u64 x.obj, .int .u64 x.arg, .int .i64 x.stack] 41) := ⟨_, rfl⟩
  have HB1 : Hid (Below w.heap.size w w1) := hide (by rw [hw1]; exact below_alloc1 _ _)
  have HX : Hid (w1.heap[w.heap.size]? = some (.cells #[.int .i64 x.stamp, .int .i64 x.kind, .int .u64 x.obj, .int .u64 x.arg, .int .i64 x.stack] 41 (0, 0))) := hide (by rw [hw1]; exact heap_new _ _)
  have HS1 : Hid (w1.heap.size = w.heap.size + 1) := hide (by rw [hw1]; simp)
  have HW1 : Hid _ := hide hw1
  clear hw1
  obtain ⟨s, k', o', a', t'⟩ := x
  go_enter Try.func28, Try.ntmps28
  go_wp2_with fail
  rw [← HW1.out]
  go_loopw [5, 6] (fun ov i wr => ∃ (k : Nat) (oa : Option Addr) (on oc : Nat), ov = .slice oa on oc ∧ i = .int .i64 k ∧ k ≤ n ∧ Hid (Own layR 41 wr w1.heap.size (.slice oa on oc) ((R.take k).filter fun y => decide (y.stamp < s))) ∧ Hid (Below w1.heap.size w1 wr)) (fun _ i _ => n - numV i)
  case atStart => exact ⟨0, none, 0, 0, rfl, rfl, Nat.zero_le _, hide (Own.nil _ _ _ _), hide (Below.refl _ _)⟩
  case round =>
    obtain ⟨k, oa, on, oc, rfl, rfl, hk, HO, HB⟩ := hrel
    have rX := (HB.out.block _ (get_lt' HX.out)).trans HX.out
    have q0 : wr.cell? ⟨w.heap.size, 0, none⟩ = some (.int .i64 s) := cell_at rX rfl
    have HRX : Hid _ := hide rX
    clear rX
    by_cases hlt : k < n
    · have hltI : (k : Int) < (n : Int) := by omega
      obtain ⟨y, hy⟩ : ∃ r, R[k]? = some r := ⟨_, List.getElem?_eq_getElem (by rw [HL.out]; exact hlt)⟩
      obtain ⟨lb, lo, rfl, hlb, hc⟩ := ((HR.out.below HB1.out).below HB.out).at (by omega)
      have HFt := hide (filter_take hy fun y => decide (y.stamp < s))
      have HFl : Hid (((R.take k).filter fun y => decide (y.stamp < s)).length ≤ n) := hide (by have h1 := List.length_filter_le (fun y : Rc => decide (y.stamp < s)) (R.take k); rw [List.length_take] at h1; omega)
      have HC : Hid (∀ X, Below wr.heap.size wr X → X.cell? ⟨lb, lo + k * 5, none⟩ = some (.int .i64 y.stamp) ∧ X.cell? ⟨lb, lo + k * 5 + 1, none⟩ = some (.int .i64 y.kind) ∧ X.cell? ⟨lb, lo + k * 5 + 2, none⟩ = some (.int .u64 y.obj) ∧ X.cell? ⟨lb, lo + k * 5 + 3, none⟩ = some (.int .u64 y.arg) ∧ X.cell? ⟨lb, lo + k * 5 + 4, none⟩ = some (.int .i64 y.stack)) := hide (fun X hX => ⟨(hX.cell (p := ⟨lb, lo + k * 5, none⟩) hlb).trans (hc k y hy 0 _ rfl), (hX.cell (p := ⟨lb, lo + k * 5 + 1, none⟩) hlb).trans (hc k y hy 1 _ rfl), (hX.cell (p := ⟨lb, lo + k * 5 + 2, none⟩) hlb).trans (hc k y hy 2 _ rfl), (hX.cell (p := ⟨lb, lo + k * 5 + 3, none⟩) hlb).trans (hc k y hy 3 _ rfl), (hX.cell (p := ⟨lb, lo + k * 5 + 4, none⟩) hlb).trans (hc k y hy 4 _ rfl)⟩)
      clear hc hy
      obtain ⟨x0, -, -, -, -⟩ := HC.out _ (Below.refl _ _)
      by_cases hS : y.stamp < s
      · have hd : decide (y.stamp < s) = true := decide_eq_true hS
        go_wp2_with fail
        go_quiet (fail)
        go_upto_region 6 with fail
        generalize hwd : wr.drewN _ = wd
        have HBd : Hid (Below wr.heap.size wr wd) := hide (by rw [← hwd]; exact below_drewN (Below.refl _ _) _)
        clear hwd x0 q0
        obtain ⟨x0, x1, x2, x3, x4⟩ := HC.out _ HBd.out
        go_wp2_with (
          at_builtin
          refine append_lay layR _ 36 41 i0 _ 40 Try.underlying36 hi0 hz0 hz1 hz2 rfl rfl (.tmp 22) (.tmp 27) rfl w1.heap.size (.slice oa on oc) _ rfl ((HO.out.below HBd.out).below (below_alloc1 _ _)) _ _ _ [y] rfl (TRow.one (heap_new _ _)) (fun e => by cases e) (by have := HFl.out; unfold maxLen; omega) (by have := HFl.out; have := HN.out; omega) (by have := HB.out.size; have := HBd.out.size; simp; omega) ?_
          intro v4 w4 o4 g4 l4
          obtain ⟨oa4, oc4, hv4, -, -⟩ := own_form o4
          obtain ⟨on4, hn4⟩ : ∃ m, m = (((R.take k).filter fun y => decide (y.stamp < s)) ++ [y]).length := ⟨_, rfl⟩
          rw [← hn4] at hv4
          subst hv4
          clear hn4
          have HO4 : Hid _ := hide o4
          have HB4 : Hid (Below w1.heap.size w1 w4) := hide ((HB.out.trans (HBd.out.mono HB.out.size)).trans ((((below_alloc1 wd _).mono (Nat.le_trans HB.out.size HBd.out.size))).grown g4 (by have := HB.out.size; have := HBd.out.size; simp; omega) (fun q hq => (HO.out.lt q hq).1)))
          clear o4 g4 l4 x0 x1 x2 x3 x4)
        refine ⟨⟨k + 1, oa4, on4, oc4, rfl, by go_num, by omega, hide ?_, HB4⟩, by simp [numV]; omega⟩
        rw [HFt.out, if_pos (decide_eq_true hS)]
        exact HO4.out
      · have hd : decide (y.stamp < s) = false := decide_eq_false hS
        go_wp2_with fail
        go_quiet (fail)
        go_wp2
        refine ⟨⟨k + 1, oa, on, oc, rfl, by go_num, by omega, hide ?_, hide (below_drewN HB.out _)⟩, by simp [numV]; omega⟩
        rw [HFt.out, if_neg (by simpa using hS), List.append_nil]
        exact HO.out.below (below_drewN (Below.refl _ _) _)
    · have hltI : ¬ (k : Int) < (n : Int) := by omega
      obtain rfl : k = n := by omega
      have HFa : Hid ((R.take k).filter (fun y => decide (y.stamp < s)) = R.filter fun y => decide (y.stamp < s)) := hide (by rw [List.take_of_length_le (by rw [HL.out]; exact Nat.le_refl _)])
      have hfl : (R.filter fun y : Rc => decide (y.stamp < s)).length ≤ k := by have h1 := List.length_filter_le (fun y : Rc => decide (y.stamp < s)) R; rw [HL.out] at h1; exact h1
      have HFl : Hid _ := hide hfl
      have q1 : wr.cell? ⟨w.heap.size, 1, none⟩ = some (.int .i64 k') := cell_at HRX.out rfl
      have q2 : wr.cell? ⟨w.heap.size, 2, none⟩ = some (.int .u64 o') := cell_at HRX.out rfl
      have q3 : wr.cell? ⟨w.heap.size, 3, none⟩ = some (.int .u64 a') := cell_at HRX.out rfl
      have q4 : wr.cell? ⟨w.heap.size, 4, none⟩ = some (.int .i64 t') := cell_at HRX.out rfl
      clear hfl
      go_wp2_with (
        at_builtin
        refine append_lay layR _ 36 41 i0 _ 40 Try.underlying36 hi0 hz0 hz1 hz2 rfl rfl (.tmp 29) (.tmp 31) rfl w1.heap.size (.slice oa on oc) _ rfl (HO.out.below (below_alloc1 _ _)) _ _ _ [(⟨s, k', o', a', t'⟩ : Rc)] rfl (TRow.one (heap_new _ _)) (fun e => by cases e) (by rw [HFa.out]; have := HFl.out; unfold maxLen; omega) (by rw [HFa.out]; have := HFl.out; have := HN.out; omega) (by have := HB.out.size; simp; omega) ?_
        intro v4 w4 o4 g4 l4
        rw [HFa.out] at o4
        obtain ⟨oa4, oc4, hv4, -, -⟩ := own_form o4
        obtain ⟨on4, hn4⟩ : ∃ m, m = ((R.filter fun y => decide (y.stamp < s)) ++ [(⟨s, k', o', a', t'⟩ : Rc)]).length := ⟨_, rfl⟩
        rw [← hn4] at hv4
        subst hv4
        have HO4 : Hid _ := hide o4
        have HB4 : Hid (Below w1.heap.size w1 w4) := hide (HB.out.trans ((((below_alloc1 wr _).mono HB.out.size)).grown g4 (by have := HB.out.size; simp; omega) (fun q hq => (HO.out.lt q hq).1)))
        clear o4 g4 l4 q0 q1 q2 q3 q4 hn4)
      go_loopw [5, 7] (fun ov i wr => ∃ (j : Nat) (pa : Option Addr) (pn pc : Nat), ov = .slice pa pn pc ∧ i = .int .i64 j ∧ j ≤ k ∧ Hid (Own layR 41 wr w1.heap.size (.slice pa pn pc) (((R.filter fun y => decide (y.stamp < s)) ++ [(⟨s, k', o', a', t'⟩ : Rc)]) ++ (R.take j).filter fun y => decide (s < y.stamp))) ∧ Hid (Below w1.heap.size w1 wr)) (fun _ i _ => k - numV i)
      case atStart => exact ⟨0, oa4, on4, oc4, rfl, rfl, Nat.zero_le _, hide (by rw [List.take_zero, List.filter_nil, List.append_nil]; exact HO4.out), HB4⟩
      case round =>
        obtain ⟨j, pa, pn, pc, rfl, rfl, hj, HP, HBj⟩ := hrel
        rename World => wj
        have rX := (HBj.out.block _ (get_lt' HX.out)).trans HX.out
        have q0 : wj.cell? ⟨w.heap.size, 0, none⟩ = some (.int .i64 s) := cell_at rX rfl
        clear rX
        by_cases hlt2 : j < k
        · have hltJ : (j : Int) < (k : Int) := by omega
          obtain ⟨y, hy⟩ : ∃ r, R[j]? = some r := ⟨_, List.getElem?_eq_getElem (by rw [HL.out]; exact hlt2)⟩
          obtain ⟨lb, lo, rfl, hlb, hc⟩ := ((HR.out.below HB1.out).below HBj.out).at (by omega)
          have HFt := hide (filter_take hy fun y => decide (s < y.stamp))
          have HPl : Hid ((((R.filter fun y => decide (y.stamp < s)) ++ [(⟨s, k', o', a', t'⟩ : Rc)]) ++ (R.take j).filter fun y => decide (s < y.stamp)).length ≤ k + j + 1) := hide (by have h1 := List.length_filter_le (fun y : Rc => decide (s < y.stamp)) (R.take j); rw [List.length_take] at h1; rw [List.length_append, List.length_append, List.length_singleton]; have := HFl.out; omega)
          have HPm : Hid ((((R.filter fun y => decide (y.stamp < s)) ++ [(⟨s, k', o', a', t'⟩ : Rc)]) ++ (R.take (j + 1)).filter fun y => decide (s < y.stamp)).length ≤ k + 1) := hide (by
            have h1 := putR_len s (⟨s, k', o', a', t'⟩ : Rc) R
            unfold putR at h1
            rw [HL.out, List.length_append, List.length_cons] at h1
            have h2 : ((R.take (j + 1)).filter fun y : Rc => decide (s < y.stamp)).length ≤ (R.filter fun y : Rc => decide (s < y.stamp)).length := by
              have h3 := List.take_append_drop (j + 1) R
              conv => rhs; rw [← h3]
              rw [List.filter_append, List.length_append]; omega
            rw [List.length_append, List.length_append, List.length_singleton]
            omega)
          have HC : Hid (∀ X, Below wj.heap.size wj X → X.cell? ⟨lb, lo + j * 5, none⟩ = some (.int .i64 y.stamp) ∧ X.cell? ⟨lb, lo + j * 5 + 1, none⟩ = some (.int .i64 y.kind) ∧ X.cell? ⟨lb, lo + j * 5 + 2, none⟩ = some (.int .u64 y.obj) ∧ X.cell? ⟨lb, lo + j * 5 + 3, none⟩ = some (.int .u64 y.arg) ∧ X.cell? ⟨lb, lo + j * 5 + 4, none⟩ = some (.int .i64 y.stack)) := hide (fun X hX => ⟨(hX.cell (p := ⟨lb, lo + j * 5, none⟩) hlb).trans (hc j y hy 0 _ rfl), (hX.cell (p := ⟨lb, lo + j * 5 + 1, none⟩) hlb).trans (hc j y hy 1 _ rfl), (hX.cell (p := ⟨lb, lo + j * 5 + 2, none⟩) hlb).trans (hc j y hy 2 _ rfl), (hX.cell (p := ⟨lb, lo + j * 5 + 3, none⟩) hlb).trans (hc j y hy 3 _ rfl), (hX.cell (p := ⟨lb, lo + j * 5 + 4, none⟩) hlb).trans (hc j y hy 4 _ rfl)⟩)
          clear hc hy
          obtain ⟨x0, -, -, -, -⟩ := HC.out _ (Below.refl _ _)
          by_cases hS : s < y.stamp
          · have hd : decide (s < y.stamp) = true := decide_eq_true hS
            rw [HFt.out, if_pos (decide_eq_true hS)] at HPm
            go_wp2_with fail
            go_quiet (fail)
            go_upto_region 12 with fail
            generalize hwd : wj.drewN _ = wd
            have HBd : Hid (Below wj.heap.size wj wd) := hide (by rw [← hwd]; exact below_drewN (Below.refl _ _) _)
            clear hwd x0 q0
            obtain ⟨x0, x1, x2, x3, x4⟩ := HC.out _ HBd.out
            go_wp2_with (
              at_builtin
              refine append_lay layR _ 36 41 i0 _ 40 Try.underlying36 hi0 hz0 hz1 hz2 rfl rfl (.tmp 47) (.tmp 52) rfl w1.heap.size (.slice pa pn pc) _ rfl ((HP.out.below HBd.out).below (below_alloc1 _ _)) _ _ _ [y] rfl (TRow.one (heap_new _ _)) (fun e => by cases e) (by have h1 := HPl.out; unfold maxLen; omega) (by have h1 := HPm.out; rw [← List.append_assoc, List.length_append, List.length_singleton] at h1; have := HN.out; omega) (by have := HBj.out.size; have := HBd.out.size; simp; omega) ?_
              intro v4 w4 o4 g4 l4
              obtain ⟨oa5, oc5, hv5, -, -⟩ := own_form o4
              obtain ⟨on5, hn5⟩ : ∃ m, m = ((((R.filter fun y => decide (y.stamp < s)) ++ [(⟨s, k', o', a', t'⟩ : Rc)]) ++ (R.take j).filter fun y => decide (s < y.stamp)) ++ [y]).length := ⟨_, rfl⟩
              rw [← hn5] at hv5
              subst hv5
              clear hn5
              have HO5 : Hid _ := hide o4
              have HB5 : Hid (Below w1.heap.size w1 w4) := hide ((HBj.out.trans (HBd.out.mono HBj.out.size)).trans ((((below_alloc1 wd _).mono (Nat.le_trans HBj.out.size HBd.out.size))).grown g4 (by have := HBj.out.size; have := HBd.out.size; simp; omega) (fun q hq => (HP.out.lt q hq).1)))
              clear o4 g4 l4 x0 x1 x2 x3 x4)
            refine ⟨⟨j + 1, oa5, on5, oc5, rfl, by go_num, by omega, hide ?_, HB5⟩, by simp [numV]; omega⟩
            rw [HFt.out, if_pos (decide_eq_true hS), ← List.append_assoc]
            exact HO5.out
          · have hd : decide (s < y.stamp) = false := decide_eq_false hS
            go_wp2_with fail
            go_quiet (fail)
            go_wp2
            refine ⟨⟨j + 1, pa, pn, pc, rfl, by go_num, by omega, hide ?_, hide (below_drewN HBj.out _)⟩, by simp [numV]; omega⟩
            rw [HFt.out, if_neg (by simpa using hS), List.append_nil]
            exact HP.out.below (below_drewN (Below.refl _ _) _)
        · have hltJ : ¬ (j : Int) < (k : Int) := by omega
          obtain rfl : j = k := by omega
          go_wp2
          go_ret
          refine ⟨_, rfl, ?_, HB1.out.trans (HBj.out.mono HB1.out.size)⟩
          have h9 := HP.out.mono HB1.out.size
          rw [List.take_of_length_le (by rw [HL.out]; exact Nat.le_refl _), List.append_assoc] at h9
          exact h9
end Go.Proofs.Ytdlpffbeladgaaa
