/-
  The document's Clash.
-/
import Derived.Test.YtifbehkdhalfcaaDoorEvtT
namespace Go.Proofs.YtifbehkdhalfcaaDoor
open Go.RowKit Go.Maps Go.Shelf
theorem clash_yes {k o a k' o' a' : Int} (h1 : accB k o a = true) (h2 : accB k' o' a' = true) (hw : (acc2 k o a || acc2 k' o' a') = true) (hx : acc0 k o a ≤ acc1 k' o' a') (hy : acc0 k' o' a' ≤ acc1 k o a) : clashB k o a k' o' a' = true := by
  unfold clashB; rw [h1, h2, hw, decide_eq_true hx, decide_eq_true hy]; rfl
theorem clash_no {k o a k' o' a' : Int} (h : ¬ (acc0 k o a ≤ acc1 k' o' a' ∧ acc0 k' o' a' ≤ acc1 k o a)) : clashB k o a k' o' a' = false := by
  unfold clashB
  by_cases hx : acc0 k o a ≤ acc1 k' o' a'
  · rw [decide_eq_false (fun hy => h ⟨hx, hy⟩)]; simp
  · rw [decide_eq_false hx]; simp
set_option maxRecDepth 4000 in
set_option maxHeartbeats 2000000 in
theorem rclash_any (g k o a : Int) (sa : Option Addr) (sn sc : Nat) (g' k' o' a' : Int) (sa' : Option Addr) (sn' sc' : Nat) (w : World) (ho : 0 ≤ o ∧ o ≤ 18446744073709551615) (ha : 0 ≤ a ∧ a ≤ 18446744073709551615) (ho' : 0 ≤ o' ∧ o' ≤ 18446744073709551615) (ha' : 0 ≤ a' ∧ a' ≤ 18446744073709551615) :
    Calls Tryd.prog 23 #[.agg #[.int .i64 g, .int .i64 k, .int .u64 o, .int .u64 a, .slice sa sn sc], .agg #[.int .i64 g', .int .i64 k', .int .u64 o', .int .u64 a', .slice sa' sn' sc']] w fun e w' => e = .returned (.bool (clashB k o a k' o' a')) ∧ Below w.heap.size w w' := by
  obtain ⟨W1, hW1⟩ : ∃ W1, W1 = (w.alloc (.cells #[.int .i64 g, .int .i64 k, .int .u64 o, .int .u64 a, .slice sa sn sc] 35)).alloc (.cells #[.int .i64 g', .int .i64 k', .int .u64 o', .int .u64 a', .slice sa' sn' sc'] 35) := ⟨_, rfl⟩
  have hb1 : Below w.heap.size w W1 := by rw [hW1]; exact (below_new w _).trans ((below_new _ _).mono (below_new w _).size)
  have he2 : EvB W1 (w.heap.size + 1) g' k' o' a' sa' sn' sc' := by
    have := EvB.new (w := w.alloc (.cells #[.int .i64 g, .int .i64 k, .int .u64 o, .int .u64 a, .slice sa sn sc] 35)) (g := g') (k := k') (o := o') (a := a') (sa := sa') (sn := sn') (sc := sc')
    rw [hW1]; simpa using this
  have HA : Hid _ := hide (raccess_any g k o a sa sn sc W1 ho ha)
  have HB : Hid _ := hide hb1
  have HE2 : Hid _ := hide he2
  rw [hW1] at HA
  clear hb1 he2
  have hy := @clash_yes k o a k' o' a'
  have hno := @clash_no k o a k' o' a'
  have h00 : clashB k o a k' o' a' = (accB k o a && accB k' o' a' && (acc2 k o a || acc2 k' o' a') && decide (acc0 k o a ≤ acc1 k' o' a') && decide (acc0 k' o' a' ≤ acc1 k o a)) := rfl
  obtain ⟨bx1, bx2, bx3, bx4⟩ := @acc_bd k o a ho.1
  obtain ⟨by1, by2, by3, by4⟩ := @acc_bd k' o' a' ho'.1
  obtain ⟨R, hR⟩ : ∃ R, R = clashB k o a k' o' a' := ⟨_, rfl⟩
  rw [← hR] at hy hno h00 ⊢
  have HY : Hid _ := hide hy
  have HNo : Hid _ := hide hno
  have H00 : Hid _ := hide h00
  clear hy hno h00 hR
  go_enter Tryd.func23, Tryd.ntmps23
  go_wp2_with fail
  refine HA.out.mono ?_
  rw [← hW1]
  clear hW1 HA
  rintro e w2 ⟨rfl, hb2⟩
  have HB2 : Hid _ := hide (HB.out.trans (hb2.mono HB.out.size))
  have HA2 : Hid _ := hide (raccess_any g' k' o' a' sa' sn' sc' w2 ho' ha')
  have he := HE2.out.below hb2
  have p0 := he.c0
  have p1 := he.c1
  have p2 := he.c2
  have p3 := he.c3
  have p4 := he.c4
  clear hb2 he HB HE2
  go_wp2_with fail
  refine HA2.out.mono ?_
  rintro e w3 ⟨rfl, hb3⟩
  have HB3 : Hid _ := hide (HB2.out.trans (hb3.mono HB2.out.size))
  clear hb3 HB2 HA2 p0 p1 p2 p3 p4 ho ho' ha ha'
  generalize acc0 k o a = x0 at *
  generalize acc1 k o a = x1 at *
  generalize acc2 k o a = x2 at *
  generalize accB k o a = x3 at *
  generalize acc0 k' o' a' = y0 at *
  generalize acc1 k' o' a' = y1 at *
  generalize acc2 k' o' a' = y2 at *
  generalize accB k' o' a' = y3 at *
  have hw1 : IntKind.u64.wrap (x1 - x0) = x1 - x0 := by rw [IntKind.wrap_u64]; omega
  cases x3
  · go_wp2
    go_ret
    exact ⟨by rw [H00.out]; rfl, HB3.out⟩
  · cases y3
    · go_wp2
      go_ret
      exact ⟨by rw [H00.out]; rfl, HB3.out⟩
    · by_cases hww : (x2 || y2) = true
      · have HY2 : Hid (x0 ≤ y1 → y0 ≤ x1 → R = true) := hide (HY.out rfl rfl hww)
        clear HY H00
        cases x2 <;> cases y2 <;> first | (exfalso; simp at hww; done) | (
          clear hww
          go_wp2
          go_loopw [13] (fun i wr => ∃ j : Int, 0 ≤ j ∧ j ≤ x1 - x0 + 1 ∧ i = .int .u64 j ∧ wr = w3 ∧ ∀ t, 0 ≤ t → t < j → ¬ (y0 ≤ x0 + t ∧ x0 + t ≤ y1)) (fun i _ => (x1 - x0 + 1 - intOf i).toNat)
          case atStart => exact ⟨0, by omega, by omega, rfl, rfl, fun t h1 h2 => by omega⟩
          case round =>
            obtain ⟨j, hj0, hj1, rfl, rfl, hall⟩ := hrel
            by_cases hlt : j ≤ x1 - x0
            · have hw2 : IntKind.u64.wrap (x0 + j) = x0 + j := by rw [IntKind.wrap_u64]; omega
              have hw3 : IntKind.u64.wrap (j + 1) = j + 1 := by rw [IntKind.wrap_u64]; omega
              by_cases c1 : y0 ≤ x0 + j
              · by_cases c2 : x0 + j ≤ y1
                · have HN : Hid (R = true) := hide (HY2.out (by omega) (by omega))
                  have HAll : Hid _ := hide hall
                  clear hall
                  go_wp2
                  go_ret
                  exact ⟨by rw [HN.out]; rfl, HB3.out⟩
                · have HN : Hid (∀ t, 0 ≤ t → t < j + 1 → ¬ (y0 ≤ x0 + t ∧ x0 + t ≤ y1)) := hide (fun t h1 h2 => by
                    by_cases e : t = j
                    · subst e; omega
                    · exact hall t h1 (by omega))
                  clear hall
                  go_wp2
                  exact ⟨⟨j + 1, by omega, by omega, by go_num, by trivial, HN.out⟩, by simp [intOf]; omega⟩
              · have HN : Hid (∀ t, 0 ≤ t → t < j + 1 → ¬ (y0 ≤ x0 + t ∧ x0 + t ≤ y1)) := hide (fun t h1 h2 => by
                  by_cases e : t = j
                  · subst e; omega
                  · exact hall t h1 (by omega))
                clear hall
                go_wp2
                exact ⟨⟨j + 1, by omega, by omega, by go_num, by trivial, HN.out⟩, by simp [intOf]; omega⟩
            · have HN : Hid (R = false) := hide (HNo.out (fun ⟨h1, h2⟩ => by
                by_cases e : x0 ≤ y0
                · exact hall (y0 - x0) (by omega) (by omega) ⟨by omega, by omega⟩
                · exact hall 0 (by omega) (by omega) ⟨by omega, by omega⟩))
              clear hall
              go_wp2
              go_ret
              exact ⟨by rw [HN.out]; rfl, HB3.out⟩)
      · have e : x2 = false ∧ y2 = false := by cases x2 <;> cases y2 <;> simp_all
        obtain ⟨rfl, rfl⟩ := e
        clear hww
        go_wp2
        go_ret
        exact ⟨by rw [H00.out]; rfl, HB3.out⟩
end Go.Proofs.YtifbehkdhalfcaaDoor
