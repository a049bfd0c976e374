/-
  Access, Clash.
-/
import Derived.Test.YtifbehkdhalfcaaDoorEvtC
namespace Go.Proofs.YtifbehkdhalfcaaDoor
open Go.RowKit Go.Maps Go.Shelf
theorem results_tmp4 {fn : Func} {t u v x : Tmp} (h : fn.results = #[.tmp t, .tmp u, .tmp v, .tmp x]) (tmps : Array Value) (P : Program) (w : World) :
    (results fn tmps).run P w = .ok (.tuple #[tmps.getD t undef, tmps.getD u undef, tmps.getD v undef, tmps.getD x undef]) w := by
  simp [results, h]
def accB (k o a : Int) : Bool := decide ((k = 1 ∨ k = 2) ∧ 1 ≤ a ∧ a ≤ 64 ∧ o + (a - 1) ≤ 18446744073709551615)
def acc0 (k o a : Int) : Int := if accB k o a then o else 0
def acc1 (k o a : Int) : Int := if accB k o a then o + (a - 1) else 0
def acc2 (k o a : Int) : Bool := accB k o a && (k == 2)
theorem acc_bd {k o a : Int} (ho : 0 ≤ o) : 0 ≤ acc0 k o a ∧ acc0 k o a ≤ acc1 k o a ∧ acc1 k o a ≤ 18446744073709551615 ∧ acc1 k o a - acc0 k o a ≤ 63 := by
  unfold acc0 acc1
  by_cases h : accB k o a = true
  · rw [if_pos h, if_pos h]
    have := of_decide_eq_true h
    omega
  · rw [if_neg h, if_neg h]; omega
theorem Kr.drewN {w : World} (h : Kr w) (j : Nat) : Kr (w.drewN j) := h.below (below_drewN (Below.refl w.heap.size _) j) (by have := h.size; omega)
theorem EvB.drewN {w : World} {b : Nat} {g k o a : Int} {sa : Option Addr} {sn sc : Nat} (h : EvB w b g k o a sa sn sc) (j : Nat) : EvB (w.drewN j) b g k o a sa sn sc := h.below (below_drewN (Below.refl _ _) j)
theorem acc_arg {m : Nat} {o a : Int} (hm : m = 1 ∨ m = 2) : accB m o a = (argB m a && objB m o a) ∧ ksort m = 2 := by
  have hs : ksort m = 2 := by rcases hm with rfl | rfl <;> rfl
  refine ⟨?_, hs⟩
  unfold accB objB argB lo hi
  rw [hs]
  simp only [rlo, rhi, rlos, rhis]
  rw [Bool.eq_iff_iff]
  simp
  omega
set_option maxRecDepth 4000 in
theorem access_any (g k o a : Int) (sa : Option Addr) (sn sc : Nat) (w : World) (h : Kr w) (ho : 0 ≤ o ∧ o ≤ 18446744073709551615) :
    Calls Tryd.prog 15 #[.agg #[.int .i64 g, .int .i64 k, .int .u64 o, .int .u64 a, .slice sa sn sc]] w fun e w' => e = .returned (.tuple #[.int .u64 (acc0 k o a), .int .u64 (acc1 k o a), .bool (acc2 k o a), .bool (accB k o a)]) ∧ Below w.heap.size w w' := by
  obtain ⟨R, hR⟩ : ∃ R, R = Value.tuple #[.int .u64 (acc0 k o a), .int .u64 (acc1 k o a), .bool (acc2 k o a), .bool (accB k o a)] := ⟨_, rfl⟩
  rw [← hR]
  unfold acc0 acc1 acc2 at hR
  obtain ⟨W1, hW1⟩ : ∃ W1, W1 = w.alloc (.cells #[.int .i64 g, .int .i64 k, .int .u64 o, .int .u64 a, .slice sa sn sc] 35) := ⟨_, rfl⟩
  have hb1 : Below w.heap.size w W1 := by rw [hW1]; exact below_new w _
  have hk1 := h.below hb1 (by have := h.size; omega)
  have he1 : EvB W1 w.heap.size g k o a sa sn sc := by rw [hW1]; exact EvB.new
  have q1 := he1.c1
  have HB : Hid _ := hide hb1
  have HK : Hid _ := hide hk1
  have HE : Hid _ := hide he1
  have HR : Hid _ := hide hR
  clear hb1 hk1 he1 h hR
  by_cases hk : k = 1 ∨ k = 2
  · obtain ⟨m, rfl⟩ : ∃ m : Nat, k = m := ⟨k.toNat, by omega⟩
    have hm : m = 1 ∨ m = 2 := by omega
    obtain ⟨hacc, hs⟩ := acc_arg (o := o) (a := a) hm
    have hm23 : m < 23 := by omega
    have hbd := @argB_bd m a (.inl hs)
    have HC : Hid _ := hide hacc
    have HBd : Hid _ := hide hbd
    obtain ⟨ho1, ho2⟩ := ho
    have hb : ∃ b1 b2 : Bool, b1 = !b2 ∧ ((m : Int) == 1) = b1 ∧ ((m : Int) == 2) = b2 := by
      rcases hm with rfl | rfl
      · exact ⟨true, false, rfl, rfl, rfl⟩
      · exact ⟨false, true, rfl, rfl, rfl⟩
    obtain ⟨b1, b2, hb12, e1, e2⟩ := hb
    clear hk hacc hs hbd hm
    cases b2 <;> (
      simp at hb12
      subst hb12
      go_enter Tryd.func15, Tryd.ntmps15
      go_wp2
      rw [← hW1]
      clear hW1
      go_quiet (fail)
      have HA : Hid _ := hide (arg_any g m o a sa sn sc (W1.drewN nq) (HK.out.drewN nq) hm23)
      have HB2 : Hid _ := hide (below_drewN HB.out nq)
      have HK2 : Hid _ := hide (HK.out.drewN nq)
      have HE2 : Hid _ := hide (HE.out.drewN nq)
      generalize W1.drewN nq = W2 at HA HB2 HK2 HE2 ⊢
      have p0 := HE2.out.c0
      have p1 := HE2.out.c1
      have p2 := HE2.out.c2
      have p3 := HE2.out.c3
      have p4 := HE2.out.c4
      clear HB HK HE q1
      go_wp2_with fail
      refine HA.out.mono ?_
      rintro e w3 ⟨rfl, hb3⟩
      have HB3 : Hid _ := hide (HB2.out.trans (hb3.mono HB2.out.size))
      have HK3 : Hid _ := hide (HK2.out.below hb3 (by have := HK2.out.size; omega))
      have HE3 : Hid _ := hide (HE2.out.below hb3)
      clear HA hb3 HB2 HK2 HE2 p0 p1 p2 p3 p4
      cases hab : argB m a
      · have HN : Hid (accB m o a = false) := hide (by rw [HC.out, hab]; rfl)
        go_wp2
        (try simp only [Exit.inBlock, Exit.then]); refine bodyPost_ret (results_tmp4 rfl _ _ _) rfl ?_
        exact ⟨by rw [HR.out, HN.out]; rfl, HB3.out⟩
      · obtain ⟨ha1, ha2⟩ := HBd.out hab
        have HO : Hid _ := hide (obj_any g m o a sa sn sc w3 HK3.out hm23)
        have p0 := HE3.out.c0
        have p1 := HE3.out.c1
        have p2 := HE3.out.c2
        have p3 := HE3.out.c3
        have p4 := HE3.out.c4
        go_wp2_with fail
        refine HO.out.mono ?_
        rintro e w4 ⟨rfl, hb4⟩
        have HB4 : Hid _ := hide (HB3.out.trans (hb4.mono HB3.out.size))
        have HE4 : Hid _ := hide (HE3.out.below hb4)
        clear HO hb4 HB3 HK3 HE3 p0 p1 p2 p3 p4
        cases hob : objB m o a
        · have HN : Hid (accB m o a = false) := hide (by rw [HC.out, hab, hob]; rfl)
          go_wp2
          (try simp only [Exit.inBlock, Exit.then]); refine bodyPost_ret (results_tmp4 rfl _ _ _) rfl ?_
          exact ⟨by rw [HR.out, HN.out]; rfl, HB4.out⟩
        · have HN : Hid (accB m o a = true) := hide (by rw [HC.out, hab, hob]; rfl)
          have hlast : o + (a - 1) ≤ 18446744073709551615 := (of_decide_eq_true HN.out).2.2.2
          have w1 : IntKind.u64.wrap (a - 1) = a - 1 := by rw [IntKind.wrap_u64]; omega
          have w2 : IntKind.u64.wrap (o + (a - 1)) = o + (a - 1) := by rw [IntKind.wrap_u64]; omega
          have p2 := HE4.out.c2
          have p3 := HE4.out.c3
          go_wp2
          go_quiet (fail)
          go_wp2
          (try simp only [Exit.inBlock, Exit.then]); refine bodyPost_ret (results_tmp4 rfl _ _ _) rfl ?_
          exact ⟨by rw [HR.out, HN.out, e2]; rfl, below_drewN HB4.out _⟩)
  · have e1 : (k == 1) = false := by rw [beq_eq_false_iff_ne]; omega
    have e2 : (k == 2) = false := by rw [beq_eq_false_iff_ne]; omega
    have HN : Hid (accB k o a = false) := hide (by unfold accB; rw [decide_eq_false_iff_not]; omega)
    clear hk ho
    go_enter Tryd.func15, Tryd.ntmps15
    go_wp2
    rw [← hW1]
    clear hW1
    go_quiet (fail)
    go_wp2
    (try simp only [Exit.inBlock, Exit.then]); refine bodyPost_ret (results_tmp4 rfl _ _ _) rfl ?_
    exact ⟨by rw [HR.out, HN.out]; rfl, below_drewN HB.out _⟩
def clashB (k o a k' o' a' : Int) : Bool := accB k o a && accB k' o' a' && (acc2 k o a || acc2 k' o' a') && decide (acc0 k o a ≤ acc1 k' o' a') && decide (acc0 k' o' a' ≤ acc1 k o a)
set_option maxRecDepth 4000 in
theorem clash_any (g k o a : Int) (sa : Option Addr) (sn sc : Nat) (g' k' o' a' : Int) (sa' : Option Addr) (sn' sc' : Nat) (w : World) (h : Kr w) (ho : 0 ≤ o ∧ o ≤ 18446744073709551615) (ho' : 0 ≤ o' ∧ o' ≤ 18446744073709551615) :
    Calls Tryd.prog 16 #[.agg #[.int .i64 g, .int .i64 k, .int .u64 o, .int .u64 a, .slice sa sn sc], .agg #[.int .i64 g', .int .i64 k', .int .u64 o', .int .u64 a', .slice sa' sn' sc']] w fun e w' => e = .returned (.bool (clashB k o a k' o' a')) ∧ Below w.heap.size w w' := by
  obtain ⟨R, hR⟩ : ∃ R, R = clashB k o a k' o' a' := ⟨_, rfl⟩
  rw [← hR]
  unfold clashB at hR
  obtain ⟨W1, hW1⟩ : ∃ W1, W1 = (w.alloc (.cells #[.int .i64 g, .int .i64 k, .int .u64 o, .int .u64 a, .slice sa sn sc] 35)).alloc (.cells #[.int .i64 g', .int .i64 k', .int .u64 o', .int .u64 a', .slice sa' sn' sc'] 35) := ⟨_, rfl⟩
  have hb1 : Below w.heap.size w W1 := by rw [hW1]; exact (below_new w _).trans ((below_new _ _).mono (below_new w _).size)
  have hk1 := h.below hb1 (by have := h.size; omega)
  have he2 : EvB W1 (w.heap.size + 1) g' k' o' a' sa' sn' sc' := by
    have := EvB.new (w := w.alloc (.cells #[.int .i64 g, .int .i64 k, .int .u64 o, .int .u64 a, .slice sa sn sc] 35)) (g := g') (k := k') (o := o') (a := a') (sa := sa') (sn := sn') (sc := sc')
    rw [hW1]; simpa using this
  have HA : Hid _ := hide (access_any g k o a sa sn sc W1 hk1 ho)
  have HB : Hid _ := hide hb1
  have HK : Hid _ := hide hk1
  have HE2 : Hid _ := hide he2
  have HR : Hid _ := hide hR
  rw [hW1] at HA
  clear hb1 hk1 he2 h hR
  go_enter Tryd.func16, Tryd.ntmps16
  go_wp2_with fail
  refine HA.out.mono ?_
  rw [← hW1]
  clear hW1 HA
  rintro e w2 ⟨rfl, hb2⟩
  have HB2 : Hid _ := hide (HB.out.trans (hb2.mono HB.out.size))
  have HA2 : Hid _ := hide (access_any g' k' o' a' sa' sn' sc' w2 (HK.out.below hb2 (by have := HK.out.size; omega)) ho')
  have he := HE2.out.below hb2
  have p0 := he.c0
  have p1 := he.c1
  have p2 := he.c2
  have p3 := he.c3
  have p4 := he.c4
  clear hb2 he HB HK HE2
  go_wp2_with fail
  refine HA2.out.mono ?_
  rintro e w3 ⟨rfl, hb3⟩
  have HB3 : Hid _ := hide (HB2.out.trans (hb3.mono HB2.out.size))
  clear hb3 HB2 HA2 p0 p1 p2 p3 p4 ho ho'
  generalize acc0 k o a = x0 at HR ⊢
  generalize acc1 k o a = x1 at HR ⊢
  generalize acc2 k o a = x2 at HR ⊢
  generalize accB k o a = x3 at HR ⊢
  generalize acc0 k' o' a' = y0 at HR ⊢
  generalize acc1 k' o' a' = y1 at HR ⊢
  generalize acc2 k' o' a' = y2 at HR ⊢
  generalize accB k' o' a' = y3 at HR ⊢
  obtain ⟨d1, e1⟩ : ∃ d, decide (x0 ≤ y1) = d := ⟨_, rfl⟩
  obtain ⟨d2, e2⟩ : ∃ d, decide (y0 ≤ x1) = d := ⟨_, rfl⟩
  rw [e1, e2] at HR
  cases x3
  · go_wp2
    go_ret
    exact ⟨by rw [HR.out]; rfl, HB3.out⟩
  · cases y3
    · go_wp2
      go_ret
      exact ⟨by rw [HR.out]; rfl, HB3.out⟩
    · cases x2
      · cases y2
        · go_wp2
          go_ret
          exact ⟨by rw [HR.out]; rfl, HB3.out⟩
        · cases d1
          · go_wp2
            go_ret
            exact ⟨by rw [HR.out]; rfl, HB3.out⟩
          · go_wp2
            go_ret
            exact ⟨by rw [HR.out, ← e2]; rfl, HB3.out⟩
      · cases d1
        · go_wp2
          go_ret
          exact ⟨by rw [HR.out]; rfl, HB3.out⟩
        · go_wp2
          go_ret
          exact ⟨by rw [HR.out, ← e2]; rfl, HB3.out⟩
end Go.Proofs.YtifbehkdhalfcaaDoor
