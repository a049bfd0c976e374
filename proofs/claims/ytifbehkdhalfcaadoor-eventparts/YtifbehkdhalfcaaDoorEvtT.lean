/-
  The document's Access and Clash.
-/
import Derived.Test.YtifbehkdhalfcaaDoorEvtR
namespace Go.Proofs.YtifbehkdhalfcaaDoor
open Go.RowKit Go.Maps Go.Shelf
set_option maxRecDepth 4000 in
set_option maxHeartbeats 2000000 in
theorem raccess_any (g k o a : Int) (sa : Option Addr) (sn sc : Nat) (w : World) (ho : 0 ≤ o ∧ o ≤ 18446744073709551615) (ha : 0 ≤ a ∧ a ≤ 18446744073709551615) :
    Calls Tryd.prog 21 #[.agg #[.int .i64 g, .int .i64 k, .int .u64 o, .int .u64 a, .slice sa sn sc]] w fun e w' => e = .returned (.tuple #[.int .u64 (acc0 k o a), .int .u64 (acc1 k o a), .bool (acc2 k o a), .bool (accB k o a)]) ∧ Below w.heap.size w w' := by
  obtain ⟨R, hR⟩ : ∃ R, R = Value.tuple #[.int .u64 (acc0 k o a), .int .u64 (acc1 k o a), .bool (acc2 k o a), .bool (accB k o a)] := ⟨_, rfl⟩
  rw [← hR]
  unfold acc0 acc1 acc2 at hR
  obtain ⟨W1, hW1⟩ : ∃ W1, W1 = w.alloc (.cells #[.int .i64 g, .int .i64 k, .int .u64 o, .int .u64 a, .slice sa sn sc] 35) := ⟨_, rfl⟩
  have hb1 : Below w.heap.size w W1 := by rw [hW1]; exact below_new w _
  have he1 : EvB W1 w.heap.size g k o a sa sn sc := by rw [hW1]; exact EvB.new
  have HOv : Hid _ := hide (rover_any g k o a sa sn sc W1 ho ha)
  rw [hW1] at HOv
  have HB : Hid _ := hide hb1
  have HE : Hid _ := hide he1
  have HR : Hid _ := hide hR
  have HW : Hid _ := hide hW1
  obtain ⟨ho1, ho2⟩ := ho
  obtain ⟨ha1, ha2⟩ := ha
  clear hb1 he1 hR hW1
  have hb : ∃ b1 b2 : Bool, (k != 1) = b1 ∧ (k != 2) = b2 ∧ (k == 2) = !b2 ∧ (b1 && b2) = decide ¬ (k = 1 ∨ k = 2) ∧ (b1 || b2) = true := by
    by_cases h1 : k = 1
    · subst h1; exact ⟨false, true, rfl, rfl, rfl, rfl, rfl⟩
    · by_cases h2 : k = 2
      · subst h2; exact ⟨true, false, rfl, rfl, rfl, rfl, rfl⟩
      · exact ⟨true, true, by rw [bne_iff_ne]; exact h1, by rw [bne_iff_ne]; exact h2, by rw [beq_eq_false_iff_ne.2 h2]; rfl, by symm; rw [Bool.and_true, decide_eq_true_eq]; omega, rfl⟩
  obtain ⟨b1, b2, e1, e2, e3, hbb, hor⟩ := hb
  by_cases hk : (b1 && b2) = true
  · have HN : Hid (accB k o a = false) := hide (by
      unfold accB; rw [decide_eq_false_iff_not]; rw [hk] at hbb; have := of_decide_eq_true hbb.symm; omega)
    simp at hk
    obtain ⟨rfl, rfl⟩ := hk
    clear hbb hor e3
    go_enter Tryd.func21, Tryd.ntmps21
    go_wp2
    (try simp only [Exit.inBlock, Exit.then]); refine bodyPost_ret (results_tmp4 rfl _ _ _) rfl ?_
    exact ⟨by rw [HR.out, HN.out]; rfl, by rw [← HW.out]; exact HB.out⟩
  · have HKK : Hid (k = 1 ∨ k = 2) := hide (by
      have h0 : (b1 && b2) = false := by simpa using hk
      rw [h0] at hbb; have := of_decide_eq_false hbb.symm; omega)
    have hx : b1 = !b2 := by cases b1 <;> cases b2 <;> simp_all
    clear hk hbb hor
    subst hx
    cases b2 <;> (
      by_cases d1 : a < 1
      · have HN : Hid (accB k o a = false) := hide (by unfold accB; rw [decide_eq_false_iff_not]; omega)
        go_enter Tryd.func21, Tryd.ntmps21
        go_wp2
        (try simp only [Exit.inBlock, Exit.then]); refine bodyPost_ret (results_tmp4 rfl _ _ _) rfl ?_
        exact ⟨by rw [HR.out, HN.out]; rfl, by rw [← HW.out]; exact HB.out⟩
      · have d1' : decide (a < 1) = false := decide_eq_false d1
        by_cases d2 : 64 < a
        · have HN : Hid (accB k o a = false) := hide (by unfold accB; rw [decide_eq_false_iff_not]; omega)
          go_enter Tryd.func21, Tryd.ntmps21
          go_wp2
          (try simp only [Exit.inBlock, Exit.then]); refine bodyPost_ret (results_tmp4 rfl _ _ _) rfl ?_
          exact ⟨by rw [HR.out, HN.out]; rfl, by rw [← HW.out]; exact HB.out⟩
        · have d2' : decide (64 < a) = false := decide_eq_false d2
          have w1 : IntKind.u64.wrap (a - 1) = a - 1 := by rw [IntKind.wrap_u64]; omega
          have hov : overB o a = !accB k o a := by
            have := HKK.out
            unfold overB accB; rw [Bool.eq_iff_iff]; simp; omega
          rw [hov] at HOv
          go_enter Tryd.func21, Tryd.ntmps21
          go_wp2_with fail
          refine HOv.out.mono ?_
          rintro e w2 ⟨rfl, hb2⟩
          rw [← HW.out] at hb2
          have HB2 : Hid _ := hide (HB.out.trans (hb2.mono HB.out.size))
          have HE2 : Hid _ := hide (HE.out.below hb2)
          clear hb2
          cases hac : accB k o a
          · go_wp2
            (try simp only [Exit.inBlock, Exit.then]); refine bodyPost_ret (results_tmp4 rfl _ _ _) rfl ?_
            exact ⟨by rw [HR.out, hac]; rfl, HB2.out⟩
          · have hlast : o + (a - 1) ≤ 18446744073709551615 := (of_decide_eq_true hac).2.2.2
            have w2 : IntKind.u64.wrap (o + (a - 1)) = o + (a - 1) := by rw [IntKind.wrap_u64]; omega
            have p1 := HE2.out.c1
            have p2 := HE2.out.c2
            have p3 := HE2.out.c3
            go_wp2
            go_quiet (fail)
            go_wp2
            (try simp only [Exit.inBlock, Exit.then]); refine bodyPost_ret (results_tmp4 rfl _ _ _) rfl ?_
            exact ⟨by rw [HR.out, hac, e3]; rfl, below_drewN HB2.out _⟩)
end Go.Proofs.YtifbehkdhalfcaaDoor
