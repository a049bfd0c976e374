/-
  ClockLattice: the walk.
-/
import Derived.Test.YtajkenbcndmjpaaClJ
namespace Go.Proofs.Ytajkenbcndmjpaa
open Go.RowKit
set_option maxRecDepth 100000 in
set_option maxHeartbeats 20000000 in
theorem clockLattice {w : World} {va vb vc : Value} {A B C : List Tk} (ha : CL w va A) (hb : CL w vb B) (hc : CL w vc C) : Calls Try.prog 7 #[va, vb, vc] w fun e w' => e = .returned (.bool true) ∧ Below w.heap.size w w' := by
  have HAw := hide (awake_any w)
  have HA := hide ha
  have HB' := hide hb
  have HC := hide hc
  clear ha hb hc
  have HG : Hid (∀ W, Below w.heap.size w W → Calls Try.prog 27 #[va, vb, vc] W fun e w' => e = .returned (.bool (gd 0 A && (gd 0 B && gd 0 C))) ∧ Below W.heap.size W w') := hide (fun W hW => allgood_any (HA.out.below hW) (HB'.out.below hW) (HC.out.below hW))
  cases hg : (gd 0 A && (gd 0 B && gd 0 C)) with
  | true =>
    rw [hg] at HG
    simp only [Bool.and_eq_true] at hg
    have C_a : Hid (CV w va A) := hide ⟨HA.out, hg.1⟩
    have C_b : Hid (CV w vb B) := hide ⟨HB'.out, hg.2.1⟩
    have C_c : Hid (CV w vc C) := hide ⟨HC.out, hg.2.2⟩
    clear hg HA HB' HC
    go_enter Try.func7, Try.ntmps7
    go_wp2_with fail
    refine HAw.out.mono ?_
    rintro e w0 ⟨rfl, hb⟩
    have HB := hide hb
    replace C_a := hide (C_a.out.below hb)
    replace C_b := hide (C_b.out.below hb)
    replace C_c := hide (C_c.out.below hb)
    clear hb HAw
    go_wp2_with fail
    refine (HG.out _ HB.out).mono ?_
    rintro e w00 ⟨rfl, hb⟩
    replace C_a := hide (C_a.out.below hb)
    replace C_b := hide (C_b.out.below hb)
    replace C_c := hide (C_c.out.below hb)
    replace HB := hide (Below.on HB.out hb)
    clear hb HG
    go_wp2_with fail
    refine (cjoin_any C_a.out C_b.out).mono ?_
    rintro e w1 ⟨v_j, L_j, rfl, -, c9, t9, hb⟩
    replace C_a := hide (C_a.out.below hb)
    replace C_b := hide (C_b.out.below hb)
    replace C_c := hide (C_c.out.below hb)
    replace HB := hide (Below.on HB.out hb)
    have C_j := hide c9
    have T_j := hide t9
    clear c9 t9 hb
    go_wp2_with fail
    refine (cmeet_any C_a.out C_b.out).mono ?_
    rintro e w2 ⟨v_m, L_m, rfl, -, c9, t9, hb⟩
    replace C_a := hide (C_a.out.below hb)
    replace C_b := hide (C_b.out.below hb)
    replace C_c := hide (C_c.out.below hb)
    replace C_j := hide (C_j.out.below hb)
    replace HB := hide (Below.on HB.out hb)
    have C_m := hide c9
    have T_m := hide t9
    clear c9 t9 hb
    go_wp2_with fail
    refine (cjoin_any C_b.out C_a.out).mono ?_
    rintro e w3 ⟨v_x, L_x, rfl, -, c9, t9, hb⟩
    replace C_a := hide (C_a.out.below hb)
    replace C_b := hide (C_b.out.below hb)
    replace C_c := hide (C_c.out.below hb)
    replace C_j := hide (C_j.out.below hb)
    replace C_m := hide (C_m.out.below hb)
    replace HB := hide (Below.on HB.out hb)
    have C_x := hide c9
    have T_x := hide t9
    clear c9 t9 hb
    go_wp2_with fail
    refine (csameT_any C_j.out C_x.out (fun g => by have q0 := T_j.out g; have q1 := T_x.out g; omega)).mono ?_
    rintro e w4 ⟨rfl, hb⟩
    replace C_a := hide (C_a.out.below hb)
    replace C_b := hide (C_b.out.below hb)
    replace C_c := hide (C_c.out.below hb)
    replace C_j := hide (C_j.out.below hb)
    replace C_m := hide (C_m.out.below hb)
    replace C_x := hide (C_x.out.below hb)
    replace HB := hide (Below.on HB.out hb)
    clear hb
    clear C_x
    go_wp2_with fail
    refine (cmeet_any C_b.out C_a.out).mono ?_
    rintro e w5 ⟨v_y, L_y, rfl, -, c9, t9, hb⟩
    replace C_a := hide (C_a.out.below hb)
    replace C_b := hide (C_b.out.below hb)
    replace C_c := hide (C_c.out.below hb)
    replace C_j := hide (C_j.out.below hb)
    replace C_m := hide (C_m.out.below hb)
    replace HB := hide (Below.on HB.out hb)
    have C_y := hide c9
    have T_y := hide t9
    clear c9 t9 hb
    go_wp2_with fail
    refine (csameT_any C_m.out C_y.out (fun g => by have q0 := T_m.out g; have q1 := T_y.out g; omega)).mono ?_
    rintro e w6 ⟨rfl, hb⟩
    replace C_a := hide (C_a.out.below hb)
    replace C_b := hide (C_b.out.below hb)
    replace C_c := hide (C_c.out.below hb)
    replace C_j := hide (C_j.out.below hb)
    replace C_m := hide (C_m.out.below hb)
    replace C_y := hide (C_y.out.below hb)
    replace HB := hide (Below.on HB.out hb)
    clear hb
    clear C_y
    go_wp2_with fail
    refine (cjoin_any C_a.out C_a.out).mono ?_
    rintro e w7 ⟨v_x1, L_x1, rfl, -, c9, t9, hb⟩
    replace C_a := hide (C_a.out.below hb)
    replace C_b := hide (C_b.out.below hb)
    replace C_c := hide (C_c.out.below hb)
    replace C_j := hide (C_j.out.below hb)
    replace C_m := hide (C_m.out.below hb)
    replace HB := hide (Below.on HB.out hb)
    have C_x1 := hide c9
    have T_x1 := hide t9
    clear c9 t9 hb
    go_wp2_with fail
    refine (csameT_any C_x1.out C_a.out (fun g => by have q0 := T_x1.out g; omega)).mono ?_
    rintro e w8 ⟨rfl, hb⟩
    replace C_a := hide (C_a.out.below hb)
    replace C_b := hide (C_b.out.below hb)
    replace C_c := hide (C_c.out.below hb)
    replace C_j := hide (C_j.out.below hb)
    replace C_m := hide (C_m.out.below hb)
    replace C_x1 := hide (C_x1.out.below hb)
    replace HB := hide (Below.on HB.out hb)
    clear hb
    clear C_x1
    go_wp2_with fail
    refine (cmeet_any C_a.out C_a.out).mono ?_
    rintro e w9 ⟨v_x2, L_x2, rfl, -, c9, t9, hb⟩
    replace C_a := hide (C_a.out.below hb)
    replace C_b := hide (C_b.out.below hb)
    replace C_c := hide (C_c.out.below hb)
    replace C_j := hide (C_j.out.below hb)
    replace C_m := hide (C_m.out.below hb)
    replace HB := hide (Below.on HB.out hb)
    have C_x2 := hide c9
    have T_x2 := hide t9
    clear c9 t9 hb
    go_wp2_with fail
    refine (csameT_any C_x2.out C_a.out (fun g => by have q0 := T_x2.out g; omega)).mono ?_
    rintro e w10 ⟨rfl, hb⟩
    replace C_a := hide (C_a.out.below hb)
    replace C_b := hide (C_b.out.below hb)
    replace C_c := hide (C_c.out.below hb)
    replace C_j := hide (C_j.out.below hb)
    replace C_m := hide (C_m.out.below hb)
    replace C_x2 := hide (C_x2.out.below hb)
    replace HB := hide (Below.on HB.out hb)
    clear hb
    clear C_x2
    go_wp2_with fail
    refine (cjoin_any C_j.out C_c.out).mono ?_
    rintro e w11 ⟨v_x3, L_x3, rfl, -, c9, t9, hb⟩
    replace C_a := hide (C_a.out.below hb)
    replace C_b := hide (C_b.out.below hb)
    replace C_c := hide (C_c.out.below hb)
    replace C_j := hide (C_j.out.below hb)
    replace C_m := hide (C_m.out.below hb)
    replace HB := hide (Below.on HB.out hb)
    have C_x3 := hide c9
    have T_x3 := hide t9
    clear c9 t9 hb
    go_wp2_with fail
    refine (cjoin_any C_b.out C_c.out).mono ?_
    rintro e w12 ⟨v_x4, L_x4, rfl, -, c9, t9, hb⟩
    replace C_a := hide (C_a.out.below hb)
    replace C_b := hide (C_b.out.below hb)
    replace C_c := hide (C_c.out.below hb)
    replace C_j := hide (C_j.out.below hb)
    replace C_m := hide (C_m.out.below hb)
    replace C_x3 := hide (C_x3.out.below hb)
    replace HB := hide (Below.on HB.out hb)
    have C_x4 := hide c9
    have T_x4 := hide t9
    clear c9 t9 hb
    go_wp2_with fail
    refine (cjoin_any C_a.out C_x4.out).mono ?_
    rintro e w13 ⟨v_x5, L_x5, rfl, -, c9, t9, hb⟩
    replace C_a := hide (C_a.out.below hb)
    replace C_b := hide (C_b.out.below hb)
    replace C_c := hide (C_c.out.below hb)
    replace C_j := hide (C_j.out.below hb)
    replace C_m := hide (C_m.out.below hb)
    replace C_x3 := hide (C_x3.out.below hb)
    replace C_x4 := hide (C_x4.out.below hb)
    replace HB := hide (Below.on HB.out hb)
    have C_x5 := hide c9
    have T_x5 := hide t9
    clear c9 t9 hb
    go_wp2_with fail
    refine (csameT_any C_x3.out C_x5.out (fun g => by have q0 := T_j.out g; have q1 := T_x3.out g; have q2 := T_x4.out g; have q3 := T_x5.out g; omega)).mono ?_
    rintro e w14 ⟨rfl, hb⟩
    replace C_a := hide (C_a.out.below hb)
    replace C_b := hide (C_b.out.below hb)
    replace C_c := hide (C_c.out.below hb)
    replace C_j := hide (C_j.out.below hb)
    replace C_m := hide (C_m.out.below hb)
    replace C_x3 := hide (C_x3.out.below hb)
    replace C_x4 := hide (C_x4.out.below hb)
    replace C_x5 := hide (C_x5.out.below hb)
    replace HB := hide (Below.on HB.out hb)
    clear hb
    clear C_x3
    clear C_x4
    clear C_x5
    go_wp2_with fail
    refine (cmeet_any C_m.out C_c.out).mono ?_
    rintro e w15 ⟨v_x6, L_x6, rfl, -, c9, t9, hb⟩
    replace C_a := hide (C_a.out.below hb)
    replace C_b := hide (C_b.out.below hb)
    replace C_c := hide (C_c.out.below hb)
    replace C_j := hide (C_j.out.below hb)
    replace C_m := hide (C_m.out.below hb)
    replace HB := hide (Below.on HB.out hb)
    have C_x6 := hide c9
    have T_x6 := hide t9
    clear c9 t9 hb
    go_wp2_with fail
    refine (cmeet_any C_b.out C_c.out).mono ?_
    rintro e w16 ⟨v_x7, L_x7, rfl, -, c9, t9, hb⟩
    replace C_a := hide (C_a.out.below hb)
    replace C_b := hide (C_b.out.below hb)
    replace C_c := hide (C_c.out.below hb)
    replace C_j := hide (C_j.out.below hb)
    replace C_m := hide (C_m.out.below hb)
    replace C_x6 := hide (C_x6.out.below hb)
    replace HB := hide (Below.on HB.out hb)
    have C_x7 := hide c9
    have T_x7 := hide t9
    clear c9 t9 hb
    go_wp2_with fail
    refine (cmeet_any C_a.out C_x7.out).mono ?_
    rintro e w17 ⟨v_x8, L_x8, rfl, -, c9, t9, hb⟩
    replace C_a := hide (C_a.out.below hb)
    replace C_b := hide (C_b.out.below hb)
    replace C_c := hide (C_c.out.below hb)
    replace C_j := hide (C_j.out.below hb)
    replace C_m := hide (C_m.out.below hb)
    replace C_x6 := hide (C_x6.out.below hb)
    replace C_x7 := hide (C_x7.out.below hb)
    replace HB := hide (Below.on HB.out hb)
    have C_x8 := hide c9
    have T_x8 := hide t9
    clear c9 t9 hb
    go_wp2_with fail
    refine (csameT_any C_x6.out C_x8.out (fun g => by have q0 := T_m.out g; have q1 := T_x6.out g; have q2 := T_x7.out g; have q3 := T_x8.out g; omega)).mono ?_
    rintro e w18 ⟨rfl, hb⟩
    replace C_a := hide (C_a.out.below hb)
    replace C_b := hide (C_b.out.below hb)
    replace C_c := hide (C_c.out.below hb)
    replace C_j := hide (C_j.out.below hb)
    replace C_m := hide (C_m.out.below hb)
    replace C_x6 := hide (C_x6.out.below hb)
    replace C_x7 := hide (C_x7.out.below hb)
    replace C_x8 := hide (C_x8.out.below hb)
    replace HB := hide (Below.on HB.out hb)
    clear hb
    clear C_x6
    clear C_x7
    clear C_x8
    go_wp2_with fail
    refine (cjoin_any C_a.out C_m.out).mono ?_
    rintro e w19 ⟨v_x9, L_x9, rfl, -, c9, t9, hb⟩
    replace C_a := hide (C_a.out.below hb)
    replace C_b := hide (C_b.out.below hb)
    replace C_c := hide (C_c.out.below hb)
    replace C_j := hide (C_j.out.below hb)
    replace C_m := hide (C_m.out.below hb)
    replace HB := hide (Below.on HB.out hb)
    have C_x9 := hide c9
    have T_x9 := hide t9
    clear c9 t9 hb
    go_wp2_with fail
    refine (csameT_any C_x9.out C_a.out (fun g => by have q0 := T_m.out g; have q1 := T_x9.out g; omega)).mono ?_
    rintro e w20 ⟨rfl, hb⟩
    replace C_a := hide (C_a.out.below hb)
    replace C_b := hide (C_b.out.below hb)
    replace C_c := hide (C_c.out.below hb)
    replace C_j := hide (C_j.out.below hb)
    replace C_m := hide (C_m.out.below hb)
    replace C_x9 := hide (C_x9.out.below hb)
    replace HB := hide (Below.on HB.out hb)
    clear hb
    clear C_x9
    go_wp2_with fail
    refine (cmeet_any C_a.out C_j.out).mono ?_
    rintro e w21 ⟨v_y1, L_y1, rfl, -, c9, t9, hb⟩
    replace C_a := hide (C_a.out.below hb)
    replace C_b := hide (C_b.out.below hb)
    replace C_c := hide (C_c.out.below hb)
    replace C_j := hide (C_j.out.below hb)
    replace C_m := hide (C_m.out.below hb)
    replace HB := hide (Below.on HB.out hb)
    have C_y1 := hide c9
    have T_y1 := hide t9
    clear c9 t9 hb
    go_wp2_with fail
    refine (csameT_any C_y1.out C_a.out (fun g => by have q0 := T_j.out g; have q1 := T_y1.out g; omega)).mono ?_
    rintro e w22 ⟨rfl, hb⟩
    replace C_a := hide (C_a.out.below hb)
    replace C_b := hide (C_b.out.below hb)
    replace C_c := hide (C_c.out.below hb)
    replace C_j := hide (C_j.out.below hb)
    replace C_m := hide (C_m.out.below hb)
    replace C_y1 := hide (C_y1.out.below hb)
    replace HB := hide (Below.on HB.out hb)
    clear hb
    clear C_y1
    go_wp2_with fail
    refine (cgood_any C_j.out.cl).mono ?_
    rintro e w23 ⟨rfl, hb⟩
    replace C_a := hide (C_a.out.below hb)
    replace C_b := hide (C_b.out.below hb)
    replace C_c := hide (C_c.out.below hb)
    replace C_j := hide (C_j.out.below hb)
    replace C_m := hide (C_m.out.below hb)
    replace HB := hide (Below.on HB.out hb)
    rw [C_j.out.gd]
    clear hb
    go_wp2_with fail
    refine (cgood_any C_m.out.cl).mono ?_
    rintro e w24 ⟨rfl, hb⟩
    replace C_a := hide (C_a.out.below hb)
    replace C_b := hide (C_b.out.below hb)
    replace C_c := hide (C_c.out.below hb)
    replace C_j := hide (C_j.out.below hb)
    replace C_m := hide (C_m.out.below hb)
    replace HB := hide (Below.on HB.out hb)
    rw [C_m.out.gd]
    clear hb
    go_wp2_with fail
    refine (cjoin_any C_b.out C_c.out).mono ?_
    rintro e w25 ⟨v_y2, L_y2, rfl, -, c9, t9, hb⟩
    replace C_a := hide (C_a.out.below hb)
    replace C_b := hide (C_b.out.below hb)
    replace C_c := hide (C_c.out.below hb)
    replace C_j := hide (C_j.out.below hb)
    replace C_m := hide (C_m.out.below hb)
    replace HB := hide (Below.on HB.out hb)
    have C_y2 := hide c9
    have T_y2 := hide t9
    clear c9 t9 hb
    go_wp2_with fail
    refine (cmeet_any C_a.out C_y2.out).mono ?_
    rintro e w26 ⟨v_y3, L_y3, rfl, -, c9, t9, hb⟩
    replace C_a := hide (C_a.out.below hb)
    replace C_b := hide (C_b.out.below hb)
    replace C_c := hide (C_c.out.below hb)
    replace C_j := hide (C_j.out.below hb)
    replace C_m := hide (C_m.out.below hb)
    replace C_y2 := hide (C_y2.out.below hb)
    replace HB := hide (Below.on HB.out hb)
    have C_y3 := hide c9
    have T_y3 := hide t9
    clear c9 t9 hb
    go_wp2_with fail
    refine (cmeet_any C_a.out C_c.out).mono ?_
    rintro e w27 ⟨v_y4, L_y4, rfl, -, c9, t9, hb⟩
    replace C_a := hide (C_a.out.below hb)
    replace C_b := hide (C_b.out.below hb)
    replace C_c := hide (C_c.out.below hb)
    replace C_j := hide (C_j.out.below hb)
    replace C_m := hide (C_m.out.below hb)
    replace C_y2 := hide (C_y2.out.below hb)
    replace C_y3 := hide (C_y3.out.below hb)
    replace HB := hide (Below.on HB.out hb)
    have C_y4 := hide c9
    have T_y4 := hide t9
    clear c9 t9 hb
    go_wp2_with fail
    refine (cjoin_any C_m.out C_y4.out).mono ?_
    rintro e w28 ⟨v_y5, L_y5, rfl, -, c9, t9, hb⟩
    replace C_a := hide (C_a.out.below hb)
    replace C_b := hide (C_b.out.below hb)
    replace C_c := hide (C_c.out.below hb)
    replace C_j := hide (C_j.out.below hb)
    replace C_m := hide (C_m.out.below hb)
    replace C_y2 := hide (C_y2.out.below hb)
    replace C_y3 := hide (C_y3.out.below hb)
    replace C_y4 := hide (C_y4.out.below hb)
    replace HB := hide (Below.on HB.out hb)
    have C_y5 := hide c9
    have T_y5 := hide t9
    clear c9 t9 hb
    go_wp2_with fail
    refine (csameT_any C_y3.out C_y5.out (fun g => by have q0 := T_m.out g; have q1 := T_y2.out g; have q2 := T_y3.out g; have q3 := T_y4.out g; have q4 := T_y5.out g; omega)).mono ?_
    rintro e w29 ⟨rfl, hb⟩
    replace C_a := hide (C_a.out.below hb)
    replace C_b := hide (C_b.out.below hb)
    replace C_c := hide (C_c.out.below hb)
    replace C_j := hide (C_j.out.below hb)
    replace C_m := hide (C_m.out.below hb)
    replace C_y2 := hide (C_y2.out.below hb)
    replace C_y3 := hide (C_y3.out.below hb)
    replace C_y4 := hide (C_y4.out.below hb)
    replace C_y5 := hide (C_y5.out.below hb)
    replace HB := hide (Below.on HB.out hb)
    clear hb
    clear C_y2
    clear C_y3
    clear C_y4
    clear C_y5
    go_wp2_with fail
    refine (cmeet_any C_b.out C_c.out).mono ?_
    rintro e w30 ⟨v_z2, L_z2, rfl, -, c9, t9, hb⟩
    replace C_a := hide (C_a.out.below hb)
    replace C_b := hide (C_b.out.below hb)
    replace C_c := hide (C_c.out.below hb)
    replace C_j := hide (C_j.out.below hb)
    replace C_m := hide (C_m.out.below hb)
    replace HB := hide (Below.on HB.out hb)
    have C_z2 := hide c9
    have T_z2 := hide t9
    clear c9 t9 hb
    go_wp2_with fail
    refine (cjoin_any C_a.out C_z2.out).mono ?_
    rintro e w31 ⟨v_z3, L_z3, rfl, -, c9, t9, hb⟩
    replace C_a := hide (C_a.out.below hb)
    replace C_b := hide (C_b.out.below hb)
    replace C_c := hide (C_c.out.below hb)
    replace C_j := hide (C_j.out.below hb)
    replace C_m := hide (C_m.out.below hb)
    replace C_z2 := hide (C_z2.out.below hb)
    replace HB := hide (Below.on HB.out hb)
    have C_z3 := hide c9
    have T_z3 := hide t9
    clear c9 t9 hb
    go_wp2_with fail
    refine (cjoin_any C_a.out C_c.out).mono ?_
    rintro e w32 ⟨v_z4, L_z4, rfl, -, c9, t9, hb⟩
    replace C_a := hide (C_a.out.below hb)
    replace C_b := hide (C_b.out.below hb)
    replace C_c := hide (C_c.out.below hb)
    replace C_j := hide (C_j.out.below hb)
    replace C_m := hide (C_m.out.below hb)
    replace C_z2 := hide (C_z2.out.below hb)
    replace C_z3 := hide (C_z3.out.below hb)
    replace HB := hide (Below.on HB.out hb)
    have C_z4 := hide c9
    have T_z4 := hide t9
    clear c9 t9 hb
    go_wp2_with fail
    refine (cmeet_any C_j.out C_z4.out).mono ?_
    rintro e w33 ⟨v_z5, L_z5, rfl, -, c9, t9, hb⟩
    replace C_a := hide (C_a.out.below hb)
    replace C_b := hide (C_b.out.below hb)
    replace C_c := hide (C_c.out.below hb)
    replace C_j := hide (C_j.out.below hb)
    replace C_m := hide (C_m.out.below hb)
    replace C_z2 := hide (C_z2.out.below hb)
    replace C_z3 := hide (C_z3.out.below hb)
    replace C_z4 := hide (C_z4.out.below hb)
    replace HB := hide (Below.on HB.out hb)
    have C_z5 := hide c9
    have T_z5 := hide t9
    clear c9 t9 hb
    go_wp2_with fail
    refine (csameT_any C_z3.out C_z5.out (fun g => by have q0 := T_j.out g; have q1 := T_z2.out g; have q2 := T_z3.out g; have q3 := T_z4.out g; have q4 := T_z5.out g; omega)).mono ?_
    rintro e w34 ⟨rfl, hb⟩
    replace C_a := hide (C_a.out.below hb)
    replace C_b := hide (C_b.out.below hb)
    replace C_c := hide (C_c.out.below hb)
    replace C_j := hide (C_j.out.below hb)
    replace C_m := hide (C_m.out.below hb)
    replace C_z2 := hide (C_z2.out.below hb)
    replace C_z3 := hide (C_z3.out.below hb)
    replace C_z4 := hide (C_z4.out.below hb)
    replace C_z5 := hide (C_z5.out.below hb)
    replace HB := hide (Below.on HB.out hb)
    clear hb
    go_wp2
    go_ret
    exact ⟨rfl, HB.out⟩
  | false =>
    rw [hg] at HG
    have H1 := hide (fun W (hW : Below w.heap.size w W) => cgood_any (HA.out.below hW))
    have H2 := hide (fun W (hW : Below w.heap.size w W) => cgood_any (HB'.out.below hW))
    clear hg HC
    have hpre : ∀ x y, gd 0 A = x → gd 0 B = y → x = true ∧ y = true ∨ ((x = false ∨ y = false) ∧ (gd 0 A = false ∨ gd 0 B = false)) := fun x y h1 h2 => by
      cases x <;> cases y <;> simp [h1, h2]
    obtain ⟨x, hx⟩ : ∃ x, gd 0 A = x := ⟨_, rfl⟩
    obtain ⟨y, hy⟩ : ∃ y, gd 0 B = y := ⟨_, rfl⟩
    have hxy := hpre x y hx hy
    rw [hx] at H1
    rw [hy] at H2
    have HX := hide (And.intro hx hy)
    clear hpre hx hy
    rcases hxy with ⟨rfl, rfl⟩ | ⟨hxy, hbad⟩
    · go_enter Try.func7, Try.ntmps7
      go_wp2_with fail
      refine HAw.out.mono ?_
      rintro e w0 ⟨rfl, hb⟩
      have HB := hide hb
      clear hb HAw
      go_wp2_with fail
      refine (HG.out _ HB.out).mono ?_
      rintro e w1 ⟨rfl, hb⟩
      replace HB := hide (Below.on HB.out hb)
      clear hb HG
      go_wp2_with fail
      refine (H1.out _ HB.out).mono ?_
      rintro e w2 ⟨rfl, hb⟩
      replace HB := hide (Below.on HB.out hb)
      clear hb
      go_wp2_with fail
      refine (H2.out _ HB.out).mono ?_
      rintro e w3 ⟨rfl, hb⟩
      replace HB := hide (Below.on HB.out hb)
      clear hb
      go_wp2
      go_ret
      exact ⟨rfl, HB.out⟩
    · have H3 := hide (fun W (hW : Below w.heap.size w W) => refused_any (HA.out.below hW) (HB'.out.below hW) hbad)
      have H4 := hide (fun W (hW : Below w.heap.size w W) => refused_any (HB'.out.below hW) (HA.out.below hW) hbad.symm)
      clear hbad HX
      have hxy2 : (x = false ∧ y = y) ∨ (x = true ∧ y = false) := by cases x <;> simp at hxy ⊢; exact hxy
      clear hxy
      rcases hxy2 with ⟨rfl, -⟩ | ⟨rfl, rfl⟩
      all_goals
        go_enter Try.func7, Try.ntmps7
        go_wp2_with fail
        refine HAw.out.mono ?_
        rintro e w0 ⟨rfl, hb⟩
        have HB := hide hb
        clear hb HAw
        go_wp2_with fail
        refine (HG.out _ HB.out).mono ?_
        rintro e w1 ⟨rfl, hb⟩
        replace HB := hide (Below.on HB.out hb)
        clear hb HG
        go_wp2_with fail
        refine (H1.out _ HB.out).mono ?_
        rintro e w2 ⟨rfl, hb⟩
        replace HB := hide (Below.on HB.out hb)
        clear hb
        go_wp2_with fail
        refine (H2.out _ HB.out).mono ?_
        rintro e w3 ⟨rfl, hb⟩
        replace HB := hide (Below.on HB.out hb)
        clear hb
        go_wp2_with fail
        refine (H3.out _ HB.out).mono ?_
        rintro e w4 ⟨rfl, hb⟩
        replace HB := hide (Below.on HB.out hb)
        clear hb
        go_wp2_with fail
        refine (H4.out _ HB.out).mono ?_
        rintro e w5 ⟨rfl, hb⟩
        replace HB := hide (Below.on HB.out hb)
        clear hb
        go_wp2
        go_ret
        exact ⟨rfl, HB.out⟩
end Go.Proofs.Ytajkenbcndmjpaa
