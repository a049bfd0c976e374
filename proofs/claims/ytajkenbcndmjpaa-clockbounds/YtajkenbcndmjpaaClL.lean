/-
  ClockBounds: the walk.
-/
import Derived.Test.YtajkenbcndmjpaaClJ
namespace Go.Proofs.Ytajkenbcndmjpaa
open Go.RowKit
theorem bool_eq {x y : Bool} (h : x = true ↔ y = true) : x = y := by cases x <;> cases y <;> simp_all
theorem leB_refl {a : List Tk} (ha : gd 0 a = true) : leB a a = true := (leB_iff ha ha).2 fun _ => Int.le_refl _
theorem leB_nil {a : List Tk} : leB [] a = true := rfl
theorem leB_trans {a b c : List Tk} (ha : gd 0 a = true) (hb : gd 0 b = true) (hc : gd 0 c = true) (h1 : leB a b = true) (h2 : leB b c = true) : leB a c = true :=
  (leB_iff ha hc).2 fun g => Int.le_trans ((leB_iff ha hb).1 h1 g) ((leB_iff hb hc).1 h2 g)
theorem eqB {a b : List Tk} (ha : gd 0 a = true) (hb : gd 0 b = true) : decide (a = b) = (leB a b && leB b a) := by
  apply bool_eq
  rw [decide_eq_true_eq, Bool.and_eq_true, leB_iff ha hb, leB_iff hb ha]
  constructor
  · rintro rfl; exact ⟨fun _ => Int.le_refl _, fun _ => Int.le_refl _⟩
  · rintro ⟨h1, h2⟩; exact tm_ext ha hb fun g => Int.le_antisymm (h1 g) (h2 g)
theorem eqJ {a b j : List Tk} (ha : gd 0 a = true) (hb : gd 0 b = true) (hj : gd 0 j = true) (ht : ∀ g, tm g j = max (tm g a) (tm g b)) : decide (j = b) = leB a b := by
  apply bool_eq
  rw [decide_eq_true_eq, leB_iff ha hb]
  constructor
  · rintro rfl g; have := ht g; omega
  · intro h; exact tm_ext hj hb fun g => by have := ht g; have := h g; omega
theorem eqM {a b m : List Tk} (ha : gd 0 a = true) (hb : gd 0 b = true) (hm : gd 0 m = true) (ht : ∀ g, tm g m = min (tm g a) (tm g b)) : decide (m = a) = leB a b := by
  apply bool_eq
  rw [decide_eq_true_eq, leB_iff ha hb]
  constructor
  · rintro rfl g; have := ht g; omega
  · intro h; exact tm_ext hm ha fun g => by have := ht g; have := h g; omega
theorem leJ {a b c j : List Tk} (ha : gd 0 a = true) (hb : gd 0 b = true) (hc : gd 0 c = true) (hj : gd 0 j = true) (ht : ∀ g, tm g j = max (tm g a) (tm g b)) : leB j c = (leB a c && leB b c) := by
  apply bool_eq
  rw [Bool.and_eq_true, leB_iff hj hc, leB_iff ha hc, leB_iff hb hc]
  constructor
  · intro h; exact ⟨fun g => by have := ht g; have := h g; omega, fun g => by have := ht g; have := h g; omega⟩
  · rintro ⟨h1, h2⟩ g; have := ht g; have := h1 g; have := h2 g; omega
theorem leM {a b c m : List Tk} (ha : gd 0 a = true) (hb : gd 0 b = true) (hc : gd 0 c = true) (hm : gd 0 m = true) (ht : ∀ g, tm g m = min (tm g a) (tm g b)) : leB c m = (leB c a && leB c b) := by
  apply bool_eq
  rw [Bool.and_eq_true, leB_iff hc hm, leB_iff hc ha, leB_iff hc hb]
  constructor
  · intro h; exact ⟨fun g => by have := ht g; have := h g; omega, fun g => by have := ht g; have := h g; omega⟩
  · rintro ⟨h1, h2⟩ g; have := ht g; have := h1 g; have := h2 g; omega
theorem leAJ {a b j : List Tk} (ha : gd 0 a = true) (_hb : gd 0 b = true) (hj : gd 0 j = true) (ht : ∀ g, tm g j = max (tm g a) (tm g b)) : leB a j = true := (leB_iff ha hj).2 fun g => by have := ht g; omega
theorem leMA {a b m : List Tk} (ha : gd 0 a = true) (_hb : gd 0 b = true) (hm : gd 0 m = true) (ht : ∀ g, tm g m = min (tm g a) (tm g b)) : leB m a = true := (leB_iff hm ha).2 fun g => by have := ht g; omega
set_option maxRecDepth 100000 in
set_option maxHeartbeats 40000000 in
theorem bounds_tt {w : World} {va vb vc : Value} {A B C : List Tk} (ca : CV w va A) (cb : CV w vb B) (cc : CV w vc C) (hx : leB A B = true) (hy : leB B A = true) : Calls Try.prog 8 #[va, vb, vc] w fun e w' => e = .returned (.bool true) ∧ Below w.heap.size w w' := by
  have HAw := hide (awake_any w)
  have HN := hide (fun W => num_any 0 W)
  have HG : Hid (∀ W, Below w.heap.size w W → Calls Try.prog 27 #[va, vb, vc] W fun e w' => e = .returned (.bool true) ∧ Below W.heap.size W w') := hide (fun W hW => by
    have h := allgood_any (ca.cl.below hW) (cb.cl.below hW) (cc.cl.below hW)
    rw [ca.gd, cb.gd, cc.gd] at h
    exact h)
  obtain ⟨p, hp⟩ : ∃ p, leB B C = p := ⟨_, rfl⟩
  obtain ⟨q, hq⟩ : ∃ q, leB A C = q := ⟨_, rfl⟩
  obtain ⟨r, hr⟩ : ∃ r, leB C A = r := ⟨_, rfl⟩
  obtain ⟨s, hs⟩ : ∃ s, leB C B = s := ⟨_, rfl⟩
  have HX := hide hx
  have HY := hide hy
  have HP := hide hp
  have HQ := hide hq
  have HR := hide hr
  have HS := hide hs
  have C_a := hide ca
  have C_b := hide cb
  have C_c := hide cc
  clear ca cb cc hx hy hp hq hr hs
  go_enter Try.func8, Try.ntmps8
  go_wp2_with fail
  refine HAw.out.mono ?_
  rintro e w0 ⟨rfl, hb⟩
  have HB := hide hb
  replace C_a := hide (C_a.out.below hb)
  replace C_b := hide (C_b.out.below hb)
  replace C_c := hide (C_c.out.below hb)
  clear hb HAw
  go_wp2_with fail
  refine (HG.out _ HB.out).mono ?_
  rintro e w00 ⟨rfl, hb⟩
  replace C_a := hide (C_a.out.below hb)
  replace C_b := hide (C_b.out.below hb)
  replace C_c := hide (C_c.out.below hb)
  replace HB := hide (Below.on HB.out hb)
  clear hb HG
  go_wp2_with fail
  refine (cleq_any C_a.out C_b.out).mono ?_
  rintro e w9 ⟨rfl, hb⟩
  rw [HX.out]
  replace C_a := hide (C_a.out.below hb)
  replace C_b := hide (C_b.out.below hb)
  replace C_c := hide (C_c.out.below hb)
  replace HB := hide (Below.on HB.out hb)
  clear hb
  go_wp2_with fail
  refine (cleq_any C_b.out C_a.out).mono ?_
  rintro e w9 ⟨rfl, hb⟩
  rw [HY.out]
  replace C_a := hide (C_a.out.below hb)
  replace C_b := hide (C_b.out.below hb)
  replace C_c := hide (C_c.out.below hb)
  replace HB := hide (Below.on HB.out hb)
  clear hb
  go_wp2_with fail
  refine (capartP_any C_a.out C_b.out).mono ?_
  rintro e w9 ⟨rfl, hb⟩
  rw [HX.out, HY.out]
  replace C_a := hide (C_a.out.below hb)
  replace C_b := hide (C_b.out.below hb)
  replace C_c := hide (C_c.out.below hb)
  replace HB := hide (Below.on HB.out hb)
  clear hb
  go_wp2_with fail
  refine (HN.out _).mono ?_
  rintro e w9 ⟨rfl, hw⟩
  rw [hw]
  clear hw w9
  go_wp2_with fail
  refine (csame_any C_a.out.cl C_b.out.cl).mono ?_
  rintro e w9 ⟨rfl, hb⟩
  rw [eqB C_a.out.gd C_b.out.gd, HX.out, HY.out]
  replace C_a := hide (C_a.out.below hb)
  replace C_b := hide (C_b.out.below hb)
  replace C_c := hide (C_c.out.below hb)
  replace HB := hide (Below.on HB.out hb)
  clear hb
  go_wp2_with fail
  refine (cleq_any C_a.out C_a.out).mono ?_
  rintro e w9 ⟨rfl, hb⟩
  rw [leB_refl C_a.out.gd]
  replace C_a := hide (C_a.out.below hb)
  replace C_b := hide (C_b.out.below hb)
  replace C_c := hide (C_c.out.below hb)
  replace HB := hide (Below.on HB.out hb)
  clear hb
  go_wp2_with fail
  refine (cleq_any (CV.nil _) C_a.out).mono ?_
  rintro e w9 ⟨rfl, hb⟩
  rw [leB_nil]
  replace C_a := hide (C_a.out.below hb)
  replace C_b := hide (C_b.out.below hb)
  replace C_c := hide (C_c.out.below hb)
  replace HB := hide (Below.on HB.out hb)
  clear hb
  go_wp2_with fail
  refine (cleq_any C_b.out C_c.out).mono ?_
  rintro e w9 ⟨rfl, hb⟩
  rw [HP.out]
  replace C_a := hide (C_a.out.below hb)
  replace C_b := hide (C_b.out.below hb)
  replace C_c := hide (C_c.out.below hb)
  replace HB := hide (Below.on HB.out hb)
  clear hb
  cases p with
  | true =>
    obtain rfl : q = true := by rw [← HQ.out]; exact leB_trans C_a.out.gd C_b.out.gd C_c.out.gd HX.out HP.out
    go_wp2_with fail
    refine (cleq_any C_a.out C_c.out).mono ?_
    rintro e w9 ⟨rfl, hb⟩
    rw [HQ.out]
    replace C_a := hide (C_a.out.below hb)
    replace C_b := hide (C_b.out.below hb)
    replace C_c := hide (C_c.out.below hb)
    replace HB := hide (Below.on HB.out hb)
    clear hb
    go_wp2_with fail
    refine (cjoin_any C_a.out C_b.out).mono ?_
    rintro e w9 ⟨v_j, L_j, rfl, -, c9, t9, hb⟩
    replace C_a := hide (C_a.out.below hb)
    replace C_b := hide (C_b.out.below hb)
    replace C_c := hide (C_c.out.below hb)
    replace HB := hide (Below.on HB.out hb)
    clear hb
    have C_j := hide c9
    have T_j := hide t9
    clear c9 t9
    go_wp2_with fail
    refine (csame_any C_j.out.cl C_b.out.cl).mono ?_
    rintro e w9 ⟨rfl, hb⟩
    rw [eqJ C_a.out.gd C_b.out.gd C_j.out.gd T_j.out, HX.out]
    replace C_a := hide (C_a.out.below hb)
    replace C_b := hide (C_b.out.below hb)
    replace C_c := hide (C_c.out.below hb)
    replace C_j := hide (C_j.out.below hb)
    replace HB := hide (Below.on HB.out hb)
    clear hb
    clear C_j
    go_wp2_with fail
    refine (cmeet_any C_a.out C_b.out).mono ?_
    rintro e w9 ⟨v_m, L_m, rfl, -, c9, t9, hb⟩
    replace C_a := hide (C_a.out.below hb)
    replace C_b := hide (C_b.out.below hb)
    replace C_c := hide (C_c.out.below hb)
    replace HB := hide (Below.on HB.out hb)
    clear hb
    have C_m := hide c9
    have T_m := hide t9
    clear c9 t9
    go_wp2_with fail
    refine (csame_any C_m.out.cl C_a.out.cl).mono ?_
    rintro e w9 ⟨rfl, hb⟩
    rw [eqM C_a.out.gd C_b.out.gd C_m.out.gd T_m.out, HX.out]
    replace C_a := hide (C_a.out.below hb)
    replace C_b := hide (C_b.out.below hb)
    replace C_c := hide (C_c.out.below hb)
    replace C_m := hide (C_m.out.below hb)
    replace HB := hide (Below.on HB.out hb)
    clear hb
    clear C_m
    go_wp2_with fail
    refine (cleq_any C_a.out C_c.out).mono ?_
    rintro e w9 ⟨rfl, hb⟩
    rw [HQ.out]
    replace C_a := hide (C_a.out.below hb)
    replace C_b := hide (C_b.out.below hb)
    replace C_c := hide (C_c.out.below hb)
    replace HB := hide (Below.on HB.out hb)
    clear hb
    go_wp2_with fail
    refine (cleq_any C_b.out C_c.out).mono ?_
    rintro e w9 ⟨rfl, hb⟩
    rw [HP.out]
    replace C_a := hide (C_a.out.below hb)
    replace C_b := hide (C_b.out.below hb)
    replace C_c := hide (C_c.out.below hb)
    replace HB := hide (Below.on HB.out hb)
    clear hb
    go_wp2_with fail
    refine (cleq_any C_c.out C_a.out).mono ?_
    rintro e w9 ⟨rfl, hb⟩
    rw [HR.out]
    replace C_a := hide (C_a.out.below hb)
    replace C_b := hide (C_b.out.below hb)
    replace C_c := hide (C_c.out.below hb)
    replace HB := hide (Below.on HB.out hb)
    clear hb
    cases r with
    | true =>
      go_wp2_with fail
      refine (cleq_any C_c.out C_b.out).mono ?_
      rintro e w9 ⟨rfl, hb⟩
      rw [HS.out]
      replace C_a := hide (C_a.out.below hb)
      replace C_b := hide (C_b.out.below hb)
      replace C_c := hide (C_c.out.below hb)
      replace HB := hide (Below.on HB.out hb)
      clear hb
      go_wp2_with fail
      refine (cjoin_any C_a.out C_b.out).mono ?_
      rintro e w9 ⟨v_j, L_j, rfl, -, c9, t9, hb⟩
      replace C_a := hide (C_a.out.below hb)
      replace C_b := hide (C_b.out.below hb)
      replace C_c := hide (C_c.out.below hb)
      replace HB := hide (Below.on HB.out hb)
      clear hb
      have C_j := hide c9
      have T_j := hide t9
      clear c9 t9
      go_wp2_with fail
      refine (cleq_any C_j.out C_c.out).mono ?_
      rintro e w9 ⟨rfl, hb⟩
      rw [leJ C_a.out.gd C_b.out.gd C_c.out.gd C_j.out.gd T_j.out, HQ.out, HP.out]
      replace C_a := hide (C_a.out.below hb)
      replace C_b := hide (C_b.out.below hb)
      replace C_c := hide (C_c.out.below hb)
      replace C_j := hide (C_j.out.below hb)
      replace HB := hide (Below.on HB.out hb)
      clear hb
      clear C_j
      go_wp2_with fail
      refine (cmeet_any C_a.out C_b.out).mono ?_
      rintro e w9 ⟨v_m, L_m, rfl, -, c9, t9, hb⟩
      replace C_a := hide (C_a.out.below hb)
      replace C_b := hide (C_b.out.below hb)
      replace C_c := hide (C_c.out.below hb)
      replace HB := hide (Below.on HB.out hb)
      clear hb
      have C_m := hide c9
      have T_m := hide t9
      clear c9 t9
      go_wp2_with fail
      refine (cleq_any C_c.out C_m.out).mono ?_
      rintro e w9 ⟨rfl, hb⟩
      rw [leM C_a.out.gd C_b.out.gd C_c.out.gd C_m.out.gd T_m.out, HR.out, HS.out]
      replace C_a := hide (C_a.out.below hb)
      replace C_b := hide (C_b.out.below hb)
      replace C_c := hide (C_c.out.below hb)
      replace C_m := hide (C_m.out.below hb)
      replace HB := hide (Below.on HB.out hb)
      clear hb
      clear C_m
      go_wp2_with fail
      refine (cjoin_any C_a.out C_b.out).mono ?_
      rintro e w9 ⟨v_j, L_j, rfl, -, c9, t9, hb⟩
      replace C_a := hide (C_a.out.below hb)
      replace C_b := hide (C_b.out.below hb)
      replace C_c := hide (C_c.out.below hb)
      replace HB := hide (Below.on HB.out hb)
      clear hb
      have C_j := hide c9
      have T_j := hide t9
      clear c9 t9
      go_wp2_with fail
      refine (cleq_any C_a.out C_j.out).mono ?_
      rintro e w9 ⟨rfl, hb⟩
      rw [leAJ C_a.out.gd C_b.out.gd C_j.out.gd T_j.out]
      replace C_a := hide (C_a.out.below hb)
      replace C_b := hide (C_b.out.below hb)
      replace C_c := hide (C_c.out.below hb)
      replace C_j := hide (C_j.out.below hb)
      replace HB := hide (Below.on HB.out hb)
      clear hb
      clear C_j
      go_wp2_with fail
      refine (cmeet_any C_a.out C_b.out).mono ?_
      rintro e w9 ⟨v_m, L_m, rfl, -, c9, t9, hb⟩
      replace C_a := hide (C_a.out.below hb)
      replace C_b := hide (C_b.out.below hb)
      replace C_c := hide (C_c.out.below hb)
      replace HB := hide (Below.on HB.out hb)
      clear hb
      have C_m := hide c9
      have T_m := hide t9
      clear c9 t9
      go_wp2_with fail
      refine (cleq_any C_m.out C_a.out).mono ?_
      rintro e w9 ⟨rfl, hb⟩
      rw [leMA C_a.out.gd C_b.out.gd C_m.out.gd T_m.out]
      replace C_a := hide (C_a.out.below hb)
      replace C_b := hide (C_b.out.below hb)
      replace C_c := hide (C_c.out.below hb)
      replace C_m := hide (C_m.out.below hb)
      replace HB := hide (Below.on HB.out hb)
      clear hb
      go_wp2
      go_ret
      exact ⟨rfl, HB.out⟩
    | false =>
      go_wp2_with fail
      refine (cjoin_any C_a.out C_b.out).mono ?_
      rintro e w9 ⟨v_j, L_j, rfl, -, c9, t9, hb⟩
      replace C_a := hide (C_a.out.below hb)
      replace C_b := hide (C_b.out.below hb)
      replace C_c := hide (C_c.out.below hb)
      replace HB := hide (Below.on HB.out hb)
      clear hb
      have C_j := hide c9
      have T_j := hide t9
      clear c9 t9
      go_wp2_with fail
      refine (cleq_any C_j.out C_c.out).mono ?_
      rintro e w9 ⟨rfl, hb⟩
      rw [leJ C_a.out.gd C_b.out.gd C_c.out.gd C_j.out.gd T_j.out, HQ.out, HP.out]
      replace C_a := hide (C_a.out.below hb)
      replace C_b := hide (C_b.out.below hb)
      replace C_c := hide (C_c.out.below hb)
      replace C_j := hide (C_j.out.below hb)
      replace HB := hide (Below.on HB.out hb)
      clear hb
      clear C_j
      go_wp2_with fail
      refine (cmeet_any C_a.out C_b.out).mono ?_
      rintro e w9 ⟨v_m, L_m, rfl, -, c9, t9, hb⟩
      replace C_a := hide (C_a.out.below hb)
      replace C_b := hide (C_b.out.below hb)
      replace C_c := hide (C_c.out.below hb)
      replace HB := hide (Below.on HB.out hb)
      clear hb
      have C_m := hide c9
      have T_m := hide t9
      clear c9 t9
      go_wp2_with fail
      refine (cleq_any C_c.out C_m.out).mono ?_
      rintro e w9 ⟨rfl, hb⟩
      rw [leM C_a.out.gd C_b.out.gd C_c.out.gd C_m.out.gd T_m.out, HR.out, HS.out]
      replace C_a := hide (C_a.out.below hb)
      replace C_b := hide (C_b.out.below hb)
      replace C_c := hide (C_c.out.below hb)
      replace C_m := hide (C_m.out.below hb)
      replace HB := hide (Below.on HB.out hb)
      clear hb
      clear C_m
      go_wp2_with fail
      refine (cjoin_any C_a.out C_b.out).mono ?_
      rintro e w9 ⟨v_j, L_j, rfl, -, c9, t9, hb⟩
      replace C_a := hide (C_a.out.below hb)
      replace C_b := hide (C_b.out.below hb)
      replace C_c := hide (C_c.out.below hb)
      replace HB := hide (Below.on HB.out hb)
      clear hb
      have C_j := hide c9
      have T_j := hide t9
      clear c9 t9
      go_wp2_with fail
      refine (cleq_any C_a.out C_j.out).mono ?_
      rintro e w9 ⟨rfl, hb⟩
      rw [leAJ C_a.out.gd C_b.out.gd C_j.out.gd T_j.out]
      replace C_a := hide (C_a.out.below hb)
      replace C_b := hide (C_b.out.below hb)
      replace C_c := hide (C_c.out.below hb)
      replace C_j := hide (C_j.out.below hb)
      replace HB := hide (Below.on HB.out hb)
      clear hb
      clear C_j
      go_wp2_with fail
      refine (cmeet_any C_a.out C_b.out).mono ?_
      rintro e w9 ⟨v_m, L_m, rfl, -, c9, t9, hb⟩
      replace C_a := hide (C_a.out.below hb)
      replace C_b := hide (C_b.out.below hb)
      replace C_c := hide (C_c.out.below hb)
      replace HB := hide (Below.on HB.out hb)
      clear hb
      have C_m := hide c9
      have T_m := hide t9
      clear c9 t9
      go_wp2_with fail
      refine (cleq_any C_m.out C_a.out).mono ?_
      rintro e w9 ⟨rfl, hb⟩
      rw [leMA C_a.out.gd C_b.out.gd C_m.out.gd T_m.out]
      replace C_a := hide (C_a.out.below hb)
      replace C_b := hide (C_b.out.below hb)
      replace C_c := hide (C_c.out.below hb)
      replace C_m := hide (C_m.out.below hb)
      replace HB := hide (Below.on HB.out hb)
      clear hb
      go_wp2
      go_ret
      exact ⟨rfl, HB.out⟩
  | false =>
    go_wp2_with fail
    refine (cjoin_any C_a.out C_b.out).mono ?_
    rintro e w9 ⟨v_j, L_j, rfl, -, c9, t9, hb⟩
    replace C_a := hide (C_a.out.below hb)
    replace C_b := hide (C_b.out.below hb)
    replace C_c := hide (C_c.out.below hb)
    replace HB := hide (Below.on HB.out hb)
    clear hb
    have C_j := hide c9
    have T_j := hide t9
    clear c9 t9
    go_wp2_with fail
    refine (csame_any C_j.out.cl C_b.out.cl).mono ?_
    rintro e w9 ⟨rfl, hb⟩
    rw [eqJ C_a.out.gd C_b.out.gd C_j.out.gd T_j.out, HX.out]
    replace C_a := hide (C_a.out.below hb)
    replace C_b := hide (C_b.out.below hb)
    replace C_c := hide (C_c.out.below hb)
    replace C_j := hide (C_j.out.below hb)
    replace HB := hide (Below.on HB.out hb)
    clear hb
    clear C_j
    go_wp2_with fail
    refine (cmeet_any C_a.out C_b.out).mono ?_
    rintro e w9 ⟨v_m, L_m, rfl, -, c9, t9, hb⟩
    replace C_a := hide (C_a.out.below hb)
    replace C_b := hide (C_b.out.below hb)
    replace C_c := hide (C_c.out.below hb)
    replace HB := hide (Below.on HB.out hb)
    clear hb
    have C_m := hide c9
    have T_m := hide t9
    clear c9 t9
    go_wp2_with fail
    refine (csame_any C_m.out.cl C_a.out.cl).mono ?_
    rintro e w9 ⟨rfl, hb⟩
    rw [eqM C_a.out.gd C_b.out.gd C_m.out.gd T_m.out, HX.out]
    replace C_a := hide (C_a.out.below hb)
    replace C_b := hide (C_b.out.below hb)
    replace C_c := hide (C_c.out.below hb)
    replace C_m := hide (C_m.out.below hb)
    replace HB := hide (Below.on HB.out hb)
    clear hb
    clear C_m
    go_wp2_with fail
    refine (cleq_any C_a.out C_c.out).mono ?_
    rintro e w9 ⟨rfl, hb⟩
    rw [HQ.out]
    replace C_a := hide (C_a.out.below hb)
    replace C_b := hide (C_b.out.below hb)
    replace C_c := hide (C_c.out.below hb)
    replace HB := hide (Below.on HB.out hb)
    clear hb
    cases q with
    | true =>
      go_wp2_with fail
      refine (cleq_any C_b.out C_c.out).mono ?_
      rintro e w9 ⟨rfl, hb⟩
      rw [HP.out]
      replace C_a := hide (C_a.out.below hb)
      replace C_b := hide (C_b.out.below hb)
      replace C_c := hide (C_c.out.below hb)
      replace HB := hide (Below.on HB.out hb)
      clear hb
      go_wp2_with fail
      refine (cleq_any C_c.out C_a.out).mono ?_
      rintro e w9 ⟨rfl, hb⟩
      rw [HR.out]
      replace C_a := hide (C_a.out.below hb)
      replace C_b := hide (C_b.out.below hb)
      replace C_c := hide (C_c.out.below hb)
      replace HB := hide (Below.on HB.out hb)
      clear hb
      cases r with
      | true =>
        go_wp2_with fail
        refine (cleq_any C_c.out C_b.out).mono ?_
        rintro e w9 ⟨rfl, hb⟩
        rw [HS.out]
        replace C_a := hide (C_a.out.below hb)
        replace C_b := hide (C_b.out.below hb)
        replace C_c := hide (C_c.out.below hb)
        replace HB := hide (Below.on HB.out hb)
        clear hb
        go_wp2_with fail
        refine (cjoin_any C_a.out C_b.out).mono ?_
        rintro e w9 ⟨v_j, L_j, rfl, -, c9, t9, hb⟩
        replace C_a := hide (C_a.out.below hb)
        replace C_b := hide (C_b.out.below hb)
        replace C_c := hide (C_c.out.below hb)
        replace HB := hide (Below.on HB.out hb)
        clear hb
        have C_j := hide c9
        have T_j := hide t9
        clear c9 t9
        go_wp2_with fail
        refine (cleq_any C_j.out C_c.out).mono ?_
        rintro e w9 ⟨rfl, hb⟩
        rw [leJ C_a.out.gd C_b.out.gd C_c.out.gd C_j.out.gd T_j.out, HQ.out, HP.out]
        replace C_a := hide (C_a.out.below hb)
        replace C_b := hide (C_b.out.below hb)
        replace C_c := hide (C_c.out.below hb)
        replace C_j := hide (C_j.out.below hb)
        replace HB := hide (Below.on HB.out hb)
        clear hb
        clear C_j
        go_wp2_with fail
        refine (cmeet_any C_a.out C_b.out).mono ?_
        rintro e w9 ⟨v_m, L_m, rfl, -, c9, t9, hb⟩
        replace C_a := hide (C_a.out.below hb)
        replace C_b := hide (C_b.out.below hb)
        replace C_c := hide (C_c.out.below hb)
        replace HB := hide (Below.on HB.out hb)
        clear hb
        have C_m := hide c9
        have T_m := hide t9
        clear c9 t9
        go_wp2_with fail
        refine (cleq_any C_c.out C_m.out).mono ?_
        rintro e w9 ⟨rfl, hb⟩
        rw [leM C_a.out.gd C_b.out.gd C_c.out.gd C_m.out.gd T_m.out, HR.out, HS.out]
        replace C_a := hide (C_a.out.below hb)
        replace C_b := hide (C_b.out.below hb)
        replace C_c := hide (C_c.out.below hb)
        replace C_m := hide (C_m.out.below hb)
        replace HB := hide (Below.on HB.out hb)
        clear hb
        clear C_m
        go_wp2_with fail
        refine (cjoin_any C_a.out C_b.out).mono ?_
        rintro e w9 ⟨v_j, L_j, rfl, -, c9, t9, hb⟩
        replace C_a := hide (C_a.out.below hb)
        replace C_b := hide (C_b.out.below hb)
        replace C_c := hide (C_c.out.below hb)
        replace HB := hide (Below.on HB.out hb)
        clear hb
        have C_j := hide c9
        have T_j := hide t9
        clear c9 t9
        go_wp2_with fail
        refine (cleq_any C_a.out C_j.out).mono ?_
        rintro e w9 ⟨rfl, hb⟩
        rw [leAJ C_a.out.gd C_b.out.gd C_j.out.gd T_j.out]
        replace C_a := hide (C_a.out.below hb)
        replace C_b := hide (C_b.out.below hb)
        replace C_c := hide (C_c.out.below hb)
        replace C_j := hide (C_j.out.below hb)
        replace HB := hide (Below.on HB.out hb)
        clear hb
        clear C_j
        go_wp2_with fail
        refine (cmeet_any C_a.out C_b.out).mono ?_
        rintro e w9 ⟨v_m, L_m, rfl, -, c9, t9, hb⟩
        replace C_a := hide (C_a.out.below hb)
        replace C_b := hide (C_b.out.below hb)
        replace C_c := hide (C_c.out.below hb)
        replace HB := hide (Below.on HB.out hb)
        clear hb
        have C_m := hide c9
        have T_m := hide t9
        clear c9 t9
        go_wp2_with fail
        refine (cleq_any C_m.out C_a.out).mono ?_
        rintro e w9 ⟨rfl, hb⟩
        rw [leMA C_a.out.gd C_b.out.gd C_m.out.gd T_m.out]
        replace C_a := hide (C_a.out.below hb)
        replace C_b := hide (C_b.out.below hb)
        replace C_c := hide (C_c.out.below hb)
        replace C_m := hide (C_m.out.below hb)
        replace HB := hide (Below.on HB.out hb)
        clear hb
        go_wp2
        go_ret
        exact ⟨rfl, HB.out⟩
      | false =>
        go_wp2_with fail
        refine (cjoin_any C_a.out C_b.out).mono ?_
        rintro e w9 ⟨v_j, L_j, rfl, -, c9, t9, hb⟩
        replace C_a := hide (C_a.out.below hb)
        replace C_b := hide (C_b.out.below hb)
        replace C_c := hide (C_c.out.below hb)
        replace HB := hide (Below.on HB.out hb)
        clear hb
        have C_j := hide c9
        have T_j := hide t9
        clear c9 t9
        go_wp2_with fail
        refine (cleq_any C_j.out C_c.out).mono ?_
        rintro e w9 ⟨rfl, hb⟩
        rw [leJ C_a.out.gd C_b.out.gd C_c.out.gd C_j.out.gd T_j.out, HQ.out, HP.out]
        replace C_a := hide (C_a.out.below hb)
        replace C_b := hide (C_b.out.below hb)
        replace C_c := hide (C_c.out.below hb)
        replace C_j := hide (C_j.out.below hb)
        replace HB := hide (Below.on HB.out hb)
        clear hb
        clear C_j
        go_wp2_with fail
        refine (cmeet_any C_a.out C_b.out).mono ?_
        rintro e w9 ⟨v_m, L_m, rfl, -, c9, t9, hb⟩
        replace C_a := hide (C_a.out.below hb)
        replace C_b := hide (C_b.out.below hb)
        replace C_c := hide (C_c.out.below hb)
        replace HB := hide (Below.on HB.out hb)
        clear hb
        have C_m := hide c9
        have T_m := hide t9
        clear c9 t9
        go_wp2_with fail
        refine (cleq_any C_c.out C_m.out).mono ?_
        rintro e w9 ⟨rfl, hb⟩
        rw [leM C_a.out.gd C_b.out.gd C_c.out.gd C_m.out.gd T_m.out, HR.out, HS.out]
        replace C_a := hide (C_a.out.below hb)
        replace C_b := hide (C_b.out.below hb)
        replace C_c := hide (C_c.out.below hb)
        replace C_m := hide (C_m.out.below hb)
        replace HB := hide (Below.on HB.out hb)
        clear hb
        clear C_m
        go_wp2_with fail
        refine (cjoin_any C_a.out C_b.out).mono ?_
        rintro e w9 ⟨v_j, L_j, rfl, -, c9, t9, hb⟩
        replace C_a := hide (C_a.out.below hb)
        replace C_b := hide (C_b.out.below hb)
        replace C_c := hide (C_c.out.below hb)
        replace HB := hide (Below.on HB.out hb)
        clear hb
        have C_j := hide c9
        have T_j := hide t9
        clear c9 t9
        go_wp2_with fail
        refine (cleq_any C_a.out C_j.out).mono ?_
        rintro e w9 ⟨rfl, hb⟩
        rw [leAJ C_a.out.gd C_b.out.gd C_j.out.gd T_j.out]
        replace C_a := hide (C_a.out.below hb)
        replace C_b := hide (C_b.out.below hb)
        replace C_c := hide (C_c.out.below hb)
        replace C_j := hide (C_j.out.below hb)
        replace HB := hide (Below.on HB.out hb)
        clear hb
        clear C_j
        go_wp2_with fail
        refine (cmeet_any C_a.out C_b.out).mono ?_
        rintro e w9 ⟨v_m, L_m, rfl, -, c9, t9, hb⟩
        replace C_a := hide (C_a.out.below hb)
        replace C_b := hide (C_b.out.below hb)
        replace C_c := hide (C_c.out.below hb)
        replace HB := hide (Below.on HB.out hb)
        clear hb
        have C_m := hide c9
        have T_m := hide t9
        clear c9 t9
        go_wp2_with fail
        refine (cleq_any C_m.out C_a.out).mono ?_
        rintro e w9 ⟨rfl, hb⟩
        rw [leMA C_a.out.gd C_b.out.gd C_m.out.gd T_m.out]
        replace C_a := hide (C_a.out.below hb)
        replace C_b := hide (C_b.out.below hb)
        replace C_c := hide (C_c.out.below hb)
        replace C_m := hide (C_m.out.below hb)
        replace HB := hide (Below.on HB.out hb)
        clear hb
        go_wp2
        go_ret
        exact ⟨rfl, HB.out⟩
    | false =>
      go_wp2_with fail
      refine (cleq_any C_c.out C_a.out).mono ?_
      rintro e w9 ⟨rfl, hb⟩
      rw [HR.out]
      replace C_a := hide (C_a.out.below hb)
      replace C_b := hide (C_b.out.below hb)
      replace C_c := hide (C_c.out.below hb)
      replace HB := hide (Below.on HB.out hb)
      clear hb
      cases r with
      | true =>
        go_wp2_with fail
        refine (cleq_any C_c.out C_b.out).mono ?_
        rintro e w9 ⟨rfl, hb⟩
        rw [HS.out]
        replace C_a := hide (C_a.out.below hb)
        replace C_b := hide (C_b.out.below hb)
        replace C_c := hide (C_c.out.below hb)
        replace HB := hide (Below.on HB.out hb)
        clear hb
        go_wp2_with fail
        refine (cjoin_any C_a.out C_b.out).mono ?_
        rintro e w9 ⟨v_j, L_j, rfl, -, c9, t9, hb⟩
        replace C_a := hide (C_a.out.below hb)
        replace C_b := hide (C_b.out.below hb)
        replace C_c := hide (C_c.out.below hb)
        replace HB := hide (Below.on HB.out hb)
        clear hb
        have C_j := hide c9
        have T_j := hide t9
        clear c9 t9
        go_wp2_with fail
        refine (cleq_any C_j.out C_c.out).mono ?_
        rintro e w9 ⟨rfl, hb⟩
        rw [leJ C_a.out.gd C_b.out.gd C_c.out.gd C_j.out.gd T_j.out, HQ.out, HP.out]
        replace C_a := hide (C_a.out.below hb)
        replace C_b := hide (C_b.out.below hb)
        replace C_c := hide (C_c.out.below hb)
        replace C_j := hide (C_j.out.below hb)
        replace HB := hide (Below.on HB.out hb)
        clear hb
        clear C_j
        go_wp2_with fail
        refine (cmeet_any C_a.out C_b.out).mono ?_
        rintro e w9 ⟨v_m, L_m, rfl, -, c9, t9, hb⟩
        replace C_a := hide (C_a.out.below hb)
        replace C_b := hide (C_b.out.below hb)
        replace C_c := hide (C_c.out.below hb)
        replace HB := hide (Below.on HB.out hb)
        clear hb
        have C_m := hide c9
        have T_m := hide t9
        clear c9 t9
        go_wp2_with fail
        refine (cleq_any C_c.out C_m.out).mono ?_
        rintro e w9 ⟨rfl, hb⟩
        rw [leM C_a.out.gd C_b.out.gd C_c.out.gd C_m.out.gd T_m.out, HR.out, HS.out]
        replace C_a := hide (C_a.out.below hb)
        replace C_b := hide (C_b.out.below hb)
        replace C_c := hide (C_c.out.below hb)
        replace C_m := hide (C_m.out.below hb)
        replace HB := hide (Below.on HB.out hb)
        clear hb
        clear C_m
        go_wp2_with fail
        refine (cjoin_any C_a.out C_b.out).mono ?_
        rintro e w9 ⟨v_j, L_j, rfl, -, c9, t9, hb⟩
        replace C_a := hide (C_a.out.below hb)
        replace C_b := hide (C_b.out.below hb)
        replace C_c := hide (C_c.out.below hb)
        replace HB := hide (Below.on HB.out hb)
        clear hb
        have C_j := hide c9
        have T_j := hide t9
        clear c9 t9
        go_wp2_with fail
        refine (cleq_any C_a.out C_j.out).mono ?_
        rintro e w9 ⟨rfl, hb⟩
        rw [leAJ C_a.out.gd C_b.out.gd C_j.out.gd T_j.out]
        replace C_a := hide (C_a.out.below hb)
        replace C_b := hide (C_b.out.below hb)
        replace C_c := hide (C_c.out.below hb)
        replace C_j := hide (C_j.out.below hb)
        replace HB := hide (Below.on HB.out hb)
        clear hb
        clear C_j
        go_wp2_with fail
        refine (cmeet_any C_a.out C_b.out).mono ?_
        rintro e w9 ⟨v_m, L_m, rfl, -, c9, t9, hb⟩
        replace C_a := hide (C_a.out.below hb)
        replace C_b := hide (C_b.out.below hb)
        replace C_c := hide (C_c.out.below hb)
        replace HB := hide (Below.on HB.out hb)
        clear hb
        have C_m := hide c9
        have T_m := hide t9
        clear c9 t9
        go_wp2_with fail
        refine (cleq_any C_m.out C_a.out).mono ?_
        rintro e w9 ⟨rfl, hb⟩
        rw [leMA C_a.out.gd C_b.out.gd C_m.out.gd T_m.out]
        replace C_a := hide (C_a.out.below hb)
        replace C_b := hide (C_b.out.below hb)
        replace C_c := hide (C_c.out.below hb)
        replace C_m := hide (C_m.out.below hb)
        replace HB := hide (Below.on HB.out hb)
        clear hb
        go_wp2
        go_ret
        exact ⟨rfl, HB.out⟩
      | false =>
        go_wp2_with fail
        refine (cjoin_any C_a.out C_b.out).mono ?_
        rintro e w9 ⟨v_j, L_j, rfl, -, c9, t9, hb⟩
        replace C_a := hide (C_a.out.below hb)
        replace C_b := hide (C_b.out.below hb)
        replace C_c := hide (C_c.out.below hb)
        replace HB := hide (Below.on HB.out hb)
        clear hb
        have C_j := hide c9
        have T_j := hide t9
        clear c9 t9
        go_wp2_with fail
        refine (cleq_any C_j.out C_c.out).mono ?_
        rintro e w9 ⟨rfl, hb⟩
        rw [leJ C_a.out.gd C_b.out.gd C_c.out.gd C_j.out.gd T_j.out, HQ.out, HP.out]
        replace C_a := hide (C_a.out.below hb)
        replace C_b := hide (C_b.out.below hb)
        replace C_c := hide (C_c.out.below hb)
        replace C_j := hide (C_j.out.below hb)
        replace HB := hide (Below.on HB.out hb)
        clear hb
        clear C_j
        go_wp2_with fail
        refine (cmeet_any C_a.out C_b.out).mono ?_
        rintro e w9 ⟨v_m, L_m, rfl, -, c9, t9, hb⟩
        replace C_a := hide (C_a.out.below hb)
        replace C_b := hide (C_b.out.below hb)
        replace C_c := hide (C_c.out.below hb)
        replace HB := hide (Below.on HB.out hb)
        clear hb
        have C_m := hide c9
        have T_m := hide t9
        clear c9 t9
        go_wp2_with fail
        refine (cleq_any C_c.out C_m.out).mono ?_
        rintro e w9 ⟨rfl, hb⟩
        rw [leM C_a.out.gd C_b.out.gd C_c.out.gd C_m.out.gd T_m.out, HR.out, HS.out]
        replace C_a := hide (C_a.out.below hb)
        replace C_b := hide (C_b.out.below hb)
        replace C_c := hide (C_c.out.below hb)
        replace C_m := hide (C_m.out.below hb)
        replace HB := hide (Below.on HB.out hb)
        clear hb
        clear C_m
        go_wp2_with fail
        refine (cjoin_any C_a.out C_b.out).mono ?_
        rintro e w9 ⟨v_j, L_j, rfl, -, c9, t9, hb⟩
        replace C_a := hide (C_a.out.below hb)
        replace C_b := hide (C_b.out.below hb)
        replace C_c := hide (C_c.out.below hb)
        replace HB := hide (Below.on HB.out hb)
        clear hb
        have C_j := hide c9
        have T_j := hide t9
        clear c9 t9
        go_wp2_with fail
        refine (cleq_any C_a.out C_j.out).mono ?_
        rintro e w9 ⟨rfl, hb⟩
        rw [leAJ C_a.out.gd C_b.out.gd C_j.out.gd T_j.out]
        replace C_a := hide (C_a.out.below hb)
        replace C_b := hide (C_b.out.below hb)
        replace C_c := hide (C_c.out.below hb)
        replace C_j := hide (C_j.out.below hb)
        replace HB := hide (Below.on HB.out hb)
        clear hb
        clear C_j
        go_wp2_with fail
        refine (cmeet_any C_a.out C_b.out).mono ?_
        rintro e w9 ⟨v_m, L_m, rfl, -, c9, t9, hb⟩
        replace C_a := hide (C_a.out.below hb)
        replace C_b := hide (C_b.out.below hb)
        replace C_c := hide (C_c.out.below hb)
        replace HB := hide (Below.on HB.out hb)
        clear hb
        have C_m := hide c9
        have T_m := hide t9
        clear c9 t9
        go_wp2_with fail
        refine (cleq_any C_m.out C_a.out).mono ?_
        rintro e w9 ⟨rfl, hb⟩
        rw [leMA C_a.out.gd C_b.out.gd C_m.out.gd T_m.out]
        replace C_a := hide (C_a.out.below hb)
        replace C_b := hide (C_b.out.below hb)
        replace C_c := hide (C_c.out.below hb)
        replace C_m := hide (C_m.out.below hb)
        replace HB := hide (Below.on HB.out hb)
        clear hb
        go_wp2
        go_ret
        exact ⟨rfl, HB.out⟩
set_option maxRecDepth 100000 in
set_option maxHeartbeats 40000000 in
theorem bounds_tf {w : World} {va vb vc : Value} {A B C : List Tk} (ca : CV w va A) (cb : CV w vb B) (cc : CV w vc C) (hx : leB A B = true) (hy : leB B A = false) : Calls Try.prog 8 #[va, vb, vc] w fun e w' => e = .returned (.bool true) ∧ Below w.heap.size w w' := by
  have HAw := hide (awake_any w)
  have HN := hide (fun W => num_any 0 W)
  have HG : Hid (∀ W, Below w.heap.size w W → Calls Try.prog 27 #[va, vb, vc] W fun e w' => e = .returned (.bool true) ∧ Below W.heap.size W w') := hide (fun W hW => by
    have h := allgood_any (ca.cl.below hW) (cb.cl.below hW) (cc.cl.below hW)
    rw [ca.gd, cb.gd, cc.gd] at h
    exact h)
  obtain ⟨p, hp⟩ : ∃ p, leB B C = p := ⟨_, rfl⟩
  obtain ⟨q, hq⟩ : ∃ q, leB A C = q := ⟨_, rfl⟩
  obtain ⟨r, hr⟩ : ∃ r, leB C A = r := ⟨_, rfl⟩
  obtain ⟨s, hs⟩ : ∃ s, leB C B = s := ⟨_, rfl⟩
  have HX := hide hx
  have HY := hide hy
  have HP := hide hp
  have HQ := hide hq
  have HR := hide hr
  have HS := hide hs
  have C_a := hide ca
  have C_b := hide cb
  have C_c := hide cc
  clear ca cb cc hx hy hp hq hr hs
  go_enter Try.func8, Try.ntmps8
  go_wp2_with fail
  refine HAw.out.mono ?_
  rintro e w0 ⟨rfl, hb⟩
  have HB := hide hb
  replace C_a := hide (C_a.out.below hb)
  replace C_b := hide (C_b.out.below hb)
  replace C_c := hide (C_c.out.below hb)
  clear hb HAw
  go_wp2_with fail
  refine (HG.out _ HB.out).mono ?_
  rintro e w00 ⟨rfl, hb⟩
  replace C_a := hide (C_a.out.below hb)
  replace C_b := hide (C_b.out.below hb)
  replace C_c := hide (C_c.out.below hb)
  replace HB := hide (Below.on HB.out hb)
  clear hb HG
  go_wp2_with fail
  refine (cleq_any C_a.out C_b.out).mono ?_
  rintro e w9 ⟨rfl, hb⟩
  rw [HX.out]
  replace C_a := hide (C_a.out.below hb)
  replace C_b := hide (C_b.out.below hb)
  replace C_c := hide (C_c.out.below hb)
  replace HB := hide (Below.on HB.out hb)
  clear hb
  go_wp2_with fail
  refine (cleq_any C_b.out C_a.out).mono ?_
  rintro e w9 ⟨rfl, hb⟩
  rw [HY.out]
  replace C_a := hide (C_a.out.below hb)
  replace C_b := hide (C_b.out.below hb)
  replace C_c := hide (C_c.out.below hb)
  replace HB := hide (Below.on HB.out hb)
  clear hb
  go_wp2_with fail
  refine (capartP_any C_a.out C_b.out).mono ?_
  rintro e w9 ⟨rfl, hb⟩
  rw [HX.out, HY.out]
  replace C_a := hide (C_a.out.below hb)
  replace C_b := hide (C_b.out.below hb)
  replace C_c := hide (C_c.out.below hb)
  replace HB := hide (Below.on HB.out hb)
  clear hb
  go_wp2_with fail
  refine (HN.out _).mono ?_
  rintro e w9 ⟨rfl, hw⟩
  rw [hw]
  clear hw w9
  go_wp2_with fail
  refine (csame_any C_a.out.cl C_b.out.cl).mono ?_
  rintro e w9 ⟨rfl, hb⟩
  rw [eqB C_a.out.gd C_b.out.gd, HX.out, HY.out]
  replace C_a := hide (C_a.out.below hb)
  replace C_b := hide (C_b.out.below hb)
  replace C_c := hide (C_c.out.below hb)
  replace HB := hide (Below.on HB.out hb)
  clear hb
  go_wp2_with fail
  refine (cleq_any C_a.out C_a.out).mono ?_
  rintro e w9 ⟨rfl, hb⟩
  rw [leB_refl C_a.out.gd]
  replace C_a := hide (C_a.out.below hb)
  replace C_b := hide (C_b.out.below hb)
  replace C_c := hide (C_c.out.below hb)
  replace HB := hide (Below.on HB.out hb)
  clear hb
  go_wp2_with fail
  refine (cleq_any (CV.nil _) C_a.out).mono ?_
  rintro e w9 ⟨rfl, hb⟩
  rw [leB_nil]
  replace C_a := hide (C_a.out.below hb)
  replace C_b := hide (C_b.out.below hb)
  replace C_c := hide (C_c.out.below hb)
  replace HB := hide (Below.on HB.out hb)
  clear hb
  go_wp2_with fail
  refine (cleq_any C_b.out C_c.out).mono ?_
  rintro e w9 ⟨rfl, hb⟩
  rw [HP.out]
  replace C_a := hide (C_a.out.below hb)
  replace C_b := hide (C_b.out.below hb)
  replace C_c := hide (C_c.out.below hb)
  replace HB := hide (Below.on HB.out hb)
  clear hb
  cases p with
  | true =>
    obtain rfl : q = true := by rw [← HQ.out]; exact leB_trans C_a.out.gd C_b.out.gd C_c.out.gd HX.out HP.out
    go_wp2_with fail
    refine (cleq_any C_a.out C_c.out).mono ?_
    rintro e w9 ⟨rfl, hb⟩
    rw [HQ.out]
    replace C_a := hide (C_a.out.below hb)
    replace C_b := hide (C_b.out.below hb)
    replace C_c := hide (C_c.out.below hb)
    replace HB := hide (Below.on HB.out hb)
    clear hb
    go_wp2_with fail
    refine (cjoin_any C_a.out C_b.out).mono ?_
    rintro e w9 ⟨v_j, L_j, rfl, -, c9, t9, hb⟩
    replace C_a := hide (C_a.out.below hb)
    replace C_b := hide (C_b.out.below hb)
    replace C_c := hide (C_c.out.below hb)
    replace HB := hide (Below.on HB.out hb)
    clear hb
    have C_j := hide c9
    have T_j := hide t9
    clear c9 t9
    go_wp2_with fail
    refine (csame_any C_j.out.cl C_b.out.cl).mono ?_
    rintro e w9 ⟨rfl, hb⟩
    rw [eqJ C_a.out.gd C_b.out.gd C_j.out.gd T_j.out, HX.out]
    replace C_a := hide (C_a.out.below hb)
    replace C_b := hide (C_b.out.below hb)
    replace C_c := hide (C_c.out.below hb)
    replace C_j := hide (C_j.out.below hb)
    replace HB := hide (Below.on HB.out hb)
    clear hb
    clear C_j
    go_wp2_with fail
    refine (cmeet_any C_a.out C_b.out).mono ?_
    rintro e w9 ⟨v_m, L_m, rfl, -, c9, t9, hb⟩
    replace C_a := hide (C_a.out.below hb)
    replace C_b := hide (C_b.out.below hb)
    replace C_c := hide (C_c.out.below hb)
    replace HB := hide (Below.on HB.out hb)
    clear hb
    have C_m := hide c9
    have T_m := hide t9
    clear c9 t9
    go_wp2_with fail
    refine (csame_any C_m.out.cl C_a.out.cl).mono ?_
    rintro e w9 ⟨rfl, hb⟩
    rw [eqM C_a.out.gd C_b.out.gd C_m.out.gd T_m.out, HX.out]
    replace C_a := hide (C_a.out.below hb)
    replace C_b := hide (C_b.out.below hb)
    replace C_c := hide (C_c.out.below hb)
    replace C_m := hide (C_m.out.below hb)
    replace HB := hide (Below.on HB.out hb)
    clear hb
    clear C_m
    go_wp2_with fail
    refine (cleq_any C_a.out C_c.out).mono ?_
    rintro e w9 ⟨rfl, hb⟩
    rw [HQ.out]
    replace C_a := hide (C_a.out.below hb)
    replace C_b := hide (C_b.out.below hb)
    replace C_c := hide (C_c.out.below hb)
    replace HB := hide (Below.on HB.out hb)
    clear hb
    go_wp2_with fail
    refine (cleq_any C_b.out C_c.out).mono ?_
    rintro e w9 ⟨rfl, hb⟩
    rw [HP.out]
    replace C_a := hide (C_a.out.below hb)
    replace C_b := hide (C_b.out.below hb)
    replace C_c := hide (C_c.out.below hb)
    replace HB := hide (Below.on HB.out hb)
    clear hb
    go_wp2_with fail
    refine (cleq_any C_c.out C_a.out).mono ?_
    rintro e w9 ⟨rfl, hb⟩
    rw [HR.out]
    replace C_a := hide (C_a.out.below hb)
    replace C_b := hide (C_b.out.below hb)
    replace C_c := hide (C_c.out.below hb)
    replace HB := hide (Below.on HB.out hb)
    clear hb
    cases r with
    | true =>
      go_wp2_with fail
      refine (cleq_any C_c.out C_b.out).mono ?_
      rintro e w9 ⟨rfl, hb⟩
      rw [HS.out]
      replace C_a := hide (C_a.out.below hb)
      replace C_b := hide (C_b.out.below hb)
      replace C_c := hide (C_c.out.below hb)
      replace HB := hide (Below.on HB.out hb)
      clear hb
      go_wp2_with fail
      refine (cjoin_any C_a.out C_b.out).mono ?_
      rintro e w9 ⟨v_j, L_j, rfl, -, c9, t9, hb⟩
      replace C_a := hide (C_a.out.below hb)
      replace C_b := hide (C_b.out.below hb)
      replace C_c := hide (C_c.out.below hb)
      replace HB := hide (Below.on HB.out hb)
      clear hb
      have C_j := hide c9
      have T_j := hide t9
      clear c9 t9
      go_wp2_with fail
      refine (cleq_any C_j.out C_c.out).mono ?_
      rintro e w9 ⟨rfl, hb⟩
      rw [leJ C_a.out.gd C_b.out.gd C_c.out.gd C_j.out.gd T_j.out, HQ.out, HP.out]
      replace C_a := hide (C_a.out.below hb)
      replace C_b := hide (C_b.out.below hb)
      replace C_c := hide (C_c.out.below hb)
      replace C_j := hide (C_j.out.below hb)
      replace HB := hide (Below.on HB.out hb)
      clear hb
      clear C_j
      go_wp2_with fail
      refine (cmeet_any C_a.out C_b.out).mono ?_
      rintro e w9 ⟨v_m, L_m, rfl, -, c9, t9, hb⟩
      replace C_a := hide (C_a.out.below hb)
      replace C_b := hide (C_b.out.below hb)
      replace C_c := hide (C_c.out.below hb)
      replace HB := hide (Below.on HB.out hb)
      clear hb
      have C_m := hide c9
      have T_m := hide t9
      clear c9 t9
      go_wp2_with fail
      refine (cleq_any C_c.out C_m.out).mono ?_
      rintro e w9 ⟨rfl, hb⟩
      rw [leM C_a.out.gd C_b.out.gd C_c.out.gd C_m.out.gd T_m.out, HR.out, HS.out]
      replace C_a := hide (C_a.out.below hb)
      replace C_b := hide (C_b.out.below hb)
      replace C_c := hide (C_c.out.below hb)
      replace C_m := hide (C_m.out.below hb)
      replace HB := hide (Below.on HB.out hb)
      clear hb
      clear C_m
      go_wp2_with fail
      refine (cjoin_any C_a.out C_b.out).mono ?_
      rintro e w9 ⟨v_j, L_j, rfl, -, c9, t9, hb⟩
      replace C_a := hide (C_a.out.below hb)
      replace C_b := hide (C_b.out.below hb)
      replace C_c := hide (C_c.out.below hb)
      replace HB := hide (Below.on HB.out hb)
      clear hb
      have C_j := hide c9
      have T_j := hide t9
      clear c9 t9
      go_wp2_with fail
      refine (cleq_any C_a.out C_j.out).mono ?_
      rintro e w9 ⟨rfl, hb⟩
      rw [leAJ C_a.out.gd C_b.out.gd C_j.out.gd T_j.out]
      replace C_a := hide (C_a.out.below hb)
      replace C_b := hide (C_b.out.below hb)
      replace C_c := hide (C_c.out.below hb)
      replace C_j := hide (C_j.out.below hb)
      replace HB := hide (Below.on HB.out hb)
      clear hb
      clear C_j
      go_wp2_with fail
      refine (cmeet_any C_a.out C_b.out).mono ?_
      rintro e w9 ⟨v_m, L_m, rfl, -, c9, t9, hb⟩
      replace C_a := hide (C_a.out.below hb)
      replace C_b := hide (C_b.out.below hb)
      replace C_c := hide (C_c.out.below hb)
      replace HB := hide (Below.on HB.out hb)
      clear hb
      have C_m := hide c9
      have T_m := hide t9
      clear c9 t9
      go_wp2_with fail
      refine (cleq_any C_m.out C_a.out).mono ?_
      rintro e w9 ⟨rfl, hb⟩
      rw [leMA C_a.out.gd C_b.out.gd C_m.out.gd T_m.out]
      replace C_a := hide (C_a.out.below hb)
      replace C_b := hide (C_b.out.below hb)
      replace C_c := hide (C_c.out.below hb)
      replace C_m := hide (C_m.out.below hb)
      replace HB := hide (Below.on HB.out hb)
      clear hb
      go_wp2
      go_ret
      exact ⟨rfl, HB.out⟩
    | false =>
      go_wp2_with fail
      refine (cjoin_any C_a.out C_b.out).mono ?_
      rintro e w9 ⟨v_j, L_j, rfl, -, c9, t9, hb⟩
      replace C_a := hide (C_a.out.below hb)
      replace C_b := hide (C_b.out.below hb)
      replace C_c := hide (C_c.out.below hb)
      replace HB := hide (Below.on HB.out hb)
      clear hb
      have C_j := hide c9
      have T_j := hide t9
      clear c9 t9
      go_wp2_with fail
      refine (cleq_any C_j.out C_c.out).mono ?_
      rintro e w9 ⟨rfl, hb⟩
      rw [leJ C_a.out.gd C_b.out.gd C_c.out.gd C_j.out.gd T_j.out, HQ.out, HP.out]
      replace C_a := hide (C_a.out.below hb)
      replace C_b := hide (C_b.out.below hb)
      replace C_c := hide (C_c.out.below hb)
      replace C_j := hide (C_j.out.below hb)
      replace HB := hide (Below.on HB.out hb)
      clear hb
      clear C_j
      go_wp2_with fail
      refine (cmeet_any C_a.out C_b.out).mono ?_
      rintro e w9 ⟨v_m, L_m, rfl, -, c9, t9, hb⟩
      replace C_a := hide (C_a.out.below hb)
      replace C_b := hide (C_b.out.below hb)
      replace C_c := hide (C_c.out.below hb)
      replace HB := hide (Below.on HB.out hb)
      clear hb
      have C_m := hide c9
      have T_m := hide t9
      clear c9 t9
      go_wp2_with fail
      refine (cleq_any C_c.out C_m.out).mono ?_
      rintro e w9 ⟨rfl, hb⟩
      rw [leM C_a.out.gd C_b.out.gd C_c.out.gd C_m.out.gd T_m.out, HR.out, HS.out]
      replace C_a := hide (C_a.out.below hb)
      replace C_b := hide (C_b.out.below hb)
      replace C_c := hide (C_c.out.below hb)
      replace C_m := hide (C_m.out.below hb)
      replace HB := hide (Below.on HB.out hb)
      clear hb
      clear C_m
      go_wp2_with fail
      refine (cjoin_any C_a.out C_b.out).mono ?_
      rintro e w9 ⟨v_j, L_j, rfl, -, c9, t9, hb⟩
      replace C_a := hide (C_a.out.below hb)
      replace C_b := hide (C_b.out.below hb)
      replace C_c := hide (C_c.out.below hb)
      replace HB := hide (Below.on HB.out hb)
      clear hb
      have C_j := hide c9
      have T_j := hide t9
      clear c9 t9
      go_wp2_with fail
      refine (cleq_any C_a.out C_j.out).mono ?_
      rintro e w9 ⟨rfl, hb⟩
      rw [leAJ C_a.out.gd C_b.out.gd C_j.out.gd T_j.out]
      replace C_a := hide (C_a.out.below hb)
      replace C_b := hide (C_b.out.below hb)
      replace C_c := hide (C_c.out.below hb)
      replace C_j := hide (C_j.out.below hb)
      replace HB := hide (Below.on HB.out hb)
      clear hb
      clear C_j
      go_wp2_with fail
      refine (cmeet_any C_a.out C_b.out).mono ?_
      rintro e w9 ⟨v_m, L_m, rfl, -, c9, t9, hb⟩
      replace C_a := hide (C_a.out.below hb)
      replace C_b := hide (C_b.out.below hb)
      replace C_c := hide (C_c.out.below hb)
      replace HB := hide (Below.on HB.out hb)
      clear hb
      have C_m := hide c9
      have T_m := hide t9
      clear c9 t9
      go_wp2_with fail
      refine (cleq_any C_m.out C_a.out).mono ?_
      rintro e w9 ⟨rfl, hb⟩
      rw [leMA C_a.out.gd C_b.out.gd C_m.out.gd T_m.out]
      replace C_a := hide (C_a.out.below hb)
      replace C_b := hide (C_b.out.below hb)
      replace C_c := hide (C_c.out.below hb)
      replace C_m := hide (C_m.out.below hb)
      replace HB := hide (Below.on HB.out hb)
      clear hb
      go_wp2
      go_ret
      exact ⟨rfl, HB.out⟩
  | false =>
    go_wp2_with fail
    refine (cjoin_any C_a.out C_b.out).mono ?_
    rintro e w9 ⟨v_j, L_j, rfl, -, c9, t9, hb⟩
    replace C_a := hide (C_a.out.below hb)
    replace C_b := hide (C_b.out.below hb)
    replace C_c := hide (C_c.out.below hb)
    replace HB := hide (Below.on HB.out hb)
    clear hb
    have C_j := hide c9
    have T_j := hide t9
    clear c9 t9
    go_wp2_with fail
    refine (csame_any C_j.out.cl C_b.out.cl).mono ?_
    rintro e w9 ⟨rfl, hb⟩
    rw [eqJ C_a.out.gd C_b.out.gd C_j.out.gd T_j.out, HX.out]
    replace C_a := hide (C_a.out.below hb)
    replace C_b := hide (C_b.out.below hb)
    replace C_c := hide (C_c.out.below hb)
    replace C_j := hide (C_j.out.below hb)
    replace HB := hide (Below.on HB.out hb)
    clear hb
    clear C_j
    go_wp2_with fail
    refine (cmeet_any C_a.out C_b.out).mono ?_
    rintro e w9 ⟨v_m, L_m, rfl, -, c9, t9, hb⟩
    replace C_a := hide (C_a.out.below hb)
    replace C_b := hide (C_b.out.below hb)
    replace C_c := hide (C_c.out.below hb)
    replace HB := hide (Below.on HB.out hb)
    clear hb
    have C_m := hide c9
    have T_m := hide t9
    clear c9 t9
    go_wp2_with fail
    refine (csame_any C_m.out.cl C_a.out.cl).mono ?_
    rintro e w9 ⟨rfl, hb⟩
    rw [eqM C_a.out.gd C_b.out.gd C_m.out.gd T_m.out, HX.out]
    replace C_a := hide (C_a.out.below hb)
    replace C_b := hide (C_b.out.below hb)
    replace C_c := hide (C_c.out.below hb)
    replace C_m := hide (C_m.out.below hb)
    replace HB := hide (Below.on HB.out hb)
    clear hb
    clear C_m
    go_wp2_with fail
    refine (cleq_any C_a.out C_c.out).mono ?_
    rintro e w9 ⟨rfl, hb⟩
    rw [HQ.out]
    replace C_a := hide (C_a.out.below hb)
    replace C_b := hide (C_b.out.below hb)
    replace C_c := hide (C_c.out.below hb)
    replace HB := hide (Below.on HB.out hb)
    clear hb
    cases q with
    | true =>
      go_wp2_with fail
      refine (cleq_any C_b.out C_c.out).mono ?_
      rintro e w9 ⟨rfl, hb⟩
      rw [HP.out]
      replace C_a := hide (C_a.out.below hb)
      replace C_b := hide (C_b.out.below hb)
      replace C_c := hide (C_c.out.below hb)
      replace HB := hide (Below.on HB.out hb)
      clear hb
      go_wp2_with fail
      refine (cleq_any C_c.out C_a.out).mono ?_
      rintro e w9 ⟨rfl, hb⟩
      rw [HR.out]
      replace C_a := hide (C_a.out.below hb)
      replace C_b := hide (C_b.out.below hb)
      replace C_c := hide (C_c.out.below hb)
      replace HB := hide (Below.on HB.out hb)
      clear hb
      cases r with
      | true =>
        go_wp2_with fail
        refine (cleq_any C_c.out C_b.out).mono ?_
        rintro e w9 ⟨rfl, hb⟩
        rw [HS.out]
        replace C_a := hide (C_a.out.below hb)
        replace C_b := hide (C_b.out.below hb)
        replace C_c := hide (C_c.out.below hb)
        replace HB := hide (Below.on HB.out hb)
        clear hb
        go_wp2_with fail
        refine (cjoin_any C_a.out C_b.out).mono ?_
        rintro e w9 ⟨v_j, L_j, rfl, -, c9, t9, hb⟩
        replace C_a := hide (C_a.out.below hb)
        replace C_b := hide (C_b.out.below hb)
        replace C_c := hide (C_c.out.below hb)
        replace HB := hide (Below.on HB.out hb)
        clear hb
        have C_j := hide c9
        have T_j := hide t9
        clear c9 t9
        go_wp2_with fail
        refine (cleq_any C_j.out C_c.out).mono ?_
        rintro e w9 ⟨rfl, hb⟩
        rw [leJ C_a.out.gd C_b.out.gd C_c.out.gd C_j.out.gd T_j.out, HQ.out, HP.out]
        replace C_a := hide (C_a.out.below hb)
        replace C_b := hide (C_b.out.below hb)
        replace C_c := hide (C_c.out.below hb)
        replace C_j := hide (C_j.out.below hb)
        replace HB := hide (Below.on HB.out hb)
        clear hb
        clear C_j
        go_wp2_with fail
        refine (cmeet_any C_a.out C_b.out).mono ?_
        rintro e w9 ⟨v_m, L_m, rfl, -, c9, t9, hb⟩
        replace C_a := hide (C_a.out.below hb)
        replace C_b := hide (C_b.out.below hb)
        replace C_c := hide (C_c.out.below hb)
        replace HB := hide (Below.on HB.out hb)
        clear hb
        have C_m := hide c9
        have T_m := hide t9
        clear c9 t9
        go_wp2_with fail
        refine (cleq_any C_c.out C_m.out).mono ?_
        rintro e w9 ⟨rfl, hb⟩
        rw [leM C_a.out.gd C_b.out.gd C_c.out.gd C_m.out.gd T_m.out, HR.out, HS.out]
        replace C_a := hide (C_a.out.below hb)
        replace C_b := hide (C_b.out.below hb)
        replace C_c := hide (C_c.out.below hb)
        replace C_m := hide (C_m.out.below hb)
        replace HB := hide (Below.on HB.out hb)
        clear hb
        clear C_m
        go_wp2_with fail
        refine (cjoin_any C_a.out C_b.out).mono ?_
        rintro e w9 ⟨v_j, L_j, rfl, -, c9, t9, hb⟩
        replace C_a := hide (C_a.out.below hb)
        replace C_b := hide (C_b.out.below hb)
        replace C_c := hide (C_c.out.below hb)
        replace HB := hide (Below.on HB.out hb)
        clear hb
        have C_j := hide c9
        have T_j := hide t9
        clear c9 t9
        go_wp2_with fail
        refine (cleq_any C_a.out C_j.out).mono ?_
        rintro e w9 ⟨rfl, hb⟩
        rw [leAJ C_a.out.gd C_b.out.gd C_j.out.gd T_j.out]
        replace C_a := hide (C_a.out.below hb)
        replace C_b := hide (C_b.out.below hb)
        replace C_c := hide (C_c.out.below hb)
        replace C_j := hide (C_j.out.below hb)
        replace HB := hide (Below.on HB.out hb)
        clear hb
        clear C_j
        go_wp2_with fail
        refine (cmeet_any C_a.out C_b.out).mono ?_
        rintro e w9 ⟨v_m, L_m, rfl, -, c9, t9, hb⟩
        replace C_a := hide (C_a.out.below hb)
        replace C_b := hide (C_b.out.below hb)
        replace C_c := hide (C_c.out.below hb)
        replace HB := hide (Below.on HB.out hb)
        clear hb
        have C_m := hide c9
        have T_m := hide t9
        clear c9 t9
        go_wp2_with fail
        refine (cleq_any C_m.out C_a.out).mono ?_
        rintro e w9 ⟨rfl, hb⟩
        rw [leMA C_a.out.gd C_b.out.gd C_m.out.gd T_m.out]
        replace C_a := hide (C_a.out.below hb)
        replace C_b := hide (C_b.out.below hb)
        replace C_c := hide (C_c.out.below hb)
        replace C_m := hide (C_m.out.below hb)
        replace HB := hide (Below.on HB.out hb)
        clear hb
        go_wp2
        go_ret
        exact ⟨rfl, HB.out⟩
      | false =>
        go_wp2_with fail
        refine (cjoin_any C_a.out C_b.out).mono ?_
        rintro e w9 ⟨v_j, L_j, rfl, -, c9, t9, hb⟩
        replace C_a := hide (C_a.out.below hb)
        replace C_b := hide (C_b.out.below hb)
        replace C_c := hide (C_c.out.below hb)
        replace HB := hide (Below.on HB.out hb)
        clear hb
        have C_j := hide c9
        have T_j := hide t9
        clear c9 t9
        go_wp2_with fail
        refine (cleq_any C_j.out C_c.out).mono ?_
        rintro e w9 ⟨rfl, hb⟩
        rw [leJ C_a.out.gd C_b.out.gd C_c.out.gd C_j.out.gd T_j.out, HQ.out, HP.out]
        replace C_a := hide (C_a.out.below hb)
        replace C_b := hide (C_b.out.below hb)
        replace C_c := hide (C_c.out.below hb)
        replace C_j := hide (C_j.out.below hb)
        replace HB := hide (Below.on HB.out hb)
        clear hb
        clear C_j
        go_wp2_with fail
        refine (cmeet_any C_a.out C_b.out).mono ?_
        rintro e w9 ⟨v_m, L_m, rfl, -, c9, t9, hb⟩
        replace C_a := hide (C_a.out.below hb)
        replace C_b := hide (C_b.out.below hb)
        replace C_c := hide (C_c.out.below hb)
        replace HB := hide (Below.on HB.out hb)
        clear hb
        have C_m := hide c9
        have T_m := hide t9
        clear c9 t9
        go_wp2_with fail
        refine (cleq_any C_c.out C_m.out).mono ?_
        rintro e w9 ⟨rfl, hb⟩
        rw [leM C_a.out.gd C_b.out.gd C_c.out.gd C_m.out.gd T_m.out, HR.out, HS.out]
        replace C_a := hide (C_a.out.below hb)
        replace C_b := hide (C_b.out.below hb)
        replace C_c := hide (C_c.out.below hb)
        replace C_m := hide (C_m.out.below hb)
        replace HB := hide (Below.on HB.out hb)
        clear hb
        clear C_m
        go_wp2_with fail
        refine (cjoin_any C_a.out C_b.out).mono ?_
        rintro e w9 ⟨v_j, L_j, rfl, -, c9, t9, hb⟩
        replace C_a := hide (C_a.out.below hb)
        replace C_b := hide (C_b.out.below hb)
        replace C_c := hide (C_c.out.below hb)
        replace HB := hide (Below.on HB.out hb)
        clear hb
        have C_j := hide c9
        have T_j := hide t9
        clear c9 t9
        go_wp2_with fail
        refine (cleq_any C_a.out C_j.out).mono ?_
        rintro e w9 ⟨rfl, hb⟩
        rw [leAJ C_a.out.gd C_b.out.gd C_j.out.gd T_j.out]
        replace C_a := hide (C_a.out.below hb)
        replace C_b := hide (C_b.out.below hb)
        replace C_c := hide (C_c.out.below hb)
        replace C_j := hide (C_j.out.below hb)
        replace HB := hide (Below.on HB.out hb)
        clear hb
        clear C_j
        go_wp2_with fail
        refine (cmeet_any C_a.out C_b.out).mono ?_
        rintro e w9 ⟨v_m, L_m, rfl, -, c9, t9, hb⟩
        replace C_a := hide (C_a.out.below hb)
        replace C_b := hide (C_b.out.below hb)
        replace C_c := hide (C_c.out.below hb)
        replace HB := hide (Below.on HB.out hb)
        clear hb
        have C_m := hide c9
        have T_m := hide t9
        clear c9 t9
        go_wp2_with fail
        refine (cleq_any C_m.out C_a.out).mono ?_
        rintro e w9 ⟨rfl, hb⟩
        rw [leMA C_a.out.gd C_b.out.gd C_m.out.gd T_m.out]
        replace C_a := hide (C_a.out.below hb)
        replace C_b := hide (C_b.out.below hb)
        replace C_c := hide (C_c.out.below hb)
        replace C_m := hide (C_m.out.below hb)
        replace HB := hide (Below.on HB.out hb)
        clear hb
        go_wp2
        go_ret
        exact ⟨rfl, HB.out⟩
    | false =>
      go_wp2_with fail
      refine (cleq_any C_c.out C_a.out).mono ?_
      rintro e w9 ⟨rfl, hb⟩
      rw [HR.out]
      replace C_a := hide (C_a.out.below hb)
      replace C_b := hide (C_b.out.below hb)
      replace C_c := hide (C_c.out.below hb)
      replace HB := hide (Below.on HB.out hb)
      clear hb
      cases r with
      | true =>
        go_wp2_with fail
        refine (cleq_any C_c.out C_b.out).mono ?_
        rintro e w9 ⟨rfl, hb⟩
        rw [HS.out]
        replace C_a := hide (C_a.out.below hb)
        replace C_b := hide (C_b.out.below hb)
        replace C_c := hide (C_c.out.below hb)
        replace HB := hide (Below.on HB.out hb)
        clear hb
        go_wp2_with fail
        refine (cjoin_any C_a.out C_b.out).mono ?_
        rintro e w9 ⟨v_j, L_j, rfl, -, c9, t9, hb⟩
        replace C_a := hide (C_a.out.below hb)
        replace C_b := hide (C_b.out.below hb)
        replace C_c := hide (C_c.out.below hb)
        replace HB := hide (Below.on HB.out hb)
        clear hb
        have C_j := hide c9
        have T_j := hide t9
        clear c9 t9
        go_wp2_with fail
        refine (cleq_any C_j.out C_c.out).mono ?_
        rintro e w9 ⟨rfl, hb⟩
        rw [leJ C_a.out.gd C_b.out.gd C_c.out.gd C_j.out.gd T_j.out, HQ.out, HP.out]
        replace C_a := hide (C_a.out.below hb)
        replace C_b := hide (C_b.out.below hb)
        replace C_c := hide (C_c.out.below hb)
        replace C_j := hide (C_j.out.below hb)
        replace HB := hide (Below.on HB.out hb)
        clear hb
        clear C_j
        go_wp2_with fail
        refine (cmeet_any C_a.out C_b.out).mono ?_
        rintro e w9 ⟨v_m, L_m, rfl, -, c9, t9, hb⟩
        replace C_a := hide (C_a.out.below hb)
        replace C_b := hide (C_b.out.below hb)
        replace C_c := hide (C_c.out.below hb)
        replace HB := hide (Below.on HB.out hb)
        clear hb
        have C_m := hide c9
        have T_m := hide t9
        clear c9 t9
        go_wp2_with fail
        refine (cleq_any C_c.out C_m.out).mono ?_
        rintro e w9 ⟨rfl, hb⟩
        rw [leM C_a.out.gd C_b.out.gd C_c.out.gd C_m.out.gd T_m.out, HR.out, HS.out]
        replace C_a := hide (C_a.out.below hb)
        replace C_b := hide (C_b.out.below hb)
        replace C_c := hide (C_c.out.below hb)
        replace C_m := hide (C_m.out.below hb)
        replace HB := hide (Below.on HB.out hb)
        clear hb
        clear C_m
        go_wp2_with fail
        refine (cjoin_any C_a.out C_b.out).mono ?_
        rintro e w9 ⟨v_j, L_j, rfl, -, c9, t9, hb⟩
        replace C_a := hide (C_a.out.below hb)
        replace C_b := hide (C_b.out.below hb)
        replace C_c := hide (C_c.out.below hb)
        replace HB := hide (Below.on HB.out hb)
        clear hb
        have C_j := hide c9
        have T_j := hide t9
        clear c9 t9
        go_wp2_with fail
        refine (cleq_any C_a.out C_j.out).mono ?_
        rintro e w9 ⟨rfl, hb⟩
        rw [leAJ C_a.out.gd C_b.out.gd C_j.out.gd T_j.out]
        replace C_a := hide (C_a.out.below hb)
        replace C_b := hide (C_b.out.below hb)
        replace C_c := hide (C_c.out.below hb)
        replace C_j := hide (C_j.out.below hb)
        replace HB := hide (Below.on HB.out hb)
        clear hb
        clear C_j
        go_wp2_with fail
        refine (cmeet_any C_a.out C_b.out).mono ?_
        rintro e w9 ⟨v_m, L_m, rfl, -, c9, t9, hb⟩
        replace C_a := hide (C_a.out.below hb)
        replace C_b := hide (C_b.out.below hb)
        replace C_c := hide (C_c.out.below hb)
        replace HB := hide (Below.on HB.out hb)
        clear hb
        have C_m := hide c9
        have T_m := hide t9
        clear c9 t9
        go_wp2_with fail
        refine (cleq_any C_m.out C_a.out).mono ?_
        rintro e w9 ⟨rfl, hb⟩
        rw [leMA C_a.out.gd C_b.out.gd C_m.out.gd T_m.out]
        replace C_a := hide (C_a.out.below hb)
        replace C_b := hide (C_b.out.below hb)
        replace C_c := hide (C_c.out.below hb)
        replace C_m := hide (C_m.out.below hb)
        replace HB := hide (Below.on HB.out hb)
        clear hb
        go_wp2
        go_ret
        exact ⟨rfl, HB.out⟩
      | false =>
        go_wp2_with fail
        refine (cjoin_any C_a.out C_b.out).mono ?_
        rintro e w9 ⟨v_j, L_j, rfl, -, c9, t9, hb⟩
        replace C_a := hide (C_a.out.below hb)
        replace C_b := hide (C_b.out.below hb)
        replace C_c := hide (C_c.out.below hb)
        replace HB := hide (Below.on HB.out hb)
        clear hb
        have C_j := hide c9
        have T_j := hide t9
        clear c9 t9
        go_wp2_with fail
        refine (cleq_any C_j.out C_c.out).mono ?_
        rintro e w9 ⟨rfl, hb⟩
        rw [leJ C_a.out.gd C_b.out.gd C_c.out.gd C_j.out.gd T_j.out, HQ.out, HP.out]
        replace C_a := hide (C_a.out.below hb)
        replace C_b := hide (C_b.out.below hb)
        replace C_c := hide (C_c.out.below hb)
        replace C_j := hide (C_j.out.below hb)
        replace HB := hide (Below.on HB.out hb)
        clear hb
        clear C_j
        go_wp2_with fail
        refine (cmeet_any C_a.out C_b.out).mono ?_
        rintro e w9 ⟨v_m, L_m, rfl, -, c9, t9, hb⟩
        replace C_a := hide (C_a.out.below hb)
        replace C_b := hide (C_b.out.below hb)
        replace C_c := hide (C_c.out.below hb)
        replace HB := hide (Below.on HB.out hb)
        clear hb
        have C_m := hide c9
        have T_m := hide t9
        clear c9 t9
        go_wp2_with fail
        refine (cleq_any C_c.out C_m.out).mono ?_
        rintro e w9 ⟨rfl, hb⟩
        rw [leM C_a.out.gd C_b.out.gd C_c.out.gd C_m.out.gd T_m.out, HR.out, HS.out]
        replace C_a := hide (C_a.out.below hb)
        replace C_b := hide (C_b.out.below hb)
        replace C_c := hide (C_c.out.below hb)
        replace C_m := hide (C_m.out.below hb)
        replace HB := hide (Below.on HB.out hb)
        clear hb
        clear C_m
        go_wp2_with fail
        refine (cjoin_any C_a.out C_b.out).mono ?_
        rintro e w9 ⟨v_j, L_j, rfl, -, c9, t9, hb⟩
        replace C_a := hide (C_a.out.below hb)
        replace C_b := hide (C_b.out.below hb)
        replace C_c := hide (C_c.out.below hb)
        replace HB := hide (Below.on HB.out hb)
        clear hb
        have C_j := hide c9
        have T_j := hide t9
        clear c9 t9
        go_wp2_with fail
        refine (cleq_any C_a.out C_j.out).mono ?_
        rintro e w9 ⟨rfl, hb⟩
        rw [leAJ C_a.out.gd C_b.out.gd C_j.out.gd T_j.out]
        replace C_a := hide (C_a.out.below hb)
        replace C_b := hide (C_b.out.below hb)
        replace C_c := hide (C_c.out.below hb)
        replace C_j := hide (C_j.out.below hb)
        replace HB := hide (Below.on HB.out hb)
        clear hb
        clear C_j
        go_wp2_with fail
        refine (cmeet_any C_a.out C_b.out).mono ?_
        rintro e w9 ⟨v_m, L_m, rfl, -, c9, t9, hb⟩
        replace C_a := hide (C_a.out.below hb)
        replace C_b := hide (C_b.out.below hb)
        replace C_c := hide (C_c.out.below hb)
        replace HB := hide (Below.on HB.out hb)
        clear hb
        have C_m := hide c9
        have T_m := hide t9
        clear c9 t9
        go_wp2_with fail
        refine (cleq_any C_m.out C_a.out).mono ?_
        rintro e w9 ⟨rfl, hb⟩
        rw [leMA C_a.out.gd C_b.out.gd C_m.out.gd T_m.out]
        replace C_a := hide (C_a.out.below hb)
        replace C_b := hide (C_b.out.below hb)
        replace C_c := hide (C_c.out.below hb)
        replace C_m := hide (C_m.out.below hb)
        replace HB := hide (Below.on HB.out hb)
        clear hb
        go_wp2
        go_ret
        exact ⟨rfl, HB.out⟩
set_option maxRecDepth 100000 in
set_option maxHeartbeats 40000000 in
theorem bounds_ft {w : World} {va vb vc : Value} {A B C : List Tk} (ca : CV w va A) (cb : CV w vb B) (cc : CV w vc C) (hx : leB A B = false) (hy : leB B A = true) : Calls Try.prog 8 #[va, vb, vc] w fun e w' => e = .returned (.bool true) ∧ Below w.heap.size w w' := by
  have HAw := hide (awake_any w)
  have HN := hide (fun W => num_any 0 W)
  have HG : Hid (∀ W, Below w.heap.size w W → Calls Try.prog 27 #[va, vb, vc] W fun e w' => e = .returned (.bool true) ∧ Below W.heap.size W w') := hide (fun W hW => by
    have h := allgood_any (ca.cl.below hW) (cb.cl.below hW) (cc.cl.below hW)
    rw [ca.gd, cb.gd, cc.gd] at h
    exact h)
  obtain ⟨p, hp⟩ : ∃ p, leB B C = p := ⟨_, rfl⟩
  obtain ⟨q, hq⟩ : ∃ q, leB A C = q := ⟨_, rfl⟩
  obtain ⟨r, hr⟩ : ∃ r, leB C A = r := ⟨_, rfl⟩
  obtain ⟨s, hs⟩ : ∃ s, leB C B = s := ⟨_, rfl⟩
  have HX := hide hx
  have HY := hide hy
  have HP := hide hp
  have HQ := hide hq
  have HR := hide hr
  have HS := hide hs
  have C_a := hide ca
  have C_b := hide cb
  have C_c := hide cc
  clear ca cb cc hx hy hp hq hr hs
  go_enter Try.func8, Try.ntmps8
  go_wp2_with fail
  refine HAw.out.mono ?_
  rintro e w0 ⟨rfl, hb⟩
  have HB := hide hb
  replace C_a := hide (C_a.out.below hb)
  replace C_b := hide (C_b.out.below hb)
  replace C_c := hide (C_c.out.below hb)
  clear hb HAw
  go_wp2_with fail
  refine (HG.out _ HB.out).mono ?_
  rintro e w00 ⟨rfl, hb⟩
  replace C_a := hide (C_a.out.below hb)
  replace C_b := hide (C_b.out.below hb)
  replace C_c := hide (C_c.out.below hb)
  replace HB := hide (Below.on HB.out hb)
  clear hb HG
  go_wp2_with fail
  refine (cleq_any C_a.out C_b.out).mono ?_
  rintro e w9 ⟨rfl, hb⟩
  rw [HX.out]
  replace C_a := hide (C_a.out.below hb)
  replace C_b := hide (C_b.out.below hb)
  replace C_c := hide (C_c.out.below hb)
  replace HB := hide (Below.on HB.out hb)
  clear hb
  go_wp2_with fail
  refine (cleq_any C_b.out C_a.out).mono ?_
  rintro e w9 ⟨rfl, hb⟩
  rw [HY.out]
  replace C_a := hide (C_a.out.below hb)
  replace C_b := hide (C_b.out.below hb)
  replace C_c := hide (C_c.out.below hb)
  replace HB := hide (Below.on HB.out hb)
  clear hb
  go_wp2_with fail
  refine (capartP_any C_a.out C_b.out).mono ?_
  rintro e w9 ⟨rfl, hb⟩
  rw [HX.out, HY.out]
  replace C_a := hide (C_a.out.below hb)
  replace C_b := hide (C_b.out.below hb)
  replace C_c := hide (C_c.out.below hb)
  replace HB := hide (Below.on HB.out hb)
  clear hb
  go_wp2_with fail
  refine (HN.out _).mono ?_
  rintro e w9 ⟨rfl, hw⟩
  rw [hw]
  clear hw w9
  go_wp2_with fail
  refine (csame_any C_a.out.cl C_b.out.cl).mono ?_
  rintro e w9 ⟨rfl, hb⟩
  rw [eqB C_a.out.gd C_b.out.gd, HX.out, HY.out]
  replace C_a := hide (C_a.out.below hb)
  replace C_b := hide (C_b.out.below hb)
  replace C_c := hide (C_c.out.below hb)
  replace HB := hide (Below.on HB.out hb)
  clear hb
  go_wp2_with fail
  refine (cleq_any C_a.out C_a.out).mono ?_
  rintro e w9 ⟨rfl, hb⟩
  rw [leB_refl C_a.out.gd]
  replace C_a := hide (C_a.out.below hb)
  replace C_b := hide (C_b.out.below hb)
  replace C_c := hide (C_c.out.below hb)
  replace HB := hide (Below.on HB.out hb)
  clear hb
  go_wp2_with fail
  refine (cleq_any (CV.nil _) C_a.out).mono ?_
  rintro e w9 ⟨rfl, hb⟩
  rw [leB_nil]
  replace C_a := hide (C_a.out.below hb)
  replace C_b := hide (C_b.out.below hb)
  replace C_c := hide (C_c.out.below hb)
  replace HB := hide (Below.on HB.out hb)
  clear hb
  go_wp2_with fail
  refine (cjoin_any C_a.out C_b.out).mono ?_
  rintro e w9 ⟨v_j, L_j, rfl, -, c9, t9, hb⟩
  replace C_a := hide (C_a.out.below hb)
  replace C_b := hide (C_b.out.below hb)
  replace C_c := hide (C_c.out.below hb)
  replace HB := hide (Below.on HB.out hb)
  clear hb
  have C_j := hide c9
  have T_j := hide t9
  clear c9 t9
  go_wp2_with fail
  refine (csame_any C_j.out.cl C_b.out.cl).mono ?_
  rintro e w9 ⟨rfl, hb⟩
  rw [eqJ C_a.out.gd C_b.out.gd C_j.out.gd T_j.out, HX.out]
  replace C_a := hide (C_a.out.below hb)
  replace C_b := hide (C_b.out.below hb)
  replace C_c := hide (C_c.out.below hb)
  replace C_j := hide (C_j.out.below hb)
  replace HB := hide (Below.on HB.out hb)
  clear hb
  clear C_j
  go_wp2_with fail
  refine (cmeet_any C_a.out C_b.out).mono ?_
  rintro e w9 ⟨v_m, L_m, rfl, -, c9, t9, hb⟩
  replace C_a := hide (C_a.out.below hb)
  replace C_b := hide (C_b.out.below hb)
  replace C_c := hide (C_c.out.below hb)
  replace HB := hide (Below.on HB.out hb)
  clear hb
  have C_m := hide c9
  have T_m := hide t9
  clear c9 t9
  go_wp2_with fail
  refine (csame_any C_m.out.cl C_a.out.cl).mono ?_
  rintro e w9 ⟨rfl, hb⟩
  rw [eqM C_a.out.gd C_b.out.gd C_m.out.gd T_m.out, HX.out]
  replace C_a := hide (C_a.out.below hb)
  replace C_b := hide (C_b.out.below hb)
  replace C_c := hide (C_c.out.below hb)
  replace C_m := hide (C_m.out.below hb)
  replace HB := hide (Below.on HB.out hb)
  clear hb
  clear C_m
  go_wp2_with fail
  refine (cleq_any C_a.out C_c.out).mono ?_
  rintro e w9 ⟨rfl, hb⟩
  rw [HQ.out]
  replace C_a := hide (C_a.out.below hb)
  replace C_b := hide (C_b.out.below hb)
  replace C_c := hide (C_c.out.below hb)
  replace HB := hide (Below.on HB.out hb)
  clear hb
  cases q with
  | true =>
    go_wp2_with fail
    refine (cleq_any C_b.out C_c.out).mono ?_
    rintro e w9 ⟨rfl, hb⟩
    rw [HP.out]
    replace C_a := hide (C_a.out.below hb)
    replace C_b := hide (C_b.out.below hb)
    replace C_c := hide (C_c.out.below hb)
    replace HB := hide (Below.on HB.out hb)
    clear hb
    go_wp2_with fail
    refine (cleq_any C_c.out C_a.out).mono ?_
    rintro e w9 ⟨rfl, hb⟩
    rw [HR.out]
    replace C_a := hide (C_a.out.below hb)
    replace C_b := hide (C_b.out.below hb)
    replace C_c := hide (C_c.out.below hb)
    replace HB := hide (Below.on HB.out hb)
    clear hb
    cases r with
    | true =>
      go_wp2_with fail
      refine (cleq_any C_c.out C_b.out).mono ?_
      rintro e w9 ⟨rfl, hb⟩
      rw [HS.out]
      replace C_a := hide (C_a.out.below hb)
      replace C_b := hide (C_b.out.below hb)
      replace C_c := hide (C_c.out.below hb)
      replace HB := hide (Below.on HB.out hb)
      clear hb
      go_wp2_with fail
      refine (cjoin_any C_a.out C_b.out).mono ?_
      rintro e w9 ⟨v_j, L_j, rfl, -, c9, t9, hb⟩
      replace C_a := hide (C_a.out.below hb)
      replace C_b := hide (C_b.out.below hb)
      replace C_c := hide (C_c.out.below hb)
      replace HB := hide (Below.on HB.out hb)
      clear hb
      have C_j := hide c9
      have T_j := hide t9
      clear c9 t9
      go_wp2_with fail
      refine (cleq_any C_j.out C_c.out).mono ?_
      rintro e w9 ⟨rfl, hb⟩
      rw [leJ C_a.out.gd C_b.out.gd C_c.out.gd C_j.out.gd T_j.out, HQ.out, HP.out]
      replace C_a := hide (C_a.out.below hb)
      replace C_b := hide (C_b.out.below hb)
      replace C_c := hide (C_c.out.below hb)
      replace C_j := hide (C_j.out.below hb)
      replace HB := hide (Below.on HB.out hb)
      clear hb
      clear C_j
      go_wp2_with fail
      refine (cmeet_any C_a.out C_b.out).mono ?_
      rintro e w9 ⟨v_m, L_m, rfl, -, c9, t9, hb⟩
      replace C_a := hide (C_a.out.below hb)
      replace C_b := hide (C_b.out.below hb)
      replace C_c := hide (C_c.out.below hb)
      replace HB := hide (Below.on HB.out hb)
      clear hb
      have C_m := hide c9
      have T_m := hide t9
      clear c9 t9
      go_wp2_with fail
      refine (cleq_any C_c.out C_m.out).mono ?_
      rintro e w9 ⟨rfl, hb⟩
      rw [leM C_a.out.gd C_b.out.gd C_c.out.gd C_m.out.gd T_m.out, HR.out, HS.out]
      replace C_a := hide (C_a.out.below hb)
      replace C_b := hide (C_b.out.below hb)
      replace C_c := hide (C_c.out.below hb)
      replace C_m := hide (C_m.out.below hb)
      replace HB := hide (Below.on HB.out hb)
      clear hb
      clear C_m
      go_wp2_with fail
      refine (cjoin_any C_a.out C_b.out).mono ?_
      rintro e w9 ⟨v_j, L_j, rfl, -, c9, t9, hb⟩
      replace C_a := hide (C_a.out.below hb)
      replace C_b := hide (C_b.out.below hb)
      replace C_c := hide (C_c.out.below hb)
      replace HB := hide (Below.on HB.out hb)
      clear hb
      have C_j := hide c9
      have T_j := hide t9
      clear c9 t9
      go_wp2_with fail
      refine (cleq_any C_a.out C_j.out).mono ?_
      rintro e w9 ⟨rfl, hb⟩
      rw [leAJ C_a.out.gd C_b.out.gd C_j.out.gd T_j.out]
      replace C_a := hide (C_a.out.below hb)
      replace C_b := hide (C_b.out.below hb)
      replace C_c := hide (C_c.out.below hb)
      replace C_j := hide (C_j.out.below hb)
      replace HB := hide (Below.on HB.out hb)
      clear hb
      clear C_j
      go_wp2_with fail
      refine (cmeet_any C_a.out C_b.out).mono ?_
      rintro e w9 ⟨v_m, L_m, rfl, -, c9, t9, hb⟩
      replace C_a := hide (C_a.out.below hb)
      replace C_b := hide (C_b.out.below hb)
      replace C_c := hide (C_c.out.below hb)
      replace HB := hide (Below.on HB.out hb)
      clear hb
      have C_m := hide c9
      have T_m := hide t9
      clear c9 t9
      go_wp2_with fail
      refine (cleq_any C_m.out C_a.out).mono ?_
      rintro e w9 ⟨rfl, hb⟩
      rw [leMA C_a.out.gd C_b.out.gd C_m.out.gd T_m.out]
      replace C_a := hide (C_a.out.below hb)
      replace C_b := hide (C_b.out.below hb)
      replace C_c := hide (C_c.out.below hb)
      replace C_m := hide (C_m.out.below hb)
      replace HB := hide (Below.on HB.out hb)
      clear hb
      go_wp2
      go_ret
      exact ⟨rfl, HB.out⟩
    | false =>
      go_wp2_with fail
      refine (cjoin_any C_a.out C_b.out).mono ?_
      rintro e w9 ⟨v_j, L_j, rfl, -, c9, t9, hb⟩
      replace C_a := hide (C_a.out.below hb)
      replace C_b := hide (C_b.out.below hb)
      replace C_c := hide (C_c.out.below hb)
      replace HB := hide (Below.on HB.out hb)
      clear hb
      have C_j := hide c9
      have T_j := hide t9
      clear c9 t9
      go_wp2_with fail
      refine (cleq_any C_j.out C_c.out).mono ?_
      rintro e w9 ⟨rfl, hb⟩
      rw [leJ C_a.out.gd C_b.out.gd C_c.out.gd C_j.out.gd T_j.out, HQ.out, HP.out]
      replace C_a := hide (C_a.out.below hb)
      replace C_b := hide (C_b.out.below hb)
      replace C_c := hide (C_c.out.below hb)
      replace C_j := hide (C_j.out.below hb)
      replace HB := hide (Below.on HB.out hb)
      clear hb
      clear C_j
      go_wp2_with fail
      refine (cmeet_any C_a.out C_b.out).mono ?_
      rintro e w9 ⟨v_m, L_m, rfl, -, c9, t9, hb⟩
      replace C_a := hide (C_a.out.below hb)
      replace C_b := hide (C_b.out.below hb)
      replace C_c := hide (C_c.out.below hb)
      replace HB := hide (Below.on HB.out hb)
      clear hb
      have C_m := hide c9
      have T_m := hide t9
      clear c9 t9
      go_wp2_with fail
      refine (cleq_any C_c.out C_m.out).mono ?_
      rintro e w9 ⟨rfl, hb⟩
      rw [leM C_a.out.gd C_b.out.gd C_c.out.gd C_m.out.gd T_m.out, HR.out, HS.out]
      replace C_a := hide (C_a.out.below hb)
      replace C_b := hide (C_b.out.below hb)
      replace C_c := hide (C_c.out.below hb)
      replace C_m := hide (C_m.out.below hb)
      replace HB := hide (Below.on HB.out hb)
      clear hb
      clear C_m
      go_wp2_with fail
      refine (cjoin_any C_a.out C_b.out).mono ?_
      rintro e w9 ⟨v_j, L_j, rfl, -, c9, t9, hb⟩
      replace C_a := hide (C_a.out.below hb)
      replace C_b := hide (C_b.out.below hb)
      replace C_c := hide (C_c.out.below hb)
      replace HB := hide (Below.on HB.out hb)
      clear hb
      have C_j := hide c9
      have T_j := hide t9
      clear c9 t9
      go_wp2_with fail
      refine (cleq_any C_a.out C_j.out).mono ?_
      rintro e w9 ⟨rfl, hb⟩
      rw [leAJ C_a.out.gd C_b.out.gd C_j.out.gd T_j.out]
      replace C_a := hide (C_a.out.below hb)
      replace C_b := hide (C_b.out.below hb)
      replace C_c := hide (C_c.out.below hb)
      replace C_j := hide (C_j.out.below hb)
      replace HB := hide (Below.on HB.out hb)
      clear hb
      clear C_j
      go_wp2_with fail
      refine (cmeet_any C_a.out C_b.out).mono ?_
      rintro e w9 ⟨v_m, L_m, rfl, -, c9, t9, hb⟩
      replace C_a := hide (C_a.out.below hb)
      replace C_b := hide (C_b.out.below hb)
      replace C_c := hide (C_c.out.below hb)
      replace HB := hide (Below.on HB.out hb)
      clear hb
      have C_m := hide c9
      have T_m := hide t9
      clear c9 t9
      go_wp2_with fail
      refine (cleq_any C_m.out C_a.out).mono ?_
      rintro e w9 ⟨rfl, hb⟩
      rw [leMA C_a.out.gd C_b.out.gd C_m.out.gd T_m.out]
      replace C_a := hide (C_a.out.below hb)
      replace C_b := hide (C_b.out.below hb)
      replace C_c := hide (C_c.out.below hb)
      replace C_m := hide (C_m.out.below hb)
      replace HB := hide (Below.on HB.out hb)
      clear hb
      go_wp2
      go_ret
      exact ⟨rfl, HB.out⟩
  | false =>
    go_wp2_with fail
    refine (cleq_any C_c.out C_a.out).mono ?_
    rintro e w9 ⟨rfl, hb⟩
    rw [HR.out]
    replace C_a := hide (C_a.out.below hb)
    replace C_b := hide (C_b.out.below hb)
    replace C_c := hide (C_c.out.below hb)
    replace HB := hide (Below.on HB.out hb)
    clear hb
    cases r with
    | true =>
      go_wp2_with fail
      refine (cleq_any C_c.out C_b.out).mono ?_
      rintro e w9 ⟨rfl, hb⟩
      rw [HS.out]
      replace C_a := hide (C_a.out.below hb)
      replace C_b := hide (C_b.out.below hb)
      replace C_c := hide (C_c.out.below hb)
      replace HB := hide (Below.on HB.out hb)
      clear hb
      go_wp2_with fail
      refine (cjoin_any C_a.out C_b.out).mono ?_
      rintro e w9 ⟨v_j, L_j, rfl, -, c9, t9, hb⟩
      replace C_a := hide (C_a.out.below hb)
      replace C_b := hide (C_b.out.below hb)
      replace C_c := hide (C_c.out.below hb)
      replace HB := hide (Below.on HB.out hb)
      clear hb
      have C_j := hide c9
      have T_j := hide t9
      clear c9 t9
      go_wp2_with fail
      refine (cleq_any C_j.out C_c.out).mono ?_
      rintro e w9 ⟨rfl, hb⟩
      rw [leJ C_a.out.gd C_b.out.gd C_c.out.gd C_j.out.gd T_j.out, HQ.out, HP.out]
      replace C_a := hide (C_a.out.below hb)
      replace C_b := hide (C_b.out.below hb)
      replace C_c := hide (C_c.out.below hb)
      replace C_j := hide (C_j.out.below hb)
      replace HB := hide (Below.on HB.out hb)
      clear hb
      clear C_j
      go_wp2_with fail
      refine (cmeet_any C_a.out C_b.out).mono ?_
      rintro e w9 ⟨v_m, L_m, rfl, -, c9, t9, hb⟩
      replace C_a := hide (C_a.out.below hb)
      replace C_b := hide (C_b.out.below hb)
      replace C_c := hide (C_c.out.below hb)
      replace HB := hide (Below.on HB.out hb)
      clear hb
      have C_m := hide c9
      have T_m := hide t9
      clear c9 t9
      go_wp2_with fail
      refine (cleq_any C_c.out C_m.out).mono ?_
      rintro e w9 ⟨rfl, hb⟩
      rw [leM C_a.out.gd C_b.out.gd C_c.out.gd C_m.out.gd T_m.out, HR.out, HS.out]
      replace C_a := hide (C_a.out.below hb)
      replace C_b := hide (C_b.out.below hb)
      replace C_c := hide (C_c.out.below hb)
      replace C_m := hide (C_m.out.below hb)
      replace HB := hide (Below.on HB.out hb)
      clear hb
      clear C_m
      go_wp2_with fail
      refine (cjoin_any C_a.out C_b.out).mono ?_
      rintro e w9 ⟨v_j, L_j, rfl, -, c9, t9, hb⟩
      replace C_a := hide (C_a.out.below hb)
      replace C_b := hide (C_b.out.below hb)
      replace C_c := hide (C_c.out.below hb)
      replace HB := hide (Below.on HB.out hb)
      clear hb
      have C_j := hide c9
      have T_j := hide t9
      clear c9 t9
      go_wp2_with fail
      refine (cleq_any C_a.out C_j.out).mono ?_
      rintro e w9 ⟨rfl, hb⟩
      rw [leAJ C_a.out.gd C_b.out.gd C_j.out.gd T_j.out]
      replace C_a := hide (C_a.out.below hb)
      replace C_b := hide (C_b.out.below hb)
      replace C_c := hide (C_c.out.below hb)
      replace C_j := hide (C_j.out.below hb)
      replace HB := hide (Below.on HB.out hb)
      clear hb
      clear C_j
      go_wp2_with fail
      refine (cmeet_any C_a.out C_b.out).mono ?_
      rintro e w9 ⟨v_m, L_m, rfl, -, c9, t9, hb⟩
      replace C_a := hide (C_a.out.below hb)
      replace C_b := hide (C_b.out.below hb)
      replace C_c := hide (C_c.out.below hb)
      replace HB := hide (Below.on HB.out hb)
      clear hb
      have C_m := hide c9
      have T_m := hide t9
      clear c9 t9
      go_wp2_with fail
      refine (cleq_any C_m.out C_a.out).mono ?_
      rintro e w9 ⟨rfl, hb⟩
      rw [leMA C_a.out.gd C_b.out.gd C_m.out.gd T_m.out]
      replace C_a := hide (C_a.out.below hb)
      replace C_b := hide (C_b.out.below hb)
      replace C_c := hide (C_c.out.below hb)
      replace C_m := hide (C_m.out.below hb)
      replace HB := hide (Below.on HB.out hb)
      clear hb
      go_wp2
      go_ret
      exact ⟨rfl, HB.out⟩
    | false =>
      go_wp2_with fail
      refine (cjoin_any C_a.out C_b.out).mono ?_
      rintro e w9 ⟨v_j, L_j, rfl, -, c9, t9, hb⟩
      replace C_a := hide (C_a.out.below hb)
      replace C_b := hide (C_b.out.below hb)
      replace C_c := hide (C_c.out.below hb)
      replace HB := hide (Below.on HB.out hb)
      clear hb
      have C_j := hide c9
      have T_j := hide t9
      clear c9 t9
      go_wp2_with fail
      refine (cleq_any C_j.out C_c.out).mono ?_
      rintro e w9 ⟨rfl, hb⟩
      rw [leJ C_a.out.gd C_b.out.gd C_c.out.gd C_j.out.gd T_j.out, HQ.out, HP.out]
      replace C_a := hide (C_a.out.below hb)
      replace C_b := hide (C_b.out.below hb)
      replace C_c := hide (C_c.out.below hb)
      replace C_j := hide (C_j.out.below hb)
      replace HB := hide (Below.on HB.out hb)
      clear hb
      clear C_j
      go_wp2_with fail
      refine (cmeet_any C_a.out C_b.out).mono ?_
      rintro e w9 ⟨v_m, L_m, rfl, -, c9, t9, hb⟩
      replace C_a := hide (C_a.out.below hb)
      replace C_b := hide (C_b.out.below hb)
      replace C_c := hide (C_c.out.below hb)
      replace HB := hide (Below.on HB.out hb)
      clear hb
      have C_m := hide c9
      have T_m := hide t9
      clear c9 t9
      go_wp2_with fail
      refine (cleq_any C_c.out C_m.out).mono ?_
      rintro e w9 ⟨rfl, hb⟩
      rw [leM C_a.out.gd C_b.out.gd C_c.out.gd C_m.out.gd T_m.out, HR.out, HS.out]
      replace C_a := hide (C_a.out.below hb)
      replace C_b := hide (C_b.out.below hb)
      replace C_c := hide (C_c.out.below hb)
      replace C_m := hide (C_m.out.below hb)
      replace HB := hide (Below.on HB.out hb)
      clear hb
      clear C_m
      go_wp2_with fail
      refine (cjoin_any C_a.out C_b.out).mono ?_
      rintro e w9 ⟨v_j, L_j, rfl, -, c9, t9, hb⟩
      replace C_a := hide (C_a.out.below hb)
      replace C_b := hide (C_b.out.below hb)
      replace C_c := hide (C_c.out.below hb)
      replace HB := hide (Below.on HB.out hb)
      clear hb
      have C_j := hide c9
      have T_j := hide t9
      clear c9 t9
      go_wp2_with fail
      refine (cleq_any C_a.out C_j.out).mono ?_
      rintro e w9 ⟨rfl, hb⟩
      rw [leAJ C_a.out.gd C_b.out.gd C_j.out.gd T_j.out]
      replace C_a := hide (C_a.out.below hb)
      replace C_b := hide (C_b.out.below hb)
      replace C_c := hide (C_c.out.below hb)
      replace C_j := hide (C_j.out.below hb)
      replace HB := hide (Below.on HB.out hb)
      clear hb
      clear C_j
      go_wp2_with fail
      refine (cmeet_any C_a.out C_b.out).mono ?_
      rintro e w9 ⟨v_m, L_m, rfl, -, c9, t9, hb⟩
      replace C_a := hide (C_a.out.below hb)
      replace C_b := hide (C_b.out.below hb)
      replace C_c := hide (C_c.out.below hb)
      replace HB := hide (Below.on HB.out hb)
      clear hb
      have C_m := hide c9
      have T_m := hide t9
      clear c9 t9
      go_wp2_with fail
      refine (cleq_any C_m.out C_a.out).mono ?_
      rintro e w9 ⟨rfl, hb⟩
      rw [leMA C_a.out.gd C_b.out.gd C_m.out.gd T_m.out]
      replace C_a := hide (C_a.out.below hb)
      replace C_b := hide (C_b.out.below hb)
      replace C_c := hide (C_c.out.below hb)
      replace C_m := hide (C_m.out.below hb)
      replace HB := hide (Below.on HB.out hb)
      clear hb
      go_wp2
      go_ret
      exact ⟨rfl, HB.out⟩
set_option maxRecDepth 100000 in
set_option maxHeartbeats 40000000 in
theorem bounds_ff {w : World} {va vb vc : Value} {A B C : List Tk} (ca : CV w va A) (cb : CV w vb B) (cc : CV w vc C) (hx : leB A B = false) (hy : leB B A = false) : Calls Try.prog 8 #[va, vb, vc] w fun e w' => e = .returned (.bool true) ∧ Below w.heap.size w w' := by
  have HAw := hide (awake_any w)
  have HN := hide (fun W => num_any 0 W)
  have HG : Hid (∀ W, Below w.heap.size w W → Calls Try.prog 27 #[va, vb, vc] W fun e w' => e = .returned (.bool true) ∧ Below W.heap.size W w') := hide (fun W hW => by
    have h := allgood_any (ca.cl.below hW) (cb.cl.below hW) (cc.cl.below hW)
    rw [ca.gd, cb.gd, cc.gd] at h
    exact h)
  obtain ⟨p, hp⟩ : ∃ p, leB B C = p := ⟨_, rfl⟩
  obtain ⟨q, hq⟩ : ∃ q, leB A C = q := ⟨_, rfl⟩
  obtain ⟨r, hr⟩ : ∃ r, leB C A = r := ⟨_, rfl⟩
  obtain ⟨s, hs⟩ : ∃ s, leB C B = s := ⟨_, rfl⟩
  have HX := hide hx
  have HY := hide hy
  have HP := hide hp
  have HQ := hide hq
  have HR := hide hr
  have HS := hide hs
  have C_a := hide ca
  have C_b := hide cb
  have C_c := hide cc
  clear ca cb cc hx hy hp hq hr hs
  go_enter Try.func8, Try.ntmps8
  go_wp2_with fail
  refine HAw.out.mono ?_
  rintro e w0 ⟨rfl, hb⟩
  have HB := hide hb
  replace C_a := hide (C_a.out.below hb)
  replace C_b := hide (C_b.out.below hb)
  replace C_c := hide (C_c.out.below hb)
  clear hb HAw
  go_wp2_with fail
  refine (HG.out _ HB.out).mono ?_
  rintro e w00 ⟨rfl, hb⟩
  replace C_a := hide (C_a.out.below hb)
  replace C_b := hide (C_b.out.below hb)
  replace C_c := hide (C_c.out.below hb)
  replace HB := hide (Below.on HB.out hb)
  clear hb HG
  go_wp2_with fail
  refine (cleq_any C_a.out C_b.out).mono ?_
  rintro e w9 ⟨rfl, hb⟩
  rw [HX.out]
  replace C_a := hide (C_a.out.below hb)
  replace C_b := hide (C_b.out.below hb)
  replace C_c := hide (C_c.out.below hb)
  replace HB := hide (Below.on HB.out hb)
  clear hb
  go_wp2_with fail
  refine (cleq_any C_b.out C_a.out).mono ?_
  rintro e w9 ⟨rfl, hb⟩
  rw [HY.out]
  replace C_a := hide (C_a.out.below hb)
  replace C_b := hide (C_b.out.below hb)
  replace C_c := hide (C_c.out.below hb)
  replace HB := hide (Below.on HB.out hb)
  clear hb
  go_wp2_with fail
  refine (capartP_any C_a.out C_b.out).mono ?_
  rintro e w9 ⟨rfl, hb⟩
  rw [HX.out, HY.out]
  replace C_a := hide (C_a.out.below hb)
  replace C_b := hide (C_b.out.below hb)
  replace C_c := hide (C_c.out.below hb)
  replace HB := hide (Below.on HB.out hb)
  clear hb
  go_wp2_with fail
  refine (HN.out _).mono ?_
  rintro e w9 ⟨rfl, hw⟩
  rw [hw]
  clear hw w9
  go_wp2_with fail
  refine (csame_any C_a.out.cl C_b.out.cl).mono ?_
  rintro e w9 ⟨rfl, hb⟩
  rw [eqB C_a.out.gd C_b.out.gd, HX.out, HY.out]
  replace C_a := hide (C_a.out.below hb)
  replace C_b := hide (C_b.out.below hb)
  replace C_c := hide (C_c.out.below hb)
  replace HB := hide (Below.on HB.out hb)
  clear hb
  go_wp2_with fail
  refine (cleq_any C_a.out C_a.out).mono ?_
  rintro e w9 ⟨rfl, hb⟩
  rw [leB_refl C_a.out.gd]
  replace C_a := hide (C_a.out.below hb)
  replace C_b := hide (C_b.out.below hb)
  replace C_c := hide (C_c.out.below hb)
  replace HB := hide (Below.on HB.out hb)
  clear hb
  go_wp2_with fail
  refine (cleq_any (CV.nil _) C_a.out).mono ?_
  rintro e w9 ⟨rfl, hb⟩
  rw [leB_nil]
  replace C_a := hide (C_a.out.below hb)
  replace C_b := hide (C_b.out.below hb)
  replace C_c := hide (C_c.out.below hb)
  replace HB := hide (Below.on HB.out hb)
  clear hb
  go_wp2_with fail
  refine (cjoin_any C_a.out C_b.out).mono ?_
  rintro e w9 ⟨v_j, L_j, rfl, -, c9, t9, hb⟩
  replace C_a := hide (C_a.out.below hb)
  replace C_b := hide (C_b.out.below hb)
  replace C_c := hide (C_c.out.below hb)
  replace HB := hide (Below.on HB.out hb)
  clear hb
  have C_j := hide c9
  have T_j := hide t9
  clear c9 t9
  go_wp2_with fail
  refine (csame_any C_j.out.cl C_b.out.cl).mono ?_
  rintro e w9 ⟨rfl, hb⟩
  rw [eqJ C_a.out.gd C_b.out.gd C_j.out.gd T_j.out, HX.out]
  replace C_a := hide (C_a.out.below hb)
  replace C_b := hide (C_b.out.below hb)
  replace C_c := hide (C_c.out.below hb)
  replace C_j := hide (C_j.out.below hb)
  replace HB := hide (Below.on HB.out hb)
  clear hb
  clear C_j
  go_wp2_with fail
  refine (cmeet_any C_a.out C_b.out).mono ?_
  rintro e w9 ⟨v_m, L_m, rfl, -, c9, t9, hb⟩
  replace C_a := hide (C_a.out.below hb)
  replace C_b := hide (C_b.out.below hb)
  replace C_c := hide (C_c.out.below hb)
  replace HB := hide (Below.on HB.out hb)
  clear hb
  have C_m := hide c9
  have T_m := hide t9
  clear c9 t9
  go_wp2_with fail
  refine (csame_any C_m.out.cl C_a.out.cl).mono ?_
  rintro e w9 ⟨rfl, hb⟩
  rw [eqM C_a.out.gd C_b.out.gd C_m.out.gd T_m.out, HX.out]
  replace C_a := hide (C_a.out.below hb)
  replace C_b := hide (C_b.out.below hb)
  replace C_c := hide (C_c.out.below hb)
  replace C_m := hide (C_m.out.below hb)
  replace HB := hide (Below.on HB.out hb)
  clear hb
  clear C_m
  go_wp2_with fail
  refine (cleq_any C_a.out C_c.out).mono ?_
  rintro e w9 ⟨rfl, hb⟩
  rw [HQ.out]
  replace C_a := hide (C_a.out.below hb)
  replace C_b := hide (C_b.out.below hb)
  replace C_c := hide (C_c.out.below hb)
  replace HB := hide (Below.on HB.out hb)
  clear hb
  cases q with
  | true =>
    go_wp2_with fail
    refine (cleq_any C_b.out C_c.out).mono ?_
    rintro e w9 ⟨rfl, hb⟩
    rw [HP.out]
    replace C_a := hide (C_a.out.below hb)
    replace C_b := hide (C_b.out.below hb)
    replace C_c := hide (C_c.out.below hb)
    replace HB := hide (Below.on HB.out hb)
    clear hb
    go_wp2_with fail
    refine (cleq_any C_c.out C_a.out).mono ?_
    rintro e w9 ⟨rfl, hb⟩
    rw [HR.out]
    replace C_a := hide (C_a.out.below hb)
    replace C_b := hide (C_b.out.below hb)
    replace C_c := hide (C_c.out.below hb)
    replace HB := hide (Below.on HB.out hb)
    clear hb
    cases r with
    | true =>
      go_wp2_with fail
      refine (cleq_any C_c.out C_b.out).mono ?_
      rintro e w9 ⟨rfl, hb⟩
      rw [HS.out]
      replace C_a := hide (C_a.out.below hb)
      replace C_b := hide (C_b.out.below hb)
      replace C_c := hide (C_c.out.below hb)
      replace HB := hide (Below.on HB.out hb)
      clear hb
      go_wp2_with fail
      refine (cjoin_any C_a.out C_b.out).mono ?_
      rintro e w9 ⟨v_j, L_j, rfl, -, c9, t9, hb⟩
      replace C_a := hide (C_a.out.below hb)
      replace C_b := hide (C_b.out.below hb)
      replace C_c := hide (C_c.out.below hb)
      replace HB := hide (Below.on HB.out hb)
      clear hb
      have C_j := hide c9
      have T_j := hide t9
      clear c9 t9
      go_wp2_with fail
      refine (cleq_any C_j.out C_c.out).mono ?_
      rintro e w9 ⟨rfl, hb⟩
      rw [leJ C_a.out.gd C_b.out.gd C_c.out.gd C_j.out.gd T_j.out, HQ.out, HP.out]
      replace C_a := hide (C_a.out.below hb)
      replace C_b := hide (C_b.out.below hb)
      replace C_c := hide (C_c.out.below hb)
      replace C_j := hide (C_j.out.below hb)
      replace HB := hide (Below.on HB.out hb)
      clear hb
      clear C_j
      go_wp2_with fail
      refine (cmeet_any C_a.out C_b.out).mono ?_
      rintro e w9 ⟨v_m, L_m, rfl, -, c9, t9, hb⟩
      replace C_a := hide (C_a.out.below hb)
      replace C_b := hide (C_b.out.below hb)
      replace C_c := hide (C_c.out.below hb)
      replace HB := hide (Below.on HB.out hb)
      clear hb
      have C_m := hide c9
      have T_m := hide t9
      clear c9 t9
      go_wp2_with fail
      refine (cleq_any C_c.out C_m.out).mono ?_
      rintro e w9 ⟨rfl, hb⟩
      rw [leM C_a.out.gd C_b.out.gd C_c.out.gd C_m.out.gd T_m.out, HR.out, HS.out]
      replace C_a := hide (C_a.out.below hb)
      replace C_b := hide (C_b.out.below hb)
      replace C_c := hide (C_c.out.below hb)
      replace C_m := hide (C_m.out.below hb)
      replace HB := hide (Below.on HB.out hb)
      clear hb
      clear C_m
      go_wp2_with fail
      refine (cjoin_any C_a.out C_b.out).mono ?_
      rintro e w9 ⟨v_j, L_j, rfl, -, c9, t9, hb⟩
      replace C_a := hide (C_a.out.below hb)
      replace C_b := hide (C_b.out.below hb)
      replace C_c := hide (C_c.out.below hb)
      replace HB := hide (Below.on HB.out hb)
      clear hb
      have C_j := hide c9
      have T_j := hide t9
      clear c9 t9
      go_wp2_with fail
      refine (cleq_any C_a.out C_j.out).mono ?_
      rintro e w9 ⟨rfl, hb⟩
      rw [leAJ C_a.out.gd C_b.out.gd C_j.out.gd T_j.out]
      replace C_a := hide (C_a.out.below hb)
      replace C_b := hide (C_b.out.below hb)
      replace C_c := hide (C_c.out.below hb)
      replace C_j := hide (C_j.out.below hb)
      replace HB := hide (Below.on HB.out hb)
      clear hb
      clear C_j
      go_wp2_with fail
      refine (cmeet_any C_a.out C_b.out).mono ?_
      rintro e w9 ⟨v_m, L_m, rfl, -, c9, t9, hb⟩
      replace C_a := hide (C_a.out.below hb)
      replace C_b := hide (C_b.out.below hb)
      replace C_c := hide (C_c.out.below hb)
      replace HB := hide (Below.on HB.out hb)
      clear hb
      have C_m := hide c9
      have T_m := hide t9
      clear c9 t9
      go_wp2_with fail
      refine (cleq_any C_m.out C_a.out).mono ?_
      rintro e w9 ⟨rfl, hb⟩
      rw [leMA C_a.out.gd C_b.out.gd C_m.out.gd T_m.out]
      replace C_a := hide (C_a.out.below hb)
      replace C_b := hide (C_b.out.below hb)
      replace C_c := hide (C_c.out.below hb)
      replace C_m := hide (C_m.out.below hb)
      replace HB := hide (Below.on HB.out hb)
      clear hb
      go_wp2
      go_ret
      exact ⟨rfl, HB.out⟩
    | false =>
      go_wp2_with fail
      refine (cjoin_any C_a.out C_b.out).mono ?_
      rintro e w9 ⟨v_j, L_j, rfl, -, c9, t9, hb⟩
      replace C_a := hide (C_a.out.below hb)
      replace C_b := hide (C_b.out.below hb)
      replace C_c := hide (C_c.out.below hb)
      replace HB := hide (Below.on HB.out hb)
      clear hb
      have C_j := hide c9
      have T_j := hide t9
      clear c9 t9
      go_wp2_with fail
      refine (cleq_any C_j.out C_c.out).mono ?_
      rintro e w9 ⟨rfl, hb⟩
      rw [leJ C_a.out.gd C_b.out.gd C_c.out.gd C_j.out.gd T_j.out, HQ.out, HP.out]
      replace C_a := hide (C_a.out.below hb)
      replace C_b := hide (C_b.out.below hb)
      replace C_c := hide (C_c.out.below hb)
      replace C_j := hide (C_j.out.below hb)
      replace HB := hide (Below.on HB.out hb)
      clear hb
      clear C_j
      go_wp2_with fail
      refine (cmeet_any C_a.out C_b.out).mono ?_
      rintro e w9 ⟨v_m, L_m, rfl, -, c9, t9, hb⟩
      replace C_a := hide (C_a.out.below hb)
      replace C_b := hide (C_b.out.below hb)
      replace C_c := hide (C_c.out.below hb)
      replace HB := hide (Below.on HB.out hb)
      clear hb
      have C_m := hide c9
      have T_m := hide t9
      clear c9 t9
      go_wp2_with fail
      refine (cleq_any C_c.out C_m.out).mono ?_
      rintro e w9 ⟨rfl, hb⟩
      rw [leM C_a.out.gd C_b.out.gd C_c.out.gd C_m.out.gd T_m.out, HR.out, HS.out]
      replace C_a := hide (C_a.out.below hb)
      replace C_b := hide (C_b.out.below hb)
      replace C_c := hide (C_c.out.below hb)
      replace C_m := hide (C_m.out.below hb)
      replace HB := hide (Below.on HB.out hb)
      clear hb
      clear C_m
      go_wp2_with fail
      refine (cjoin_any C_a.out C_b.out).mono ?_
      rintro e w9 ⟨v_j, L_j, rfl, -, c9, t9, hb⟩
      replace C_a := hide (C_a.out.below hb)
      replace C_b := hide (C_b.out.below hb)
      replace C_c := hide (C_c.out.below hb)
      replace HB := hide (Below.on HB.out hb)
      clear hb
      have C_j := hide c9
      have T_j := hide t9
      clear c9 t9
      go_wp2_with fail
      refine (cleq_any C_a.out C_j.out).mono ?_
      rintro e w9 ⟨rfl, hb⟩
      rw [leAJ C_a.out.gd C_b.out.gd C_j.out.gd T_j.out]
      replace C_a := hide (C_a.out.below hb)
      replace C_b := hide (C_b.out.below hb)
      replace C_c := hide (C_c.out.below hb)
      replace C_j := hide (C_j.out.below hb)
      replace HB := hide (Below.on HB.out hb)
      clear hb
      clear C_j
      go_wp2_with fail
      refine (cmeet_any C_a.out C_b.out).mono ?_
      rintro e w9 ⟨v_m, L_m, rfl, -, c9, t9, hb⟩
      replace C_a := hide (C_a.out.below hb)
      replace C_b := hide (C_b.out.below hb)
      replace C_c := hide (C_c.out.below hb)
      replace HB := hide (Below.on HB.out hb)
      clear hb
      have C_m := hide c9
      have T_m := hide t9
      clear c9 t9
      go_wp2_with fail
      refine (cleq_any C_m.out C_a.out).mono ?_
      rintro e w9 ⟨rfl, hb⟩
      rw [leMA C_a.out.gd C_b.out.gd C_m.out.gd T_m.out]
      replace C_a := hide (C_a.out.below hb)
      replace C_b := hide (C_b.out.below hb)
      replace C_c := hide (C_c.out.below hb)
      replace C_m := hide (C_m.out.below hb)
      replace HB := hide (Below.on HB.out hb)
      clear hb
      go_wp2
      go_ret
      exact ⟨rfl, HB.out⟩
  | false =>
    go_wp2_with fail
    refine (cleq_any C_c.out C_a.out).mono ?_
    rintro e w9 ⟨rfl, hb⟩
    rw [HR.out]
    replace C_a := hide (C_a.out.below hb)
    replace C_b := hide (C_b.out.below hb)
    replace C_c := hide (C_c.out.below hb)
    replace HB := hide (Below.on HB.out hb)
    clear hb
    cases r with
    | true =>
      go_wp2_with fail
      refine (cleq_any C_c.out C_b.out).mono ?_
      rintro e w9 ⟨rfl, hb⟩
      rw [HS.out]
      replace C_a := hide (C_a.out.below hb)
      replace C_b := hide (C_b.out.below hb)
      replace C_c := hide (C_c.out.below hb)
      replace HB := hide (Below.on HB.out hb)
      clear hb
      go_wp2_with fail
      refine (cjoin_any C_a.out C_b.out).mono ?_
      rintro e w9 ⟨v_j, L_j, rfl, -, c9, t9, hb⟩
      replace C_a := hide (C_a.out.below hb)
      replace C_b := hide (C_b.out.below hb)
      replace C_c := hide (C_c.out.below hb)
      replace HB := hide (Below.on HB.out hb)
      clear hb
      have C_j := hide c9
      have T_j := hide t9
      clear c9 t9
      go_wp2_with fail
      refine (cleq_any C_j.out C_c.out).mono ?_
      rintro e w9 ⟨rfl, hb⟩
      rw [leJ C_a.out.gd C_b.out.gd C_c.out.gd C_j.out.gd T_j.out, HQ.out, HP.out]
      replace C_a := hide (C_a.out.below hb)
      replace C_b := hide (C_b.out.below hb)
      replace C_c := hide (C_c.out.below hb)
      replace C_j := hide (C_j.out.below hb)
      replace HB := hide (Below.on HB.out hb)
      clear hb
      clear C_j
      go_wp2_with fail
      refine (cmeet_any C_a.out C_b.out).mono ?_
      rintro e w9 ⟨v_m, L_m, rfl, -, c9, t9, hb⟩
      replace C_a := hide (C_a.out.below hb)
      replace C_b := hide (C_b.out.below hb)
      replace C_c := hide (C_c.out.below hb)
      replace HB := hide (Below.on HB.out hb)
      clear hb
      have C_m := hide c9
      have T_m := hide t9
      clear c9 t9
      go_wp2_with fail
      refine (cleq_any C_c.out C_m.out).mono ?_
      rintro e w9 ⟨rfl, hb⟩
      rw [leM C_a.out.gd C_b.out.gd C_c.out.gd C_m.out.gd T_m.out, HR.out, HS.out]
      replace C_a := hide (C_a.out.below hb)
      replace C_b := hide (C_b.out.below hb)
      replace C_c := hide (C_c.out.below hb)
      replace C_m := hide (C_m.out.below hb)
      replace HB := hide (Below.on HB.out hb)
      clear hb
      clear C_m
      go_wp2_with fail
      refine (cjoin_any C_a.out C_b.out).mono ?_
      rintro e w9 ⟨v_j, L_j, rfl, -, c9, t9, hb⟩
      replace C_a := hide (C_a.out.below hb)
      replace C_b := hide (C_b.out.below hb)
      replace C_c := hide (C_c.out.below hb)
      replace HB := hide (Below.on HB.out hb)
      clear hb
      have C_j := hide c9
      have T_j := hide t9
      clear c9 t9
      go_wp2_with fail
      refine (cleq_any C_a.out C_j.out).mono ?_
      rintro e w9 ⟨rfl, hb⟩
      rw [leAJ C_a.out.gd C_b.out.gd C_j.out.gd T_j.out]
      replace C_a := hide (C_a.out.below hb)
      replace C_b := hide (C_b.out.below hb)
      replace C_c := hide (C_c.out.below hb)
      replace C_j := hide (C_j.out.below hb)
      replace HB := hide (Below.on HB.out hb)
      clear hb
      clear C_j
      go_wp2_with fail
      refine (cmeet_any C_a.out C_b.out).mono ?_
      rintro e w9 ⟨v_m, L_m, rfl, -, c9, t9, hb⟩
      replace C_a := hide (C_a.out.below hb)
      replace C_b := hide (C_b.out.below hb)
      replace C_c := hide (C_c.out.below hb)
      replace HB := hide (Below.on HB.out hb)
      clear hb
      have C_m := hide c9
      have T_m := hide t9
      clear c9 t9
      go_wp2_with fail
      refine (cleq_any C_m.out C_a.out).mono ?_
      rintro e w9 ⟨rfl, hb⟩
      rw [leMA C_a.out.gd C_b.out.gd C_m.out.gd T_m.out]
      replace C_a := hide (C_a.out.below hb)
      replace C_b := hide (C_b.out.below hb)
      replace C_c := hide (C_c.out.below hb)
      replace C_m := hide (C_m.out.below hb)
      replace HB := hide (Below.on HB.out hb)
      clear hb
      go_wp2
      go_ret
      exact ⟨rfl, HB.out⟩
    | false =>
      go_wp2_with fail
      refine (cjoin_any C_a.out C_b.out).mono ?_
      rintro e w9 ⟨v_j, L_j, rfl, -, c9, t9, hb⟩
      replace C_a := hide (C_a.out.below hb)
      replace C_b := hide (C_b.out.below hb)
      replace C_c := hide (C_c.out.below hb)
      replace HB := hide (Below.on HB.out hb)
      clear hb
      have C_j := hide c9
      have T_j := hide t9
      clear c9 t9
      go_wp2_with fail
      refine (cleq_any C_j.out C_c.out).mono ?_
      rintro e w9 ⟨rfl, hb⟩
      rw [leJ C_a.out.gd C_b.out.gd C_c.out.gd C_j.out.gd T_j.out, HQ.out, HP.out]
      replace C_a := hide (C_a.out.below hb)
      replace C_b := hide (C_b.out.below hb)
      replace C_c := hide (C_c.out.below hb)
      replace C_j := hide (C_j.out.below hb)
      replace HB := hide (Below.on HB.out hb)
      clear hb
      clear C_j
      go_wp2_with fail
      refine (cmeet_any C_a.out C_b.out).mono ?_
      rintro e w9 ⟨v_m, L_m, rfl, -, c9, t9, hb⟩
      replace C_a := hide (C_a.out.below hb)
      replace C_b := hide (C_b.out.below hb)
      replace C_c := hide (C_c.out.below hb)
      replace HB := hide (Below.on HB.out hb)
      clear hb
      have C_m := hide c9
      have T_m := hide t9
      clear c9 t9
      go_wp2_with fail
      refine (cleq_any C_c.out C_m.out).mono ?_
      rintro e w9 ⟨rfl, hb⟩
      rw [leM C_a.out.gd C_b.out.gd C_c.out.gd C_m.out.gd T_m.out, HR.out, HS.out]
      replace C_a := hide (C_a.out.below hb)
      replace C_b := hide (C_b.out.below hb)
      replace C_c := hide (C_c.out.below hb)
      replace C_m := hide (C_m.out.below hb)
      replace HB := hide (Below.on HB.out hb)
      clear hb
      clear C_m
      go_wp2_with fail
      refine (cjoin_any C_a.out C_b.out).mono ?_
      rintro e w9 ⟨v_j, L_j, rfl, -, c9, t9, hb⟩
      replace C_a := hide (C_a.out.below hb)
      replace C_b := hide (C_b.out.below hb)
      replace C_c := hide (C_c.out.below hb)
      replace HB := hide (Below.on HB.out hb)
      clear hb
      have C_j := hide c9
      have T_j := hide t9
      clear c9 t9
      go_wp2_with fail
      refine (cleq_any C_a.out C_j.out).mono ?_
      rintro e w9 ⟨rfl, hb⟩
      rw [leAJ C_a.out.gd C_b.out.gd C_j.out.gd T_j.out]
      replace C_a := hide (C_a.out.below hb)
      replace C_b := hide (C_b.out.below hb)
      replace C_c := hide (C_c.out.below hb)
      replace C_j := hide (C_j.out.below hb)
      replace HB := hide (Below.on HB.out hb)
      clear hb
      clear C_j
      go_wp2_with fail
      refine (cmeet_any C_a.out C_b.out).mono ?_
      rintro e w9 ⟨v_m, L_m, rfl, -, c9, t9, hb⟩
      replace C_a := hide (C_a.out.below hb)
      replace C_b := hide (C_b.out.below hb)
      replace C_c := hide (C_c.out.below hb)
      replace HB := hide (Below.on HB.out hb)
      clear hb
      have C_m := hide c9
      have T_m := hide t9
      clear c9 t9
      go_wp2_with fail
      refine (cleq_any C_m.out C_a.out).mono ?_
      rintro e w9 ⟨rfl, hb⟩
      rw [leMA C_a.out.gd C_b.out.gd C_m.out.gd T_m.out]
      replace C_a := hide (C_a.out.below hb)
      replace C_b := hide (C_b.out.below hb)
      replace C_c := hide (C_c.out.below hb)
      replace C_m := hide (C_m.out.below hb)
      replace HB := hide (Below.on HB.out hb)
      clear hb
      go_wp2
      go_ret
      exact ⟨rfl, HB.out⟩
set_option maxRecDepth 100000 in
theorem clockBounds {w : World} {va vb vc : Value} {A B C : List Tk} (ha : CL w va A) (hb : CL w vb B) (hc : CL w vc C) : Calls Try.prog 8 #[va, vb, vc] w fun e w' => e = .returned (.bool true) ∧ Below w.heap.size w w' := by
  cases hg : (gd 0 A && (gd 0 B && gd 0 C)) with
  | true =>
    simp only [Bool.and_eq_true] at hg
    cases hx : leB A B <;> cases hy : leB B A
    · exact bounds_ff ⟨ha, hg.1⟩ ⟨hb, hg.2.1⟩ ⟨hc, hg.2.2⟩ hx hy
    · exact bounds_ft ⟨ha, hg.1⟩ ⟨hb, hg.2.1⟩ ⟨hc, hg.2.2⟩ hx hy
    · exact bounds_tf ⟨ha, hg.1⟩ ⟨hb, hg.2.1⟩ ⟨hc, hg.2.2⟩ hx hy
    · exact bounds_tt ⟨ha, hg.1⟩ ⟨hb, hg.2.1⟩ ⟨hc, hg.2.2⟩ hx hy
  | false =>
    have HAw := hide (awake_any w)
    have HG : Hid (∀ W, Below w.heap.size w W → Calls Try.prog 27 #[va, vb, vc] W fun e w' => e = .returned (.bool false) ∧ Below W.heap.size W w') := hide (fun W hW => by
      have h := allgood_any (ha.below hW) (hb.below hW) (hc.below hW)
      rw [hg] at h
      exact h)
    clear ha hb hc hg
    go_enter Try.func8, Try.ntmps8
    go_wp2_with fail
    refine HAw.out.mono ?_
    rintro e w0 ⟨rfl, hb⟩
    have HB := hide hb
    clear hb HAw
    go_wp2_with fail
    refine (HG.out _ HB.out).mono ?_
    rintro e w00 ⟨rfl, hb⟩
    replace HB := hide (Below.on HB.out hb)
    clear hb HG
    go_wp2
    go_ret
    exact ⟨rfl, HB.out⟩
end Go.Proofs.Ytajkenbcndmjpaa
