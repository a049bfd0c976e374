/-
  ClockTimes: the walk.
-/
import Derived.Test.YtajkenbcndmjpabOwB
namespace Go.Proofs.Ytajkenbcndmjpab
open Go.RowKit
set_option maxRecDepth 100000 in
set_option maxHeartbeats 16000000 in
theorem times_bad {w : World} {va vb : Value} {A B : List Tk} (g h t : Int) (ha : CL w va A) (hb : CL w vb B) (hx : (gd 0 A && (gd 0 B && gd 0 [])) = false) : Calls Try.prog 5 #[va, vb, .int .i64 g, .int .i64 h, .int .i64 t] w fun e w' => e = .returned (.bool true) ∧ Below w.heap.size w w' := by
  have HA := hide ha
  have HBv := hide hb
  have HB := hide (Below.refl w.heap.size w)
  have HAw := hide (awake_any w)
  have HN := hide num_any
  have HX := hide hx
  clear hx
  clear ha hb
  go_enter Try.func5, Try.ntmps5
  go_wp2_with fail
  refine (HAw.out).mono ?_
  rintro e w9 ⟨rfl, hb⟩
  replace HA := hide (HA.out.below hb)
  replace HBv := hide (HBv.out.below hb)
  replace HB := hide (Below.on HB.out hb)
  clear hb
  go_wp2_with fail
  refine (allgood_any HA.out HBv.out (CV.nil _).cl).mono ?_
  rintro e w9 ⟨rfl, hb⟩
  replace HA := hide (HA.out.below hb)
  replace HBv := hide (HBv.out.below hb)
  replace HB := hide (Below.on HB.out hb)
  rw [HX.out]
  clear hb
  go_wp2
  go_ret
  exact ⟨rfl, HB.out⟩
set_option maxRecDepth 100000 in
set_option maxHeartbeats 16000000 in
theorem times_out0 {w : World} {va vb : Value} {A B : List Tk} (g h t : Int) (ha : CL w va A) (hb : CL w vb B) (hx : (gd 0 A && (gd 0 B && gd 0 [])) = true) (hy : g < 0) : Calls Try.prog 5 #[va, vb, .int .i64 g, .int .i64 h, .int .i64 t] w fun e w' => e = .returned (.bool true) ∧ Below w.heap.size w w' := by
  have HA := hide ha
  have HBv := hide hb
  have HB := hide (Below.refl w.heap.size w)
  have HAw := hide (awake_any w)
  have HN := hide num_any
  have HX := hide hx
  clear hx
  clear ha hb
  go_enter Try.func5, Try.ntmps5
  go_wp2_with fail
  refine (HAw.out).mono ?_
  rintro e w9 ⟨rfl, hb⟩
  replace HA := hide (HA.out.below hb)
  replace HBv := hide (HBv.out.below hb)
  replace HB := hide (Below.on HB.out hb)
  clear hb
  go_wp2_with fail
  refine (allgood_any HA.out HBv.out (CV.nil _).cl).mono ?_
  rintro e w9 ⟨rfl, hb⟩
  replace HA := hide (HA.out.below hb)
  replace HBv := hide (HBv.out.below hb)
  replace HB := hide (Below.on HB.out hb)
  rw [HX.out]
  clear hb
  go_wp2
  go_ret
  exact ⟨rfl, HB.out⟩
set_option maxRecDepth 100000 in
set_option maxHeartbeats 16000000 in
theorem times_out1 {w : World} {va vb : Value} {A B : List Tk} (g h t : Int) (ha : CL w va A) (hb : CL w vb B) (hx : (gd 0 A && (gd 0 B && gd 0 [])) = true) (hy0 : ¬ g < 0) (hy : 65535 < g) : Calls Try.prog 5 #[va, vb, .int .i64 g, .int .i64 h, .int .i64 t] w fun e w' => e = .returned (.bool true) ∧ Below w.heap.size w w' := by
  have HA := hide ha
  have HBv := hide hb
  have HB := hide (Below.refl w.heap.size w)
  have HAw := hide (awake_any w)
  have HN := hide num_any
  have HX := hide hx
  clear hx
  clear ha hb
  go_enter Try.func5, Try.ntmps5
  go_wp2_with fail
  refine (HAw.out).mono ?_
  rintro e w9 ⟨rfl, hb⟩
  replace HA := hide (HA.out.below hb)
  replace HBv := hide (HBv.out.below hb)
  replace HB := hide (Below.on HB.out hb)
  clear hb
  go_wp2_with fail
  refine (allgood_any HA.out HBv.out (CV.nil _).cl).mono ?_
  rintro e w9 ⟨rfl, hb⟩
  replace HA := hide (HA.out.below hb)
  replace HBv := hide (HBv.out.below hb)
  replace HB := hide (Below.on HB.out hb)
  rw [HX.out]
  clear hb
  go_wp2
  go_ret
  exact ⟨rfl, HB.out⟩
set_option maxRecDepth 100000 in
set_option maxHeartbeats 16000000 in
theorem times_out2 {w : World} {va vb : Value} {A B : List Tk} (g h t : Int) (ha : CL w va A) (hb : CL w vb B) (hx : (gd 0 A && (gd 0 B && gd 0 [])) = true) (hy0 : ¬ g < 0) (hy1 : ¬ 65535 < g) (hy : t < 0) : Calls Try.prog 5 #[va, vb, .int .i64 g, .int .i64 h, .int .i64 t] w fun e w' => e = .returned (.bool true) ∧ Below w.heap.size w w' := by
  have HA := hide ha
  have HBv := hide hb
  have HB := hide (Below.refl w.heap.size w)
  have HAw := hide (awake_any w)
  have HN := hide num_any
  have HX := hide hx
  clear hx
  clear ha hb
  go_enter Try.func5, Try.ntmps5
  go_wp2_with fail
  refine (HAw.out).mono ?_
  rintro e w9 ⟨rfl, hb⟩
  replace HA := hide (HA.out.below hb)
  replace HBv := hide (HBv.out.below hb)
  replace HB := hide (Below.on HB.out hb)
  clear hb
  go_wp2_with fail
  refine (allgood_any HA.out HBv.out (CV.nil _).cl).mono ?_
  rintro e w9 ⟨rfl, hb⟩
  replace HA := hide (HA.out.below hb)
  replace HBv := hide (HBv.out.below hb)
  replace HB := hide (Below.on HB.out hb)
  rw [HX.out]
  clear hb
  go_wp2
  go_ret
  exact ⟨rfl, HB.out⟩
set_option maxRecDepth 100000 in
set_option maxHeartbeats 16000000 in
theorem times_ok {w : World} {va vb : Value} {A B : List Tk} (g h t : Int) (ha : CL w va A) (hb : CL w vb B) (hf : fits A) (hga : gd 0 A = true) (hgb : gd 0 B = true) (hy0 : ¬ g < 0) (hy1 : ¬ 65535 < g) (hy2 : ¬ t < 0) : Calls Try.prog 5 #[va, vb, .int .i64 g, .int .i64 h, .int .i64 t] w fun e w' => e = .returned (.bool true) ∧ Below w.heap.size w w' := by
  have HA := hide ha
  have HBv := hide hb
  have HB := hide (Below.refl w.heap.size w)
  have HAw := hide (awake_any w)
  have HN := hide num_any
  have HX : Hid ((gd 0 A && (gd 0 B && gd 0 [])) = true) := hide (by rw [hga, hgb]; rfl)
  have HGa := hide hga
  have HGb := hide hgb
  have HF := hide hf
  have HK : Hid (0 ≤ g ∧ g < 65536 ∧ 0 ≤ t) := hide ⟨by omega, by omega, by omega⟩
  obtain ⟨X, hX⟩ : ∃ X, tm g A = X := ⟨_, rfl⟩
  obtain ⟨Y, hY⟩ : ∃ Y, tm g B = Y := ⟨_, rfl⟩
  obtain ⟨Z, hZ⟩ : ∃ Z, tm h A = Z := ⟨_, rfl⟩
  have HTx := hide hX
  have HTy := hide hY
  have HTz := hide hZ
  have HX0 : Hid (0 ≤ X) := hide (by rw [← hX]; exact tm_pos hga)
  obtain ⟨hs1, hs2⟩ := stt_spec hga HK.out.1 HK.out.2.1 HK.out.2.2
  obtain ⟨S, hS⟩ : ∃ S, stt A g t = S := ⟨_, rfl⟩
  rw [hS] at hs1 hs2
  have HSe := hide hS
  have HSg := hide hs1
  have HSt := hide hs2
  have HSg1 : Hid (tm g S = t) := hide (by rw [hs2 g, if_pos rfl])
  obtain ⟨hu1, hu2⟩ := stt_spec hs1 HK.out.1 HK.out.2.1 HX0.out
  obtain ⟨U, hU⟩ : ∃ U, stt S g X = U := ⟨_, rfl⟩
  rw [hU] at hu1 hu2
  have HUe := hide hU
  have HUg := hide hu1
  have HUt : Hid (∀ q, tm q U = tm q A) := hide (fun q => by
    rw [hu2 q]
    by_cases hq : q = g
    · rw [if_pos hq, hq, hX]
    · rw [if_neg hq, hs2 q, if_neg hq])
  have HLe : Hid (leB A B = true → X ≤ Y) := hide (fun e => by
    have := (leB_iff hga hgb).1 e g
    omega)
  clear hf hga hgb hX hY hZ hS hs1 hs2 hU hu1 hu2
  clear ha hb
  go_enter Try.func5, Try.ntmps5
  go_wp2_with fail
  refine (HAw.out).mono ?_
  rintro e w9 ⟨rfl, hb⟩
  replace HA := hide (HA.out.below hb)
  replace HBv := hide (HBv.out.below hb)
  replace HB := hide (Below.on HB.out hb)
  clear hb
  go_wp2_with fail
  refine (allgood_any HA.out HBv.out (CV.nil _).cl).mono ?_
  rintro e w9 ⟨rfl, hb⟩
  replace HA := hide (HA.out.below hb)
  replace HBv := hide (HBv.out.below hb)
  replace HB := hide (Below.on HB.out hb)
  rw [HX.out]
  clear hb
  go_wp2_with fail
  refine (own_any g ⟨HA.out, HGa.out⟩ ⟨HBv.out, HGb.out⟩ HF.out HK.out.1 HK.out.2.1).mono ?_
  rintro e w9 ⟨rfl, hb⟩
  replace HA := hide (HA.out.below hb)
  replace HBv := hide (HBv.out.below hb)
  replace HB := hide (Below.on HB.out hb)
  clear hb
  go_wp2_with fail
  refine (tgetG_any g ⟨HA.out, HGa.out⟩).mono ?_
  rintro e w9 ⟨rfl, hb⟩
  replace HA := hide (HA.out.below hb)
  replace HBv := hide (HBv.out.below hb)
  replace HB := hide (Below.on HB.out hb)
  rw [HTx.out]
  clear hb
  go_wp2_with fail
  refine (tgetG_any g ⟨HBv.out, HGb.out⟩).mono ?_
  rintro e w9 ⟨rfl, hb⟩
  replace HA := hide (HA.out.below hb)
  replace HBv := hide (HBv.out.below hb)
  replace HB := hide (Below.on HB.out hb)
  rw [HTy.out]
  clear hb
  go_wp2_with fail
  refine (tset_any g t ⟨HA.out, HGa.out⟩ HK.out.1 HK.out.2.1 HK.out.2.2).mono ?_
  rintro e w9 ⟨s, rfl, o1, hb⟩
  replace HA := hide (HA.out.below hb)
  replace HBv := hide (HBv.out.below hb)
  replace HB := hide (Below.on HB.out hb)
  rw [HSe.out] at o1
  have HS := hide (cv_own o1 HSg.out)
  clear o1
  clear hb
  go_wp2_with fail
  refine (HN.out 0 _).mono ?_
  rintro e w9 ⟨rfl, hw⟩
  rw [hw]
  clear hw w9
  go_wp2_with fail
  refine (cgood_any HS.out.cl).mono ?_
  rintro e w9 ⟨rfl, hb⟩
  replace HA := hide (HA.out.below hb)
  replace HBv := hide (HBv.out.below hb)
  replace HS := hide (HS.out.below hb)
  replace HB := hide (Below.on HB.out hb)
  rw [HSg.out]
  clear hb
  go_wp2_with fail
  refine (tgetG_any g HS.out).mono ?_
  rintro e w9 ⟨rfl, hb⟩
  replace HA := hide (HA.out.below hb)
  replace HBv := hide (HBv.out.below hb)
  replace HS := hide (HS.out.below hb)
  replace HB := hide (Below.on HB.out hb)
  rw [HSg1.out]
  clear hb
  by_cases hgh : h = g
  · have hgh2 : g = h := hgh.symm
    clear hgh
    subst hgh2
    go_wp2_with fail
    refine (tset_any g X HS.out HK.out.1 HK.out.2.1 HX0.out).mono ?_
    rintro e w9 ⟨u, rfl, o2, hb⟩
    replace HA := hide (HA.out.below hb)
    replace HBv := hide (HBv.out.below hb)
    replace HS := hide (HS.out.below hb)
    replace HB := hide (Below.on HB.out hb)
    rw [HUe.out] at o2
    have HU := hide (cv_own o2 HUg.out)
    clear o2
    clear hb
    go_wp2_with fail
    refine (HN.out 0 _).mono ?_
    rintro e w9 ⟨rfl, hw⟩
    rw [hw]
    clear hw w9
    go_wp2_with fail
    refine (csameT_any HU.out ⟨HA.out, HGa.out⟩ HUt.out).mono ?_
    rintro e w9 ⟨rfl, hb⟩
    replace HA := hide (HA.out.below hb)
    replace HBv := hide (HBv.out.below hb)
    replace HS := hide (HS.out.below hb)
    replace HU := hide (HU.out.below hb)
    replace HB := hide (Below.on HB.out hb)
    clear HU HS
    clear hb
    by_cases hyx : X < Y
    · have HMx : Hid (max X Y = Y ∧ min X Y = X) := hide (by omega)
      go_wp2_with fail
      refine (cjoin_any ⟨HA.out, HGa.out⟩ ⟨HBv.out, HGb.out⟩).mono ?_
      rintro e w9 ⟨y1, J1, rfl, oj, kj, tj, hb⟩
      replace HA := hide (HA.out.below hb)
      replace HBv := hide (HBv.out.below hb)
      replace HB := hide (Below.on HB.out hb)
      have HJ := hide kj
      have hj := tj g
      rw [HTx.out, HTy.out, HMx.out.1] at hj
      have HJt := hide hj
      clear oj kj tj hj
      clear hb
      go_wp2_with fail
      refine (tgetG_any g HJ.out).mono ?_
      rintro e w9 ⟨rfl, hb⟩
      replace HA := hide (HA.out.below hb)
      replace HBv := hide (HBv.out.below hb)
      replace HJ := hide (HJ.out.below hb)
      replace HB := hide (Below.on HB.out hb)
      rw [HJt.out]
      clear HJ HJt
      clear hb
      go_wp2_with fail
      refine (cmeet_any ⟨HA.out, HGa.out⟩ ⟨HBv.out, HGb.out⟩).mono ?_
      rintro e w9 ⟨y2, J2, rfl, oj, kj, tj, hb⟩
      replace HA := hide (HA.out.below hb)
      replace HBv := hide (HBv.out.below hb)
      replace HB := hide (Below.on HB.out hb)
      have HJ := hide kj
      have hj := tj g
      rw [HTx.out, HTy.out, HMx.out.2] at hj
      have HJt := hide hj
      clear oj kj tj hj
      clear hb
      go_wp2_with fail
      refine (tgetG_any g HJ.out).mono ?_
      rintro e w9 ⟨rfl, hb⟩
      replace HA := hide (HA.out.below hb)
      replace HBv := hide (HBv.out.below hb)
      replace HJ := hide (HJ.out.below hb)
      replace HB := hide (Below.on HB.out hb)
      rw [HJt.out]
      clear HJ HJt
      clear hb
      go_wp2_with fail
      refine (cleq_any ⟨HA.out, HGa.out⟩ ⟨HBv.out, HGb.out⟩).mono ?_
      rintro e w9 ⟨rfl, hb⟩
      replace HA := hide (HA.out.below hb)
      replace HBv := hide (HBv.out.below hb)
      replace HB := hide (Below.on HB.out hb)
      clear hb
      cases hv : leB A B with
      | false =>
        go_wp2
        go_ret
        exact ⟨rfl, HB.out⟩
      | true =>
        have hle := HLe.out hv
        go_wp2
        go_ret
        exact ⟨rfl, HB.out⟩
    · have HMx : Hid (max X Y = X ∧ min X Y = Y) := hide (by omega)
      go_wp2_with fail
      refine (cjoin_any ⟨HA.out, HGa.out⟩ ⟨HBv.out, HGb.out⟩).mono ?_
      rintro e w9 ⟨y1, J1, rfl, oj, kj, tj, hb⟩
      replace HA := hide (HA.out.below hb)
      replace HBv := hide (HBv.out.below hb)
      replace HB := hide (Below.on HB.out hb)
      have HJ := hide kj
      have hj := tj g
      rw [HTx.out, HTy.out, HMx.out.1] at hj
      have HJt := hide hj
      clear oj kj tj hj
      clear hb
      go_wp2_with fail
      refine (tgetG_any g HJ.out).mono ?_
      rintro e w9 ⟨rfl, hb⟩
      replace HA := hide (HA.out.below hb)
      replace HBv := hide (HBv.out.below hb)
      replace HJ := hide (HJ.out.below hb)
      replace HB := hide (Below.on HB.out hb)
      rw [HJt.out]
      clear HJ HJt
      clear hb
      go_wp2_with fail
      refine (cmeet_any ⟨HA.out, HGa.out⟩ ⟨HBv.out, HGb.out⟩).mono ?_
      rintro e w9 ⟨y2, J2, rfl, oj, kj, tj, hb⟩
      replace HA := hide (HA.out.below hb)
      replace HBv := hide (HBv.out.below hb)
      replace HB := hide (Below.on HB.out hb)
      have HJ := hide kj
      have hj := tj g
      rw [HTx.out, HTy.out, HMx.out.2] at hj
      have HJt := hide hj
      clear oj kj tj hj
      clear hb
      go_wp2_with fail
      refine (tgetG_any g HJ.out).mono ?_
      rintro e w9 ⟨rfl, hb⟩
      replace HA := hide (HA.out.below hb)
      replace HBv := hide (HBv.out.below hb)
      replace HJ := hide (HJ.out.below hb)
      replace HB := hide (Below.on HB.out hb)
      rw [HJt.out]
      clear HJ HJt
      clear hb
      go_wp2_with fail
      refine (cleq_any ⟨HA.out, HGa.out⟩ ⟨HBv.out, HGb.out⟩).mono ?_
      rintro e w9 ⟨rfl, hb⟩
      replace HA := hide (HA.out.below hb)
      replace HBv := hide (HBv.out.below hb)
      replace HB := hide (Below.on HB.out hb)
      clear hb
      cases hv : leB A B with
      | false =>
        go_wp2
        go_ret
        exact ⟨rfl, HB.out⟩
      | true =>
        have hle := HLe.out hv
        go_wp2
        go_ret
        exact ⟨rfl, HB.out⟩
  · have HSz : Hid (tm h S = Z) := hide (by rw [HSt.out h, if_neg hgh]; exact HTz.out)
    go_wp2_with fail
    refine (tgetG_any h HS.out).mono ?_
    rintro e w9 ⟨rfl, hb⟩
    replace HA := hide (HA.out.below hb)
    replace HBv := hide (HBv.out.below hb)
    replace HS := hide (HS.out.below hb)
    replace HB := hide (Below.on HB.out hb)
    rw [HSz.out]
    clear hb
    go_wp2_with fail
    refine (tgetG_any h ⟨HA.out, HGa.out⟩).mono ?_
    rintro e w9 ⟨rfl, hb⟩
    replace HA := hide (HA.out.below hb)
    replace HBv := hide (HBv.out.below hb)
    replace HS := hide (HS.out.below hb)
    replace HB := hide (Below.on HB.out hb)
    rw [HTz.out]
    clear hb
    go_wp2_with fail
    refine (tset_any g X HS.out HK.out.1 HK.out.2.1 HX0.out).mono ?_
    rintro e w9 ⟨u, rfl, o2, hb⟩
    replace HA := hide (HA.out.below hb)
    replace HBv := hide (HBv.out.below hb)
    replace HS := hide (HS.out.below hb)
    replace HB := hide (Below.on HB.out hb)
    rw [HUe.out] at o2
    have HU := hide (cv_own o2 HUg.out)
    clear o2
    clear hb
    go_wp2_with fail
    refine (HN.out 0 _).mono ?_
    rintro e w9 ⟨rfl, hw⟩
    rw [hw]
    clear hw w9
    go_wp2_with fail
    refine (csameT_any HU.out ⟨HA.out, HGa.out⟩ HUt.out).mono ?_
    rintro e w9 ⟨rfl, hb⟩
    replace HA := hide (HA.out.below hb)
    replace HBv := hide (HBv.out.below hb)
    replace HS := hide (HS.out.below hb)
    replace HU := hide (HU.out.below hb)
    replace HB := hide (Below.on HB.out hb)
    clear HU HS
    clear hb
    by_cases hyx : X < Y
    · have HMx : Hid (max X Y = Y ∧ min X Y = X) := hide (by omega)
      go_wp2_with fail
      refine (cjoin_any ⟨HA.out, HGa.out⟩ ⟨HBv.out, HGb.out⟩).mono ?_
      rintro e w9 ⟨y1, J1, rfl, oj, kj, tj, hb⟩
      replace HA := hide (HA.out.below hb)
      replace HBv := hide (HBv.out.below hb)
      replace HB := hide (Below.on HB.out hb)
      have HJ := hide kj
      have hj := tj g
      rw [HTx.out, HTy.out, HMx.out.1] at hj
      have HJt := hide hj
      clear oj kj tj hj
      clear hb
      go_wp2_with fail
      refine (tgetG_any g HJ.out).mono ?_
      rintro e w9 ⟨rfl, hb⟩
      replace HA := hide (HA.out.below hb)
      replace HBv := hide (HBv.out.below hb)
      replace HJ := hide (HJ.out.below hb)
      replace HB := hide (Below.on HB.out hb)
      rw [HJt.out]
      clear HJ HJt
      clear hb
      go_wp2_with fail
      refine (cmeet_any ⟨HA.out, HGa.out⟩ ⟨HBv.out, HGb.out⟩).mono ?_
      rintro e w9 ⟨y2, J2, rfl, oj, kj, tj, hb⟩
      replace HA := hide (HA.out.below hb)
      replace HBv := hide (HBv.out.below hb)
      replace HB := hide (Below.on HB.out hb)
      have HJ := hide kj
      have hj := tj g
      rw [HTx.out, HTy.out, HMx.out.2] at hj
      have HJt := hide hj
      clear oj kj tj hj
      clear hb
      go_wp2_with fail
      refine (tgetG_any g HJ.out).mono ?_
      rintro e w9 ⟨rfl, hb⟩
      replace HA := hide (HA.out.below hb)
      replace HBv := hide (HBv.out.below hb)
      replace HJ := hide (HJ.out.below hb)
      replace HB := hide (Below.on HB.out hb)
      rw [HJt.out]
      clear HJ HJt
      clear hb
      go_wp2_with fail
      refine (cleq_any ⟨HA.out, HGa.out⟩ ⟨HBv.out, HGb.out⟩).mono ?_
      rintro e w9 ⟨rfl, hb⟩
      replace HA := hide (HA.out.below hb)
      replace HBv := hide (HBv.out.below hb)
      replace HB := hide (Below.on HB.out hb)
      clear hb
      cases hv : leB A B with
      | false =>
        go_wp2
        go_ret
        exact ⟨rfl, HB.out⟩
      | true =>
        have hle := HLe.out hv
        go_wp2
        go_ret
        exact ⟨rfl, HB.out⟩
    · have HMx : Hid (max X Y = X ∧ min X Y = Y) := hide (by omega)
      go_wp2_with fail
      refine (cjoin_any ⟨HA.out, HGa.out⟩ ⟨HBv.out, HGb.out⟩).mono ?_
      rintro e w9 ⟨y1, J1, rfl, oj, kj, tj, hb⟩
      replace HA := hide (HA.out.below hb)
      replace HBv := hide (HBv.out.below hb)
      replace HB := hide (Below.on HB.out hb)
      have HJ := hide kj
      have hj := tj g
      rw [HTx.out, HTy.out, HMx.out.1] at hj
      have HJt := hide hj
      clear oj kj tj hj
      clear hb
      go_wp2_with fail
      refine (tgetG_any g HJ.out).mono ?_
      rintro e w9 ⟨rfl, hb⟩
      replace HA := hide (HA.out.below hb)
      replace HBv := hide (HBv.out.below hb)
      replace HJ := hide (HJ.out.below hb)
      replace HB := hide (Below.on HB.out hb)
      rw [HJt.out]
      clear HJ HJt
      clear hb
      go_wp2_with fail
      refine (cmeet_any ⟨HA.out, HGa.out⟩ ⟨HBv.out, HGb.out⟩).mono ?_
      rintro e w9 ⟨y2, J2, rfl, oj, kj, tj, hb⟩
      replace HA := hide (HA.out.below hb)
      replace HBv := hide (HBv.out.below hb)
      replace HB := hide (Below.on HB.out hb)
      have HJ := hide kj
      have hj := tj g
      rw [HTx.out, HTy.out, HMx.out.2] at hj
      have HJt := hide hj
      clear oj kj tj hj
      clear hb
      go_wp2_with fail
      refine (tgetG_any g HJ.out).mono ?_
      rintro e w9 ⟨rfl, hb⟩
      replace HA := hide (HA.out.below hb)
      replace HBv := hide (HBv.out.below hb)
      replace HJ := hide (HJ.out.below hb)
      replace HB := hide (Below.on HB.out hb)
      rw [HJt.out]
      clear HJ HJt
      clear hb
      go_wp2_with fail
      refine (cleq_any ⟨HA.out, HGa.out⟩ ⟨HBv.out, HGb.out⟩).mono ?_
      rintro e w9 ⟨rfl, hb⟩
      replace HA := hide (HA.out.below hb)
      replace HBv := hide (HBv.out.below hb)
      replace HB := hide (Below.on HB.out hb)
      clear hb
      cases hv : leB A B with
      | false =>
        go_wp2
        go_ret
        exact ⟨rfl, HB.out⟩
      | true =>
        have hle := HLe.out hv
        go_wp2
        go_ret
        exact ⟨rfl, HB.out⟩
theorem clockTimes {w : World} {va vb : Value} {A B : List Tk} (g h t : Int) (ha : CL w va A) (hb : CL w vb B) (hf : fits A) : Calls Try.prog 5 #[va, vb, .int .i64 g, .int .i64 h, .int .i64 t] w fun e w' => e = .returned (.bool true) ∧ Below w.heap.size w w' := by
  cases hx : (gd 0 A && (gd 0 B && gd 0 [])) with
  | false => exact times_bad g h t ha hb hx
  | true =>
    by_cases hy0 : g < 0
    · exact times_out0 g h t ha hb hx hy0
    · by_cases hy1 : 65535 < g
      · exact times_out1 g h t ha hb hx hy0 hy1
      · by_cases hy2 : t < 0
        · exact times_out2 g h t ha hb hx hy0 hy1 hy2
        · rw [Bool.and_eq_true, Bool.and_eq_true] at hx
          exact times_ok g h t ha hb hf hx.1 hx.2.1 hy0 hy1 hy2
end Go.Proofs.Ytajkenbcndmjpab
