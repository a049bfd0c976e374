/-
  MergeMerges: the walk.
-/
import Derived.Test.YtdlpffbeladgaaaMgK
import Derived.Test.YtdlpffbeladgaaaMRm
namespace Go.Proofs.Ytdlpffbeladgaaa
open Go.RowKit
theorem evs_len (gs : List Int) (O : List (Nat × Rc)) : (evs gs O).length = O.length := by unfold evs; rw [List.length_map]
theorem evs_bare {gs : List Int} {O : List (Nat × Rc)} (i : Nat) (x y : Vt) (hx : ((evs gs O).map Prod.fst)[i]? = some x) (hy : ((evs gs O).map Prod.fst)[i]? = some y) : Bare x y := by
  rw [hx] at hy
  cases hy
  rw [List.getElem?_map] at hx
  unfold evs at hx
  rw [List.getElem?_map] at hx
  cases h : O[i]? with
  | none => rw [h] at hx; cases hx
  | some o =>
    rw [h] at hx
    have hx := Option.some.inj hx
    subst hx
    exact ⟨rfl, rfl, rfl, rfl, rfl⟩
set_option maxRecDepth 8000 in
set_option maxHeartbeats 12800000 in
theorem mergeMerges (w : World) (a : Option Addr) (n c : Nat) (rws : List Rw) (Gs : List (Int × List Rc)) (hr : Rdz w a n rws Gs) (hn : n * 32 ≤ 140737488355328) (hm : ∀ G ∈ Gs, G.2.length * 40 ≤ 140737488355328) :
    Calls Try.prog 4 #[.slice a n c] w fun r w' => r = .returned (.bool true) ∧ Below w.heap.size w w' := by
  have HR : Hid _ := hide hr
  have HG : Hid (Gs.length = n) := hide (by rw [← hr.len, hr.row.len])
  have HM : Hid _ := hide hm
  have HN : Hid _ := hide hn
  have TN := twins_any w a n c rws Gs hr hn hm
  clear hr hn hm
  go_enter Try.func4, Try.ntmps4
  go_wp2_with fail
  refine TN.mono ?_
  rintro r w1 ⟨v1, rws1, rfl, z1, b1⟩
  clear TN
  obtain ⟨a1, c1, hv1, hn1⟩ := z1.form
  rw [HG.out] at hv1 hn1
  subst hv1
  have ZR := z1.reads (by rw [z1.len, HG.out])
  have HB1 : Hid _ := hide b1
  have HZ1 : Hid _ := hide ZR
  have MA := merge_any w1 a1 n c1 rws1 Gs ZR hn1 (by have := HN.out; omega) HM.out
  clear z1 b1 ZR hn1
  go_wp2_with fail
  refine MA.mono ?_
  rintro r w2 ⟨v2, u2, e2, O, rfl, mr, o2, p2, b2⟩
  clear MA
  obtain ⟨a2, c2, hv2, -, -⟩ := own_form o2
  obtain ⟨d2, f2, hu2, -, -⟩ := own_form p2
  obtain ⟨NO, hNO⟩ : ∃ NO, NO = O.length := ⟨_, rfl⟩
  rw [List.length_map, evs_len, ← hNO] at hv2 hu2
  subst hv2; subst hu2
  have hNl : NO ≤ 1048576 := by rw [hNO]; exact mr.len
  have hNI : (NO : Int) ≤ 1048576 := by omega
  have HB2 : Hid (Below w.heap.size w w2) := hide (HB1.out.trans (b2.mono HB1.out.size))
  have HZ2 : Hid _ := hide (HZ1.out.below b2)
  have HMR : Hid _ := hide mr
  have HO2 : Hid _ := hide o2
  have HP2 : Hid _ := hide p2
  have HNO : Hid _ := hide hNO
  have RM := rmerge_any w2 a n c rws Gs (HR.out.below HB2.out) HN.out HM.out
  clear mr o2 p2 b2 hNO hNl
  go_wp2_with fail
  refine RM.mono ?_
  rintro r w3 ⟨v3, u3, e3, O3, rfl, mr3, o3, p3, b3⟩
  clear RM
  obtain ⟨he, hO⟩ := HMR.out.uniq mr3
  subst he; subst hO
  obtain ⟨a3, c3, hv3, -, -⟩ := own_form o3
  obtain ⟨d3, f3, hu3, -, -⟩ := own_form p3
  rw [List.length_map, evs_len, ← HNO.out] at hv3 hu3
  subst hv3; subst hu3
  have HB3 : Hid (Below w.heap.size w w3) := hide (HB2.out.trans (b3.mono HB2.out.size))
  have SB := sameB a2 a3 NO c2 c3 _ _ w3 ((HO2.out.below b3).row (by rw [List.length_map, evs_len, HNO.out])) (o3.row (by rw [List.length_map, evs_len, HNO.out])) (by omega) evs_bare
  have HP3 : Hid _ := hide p3
  have HPB : Hid _ := hide (HP2.out.below b3)
  have HZ3 : Hid _ := hide (HZ2.out.below b3)
  have hee : (e2 == e2) = true := by simp
  clear mr3 o3 p3 b3
  go_wp2_with fail
  refine SB.mono ?_
  rintro r w4 ⟨rfl, b4⟩
  clear SB
  have SN := sameN d2 d3 NO f2 f3 _ w4 ((HPB.out.below b4).row (by rw [List.length_map, evs_len, HNO.out])) ((HP3.out.below b4).row (by rw [List.length_map, evs_len, HNO.out])) (by omega)
  have HB4 : Hid (Below w.heap.size w w4) := hide (HB3.out.trans (b4.mono HB3.out.size))
  have HZ4 : Hid _ := hide (HZ3.out.below b4)
  clear b4
  go_wp2_with fail
  refine SN.mono ?_
  rintro r w5 ⟨rfl, b5⟩
  clear SN
  have HB5 : Hid (Below w.heap.size w w5) := hide (HB4.out.trans (b5.mono HB4.out.size))
  have SR := sameRw a1 a n c1 c rws1 rws Gs w5 (HZ4.out.below b5) (HR.out.below HB5.out) (by have := HN.out; omega) (fun G hG => by have := HM.out G hG; omega)
  clear b5
  go_wp2_with fail
  refine SR.mono ?_
  rintro r w6 ⟨rfl, b6⟩
  clear SR
  go_wp2
  go_ret
  exact ⟨rfl, HB5.out.trans (b6.mono HB5.out.size)⟩
end Go.Proofs.Ytdlpffbeladgaaa
