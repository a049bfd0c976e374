/-
  What counting does.
-/
import Derived.Test.YtafkammiehcdjaaGreatDoorCkG
namespace Go.Proofs.YtafkammiehcdjaaGreatDoor
open Go.RowKit Go.Maps
section
variable {w w' : World} {cb : Nat} {B : Bl} {F : Nat → Option Lb} {M : CS} {N : Nat} {g k o a : Int} {s : Value}
theorem fK_put {M : CS} {o v : Int} (hv : v ≠ 0) : setF (fK M) o (some (.int .i64 v)) = fun x => if setF M.cnt o v x = 0 then none else some (.int .i64 (setF M.cnt o v x)) := by
  funext x
  unfold fK
  by_cases hx : x = o
  · subst hx; rw [setF_same, setF_same, if_neg hv]
  · rw [setF_other _ _ hx, setF_other _ _ hx]
theorem fK_del {M : CS} {o v : Int} (hv : v = 0) : setF (setF (fK M) o (some (.int .i64 v))) o none = fun x => if setF M.cnt o v x = 0 then none else some (.int .i64 (setF M.cnt o v x)) := by
  funext x
  unfold fK
  by_cases hx : x = o
  · subst hx; rw [setF_same, setF_same, if_pos hv]
  · rw [setF_other _ _ hx, setF_other _ _ hx, setF_other _ _ hx]
set_option maxRecDepth 8000 in
theorem count_any (h : Ck w cb B F M N) (ho : EOk g o a) (hN : N ≤ 2000000) (hc0 : 0 ≤ M.cnt o + mzag a) (hc1 : M.cnt o + mzag a ≤ 2147483647) :
    Calls Tryz.prog 86 #[gPtr cb, .agg (evC g k o a s)] w fun e w' => e = .returned (.tuple #[]) ∧ CkR w cb F { M with cnt := setF M.cnt o (M.cnt o + mzag a) } (N + 1) w' := by
  obtain ⟨W, hW⟩ : ∃ W, W = w.alloc (.cells (evC g k o a s) 36) := ⟨_, rfl⟩
  have hb : Below w.heap.size w W := by rw [hW]; exact below_alloc1 w _
  have hC := h.below hb
  have hCd : Ck W.drew cb B F M N := hC.below (Below.refl _ _).drew
  have hE : W.heap[w.heap.size]? = some (.cells (evC g k o a s) 36 (0, 0)) := by rw [hW]; exact heap_new _ _
  obtain ⟨p0, p1, p2, p3, p4⟩ := evc0 hE
  have hmax : N < maxLen := by unfold maxLen; omega
  have HB := hide hb
  have HW := hide hW
  have HC := hide hC
  have hlt := h.clt
  have hltW : cb < W.heap.size := hC.clt
  have hleW : w.heap.size < W.heap.size := (Array.getElem?_eq_some_iff.1 hE).1
  have hFe : F w.heap.size = none := by
    cases hq : F w.heap.size with
    | none => rfl
    | some l => have := h.lt _ _ hq; omega
  obtain ⟨v, hv⟩ : ∃ v, v = M.cnt o + mzag a := ⟨_, rfl⟩
  rw [← hv] at hc0 hc1 ⊢
  obtain ⟨w1, hup, hm1, hb1⟩ := (hCd.mt nf).2.put lawU Tryz.underlying66 hmax (keyU ho.o0 ho.o1) (.int .i64 v)
  have t5 := hC.c5
  have hFl := (hC.mt nf).1
  have hlk := hCd.lkK ho
  have hwv : IntKind.i64.wrap (M.cnt o + mzag a) = v := by rw [IntKind.wrap_i64, ← hv]; omega
  have HSL : Hid (∀ X, But (fun k => k = B.km) W X → X.cell? ⟨cb, 5, none⟩ = some (.map (some B.km)) ∧ X.cell? ⟨w.heap.size, 2, none⟩ = some (.int .u64 o) ∧ X.cell? ⟨w.heap.size, 3, none⟩ = some (.int .u64 a)) := hide (fun X hX => ⟨cell_but t5 hX (fun e => by have e9 : cb = B.km := e; rw [← e9, hC.top] at hFl; cases hFl), cell_but p2 hX (fun e => by have e9 : w.heap.size = B.km := e; rw [← e9, hFe] at hFl; cases hFl), cell_but p3 hX (fun e => by have e9 : w.heap.size = B.km := e; rw [← e9, hFe] at hFl; cases hFl)⟩)
  have HK1 : Hid (But (fun k => k = B.km) W w1) := hide ((But.refl (fun k => k = B.km) W).drew.trans hb1 (fun _ _ e => e))
  have hl1 : cb < w1.heap.size := Nat.lt_of_lt_of_le hltW HK1.out.size
  have hl2 : w.heap.size < w1.heap.size := Nat.lt_of_lt_of_le hleW HK1.out.size
  have HM1 := hide hm1
  have HV := hide hv
  have HLk : Hid (∀ X, Below w1.heap.size w1 X → (Instr.lookup 66 (.map (some B.km)) (.int .u64 o) false).run Tryz.prog X = .ok (.int .i64 v) X) := hide (fun X hX => by
    have h9 := (hm1.below hX).look (x := o) lawU Tryz.underlying66 (zeroI X) (keyU ho.o0 ho.o1)
    rw [setF_same] at h9
    exact h9)
  have HEnd : Hid (∀ (X : World) (hm : HM X 33 .u64 B.km (N + 1) (.int .i64 0) (fun x => if setF M.cnt o v x = 0 then none else some (.int .i64 (setF M.cnt o v x)))) (hX : But (fun k => k = B.km) W X), CkR w cb F { M with cnt := setF M.cnt o v } (N + 1) X) := hide (fun X hm hX => by
    obtain ⟨k1, k2⟩ := hC.setK (Nat.le_succ N) hm hX
    exact CkR.below hb ⟨_, _, k1, FEx.refl _ _, k2⟩)
  have HO := hide ho
  clear h hb hW hmax hC hCd hE hFe ho p0 p1 p2 p3 p4 hm1 hb1 t5 hFl hv hc0 hc1
  unfold gPtr evC
  unfold evC at HW
  go_enter Tryz.func86, Tryz.ntmps86
  go_wp2_with fail
  rw [← HW.out]
  clear HW
  refine wp_region_noPanic ?_
  refine wp_region_held_drew (S := fun X => X.cell? ⟨cb, 5, none⟩ = some (.map (some B.km)) ∧ X.cell? ⟨w.heap.size, 2, none⟩ = some (.int .u64 o) ∧ X.cell? ⟨w.heap.size, 3, none⟩ = some (.int .u64 a)) (by kernel_rfl) (HSL.out _ (But.refl _ _).drew) (fun hHeld => ?_)
  refine wpAnyH_take (i := 0) (oi := _) (v := ?v0_1) rfl (by kernel_rfl) (by kernel_rfl) (by kernel_rfl) (fun _ _ _ h => h) (Or.inl ⟨by rfl, ?y0_1⟩) (by assumption) ?r0_1
  case y0_1 => (intro w' hSw; (try dsimp only at hSw); go_simp; try with_reducible rfl)
  refine wpAnyH_take (i := 1) (oi := _) (v := ?v1_1) rfl (by kernel_rfl) (by kernel_rfl) (by kernel_rfl) (fun _ _ _ h => h) (Or.inl ⟨by rfl, ?y1_1⟩) (by assumption) ?r1_1
  case y1_1 => (intro w' hSw; (try dsimp only at hSw); go_simp; try with_reducible rfl)
  refine wpAnyH_take (i := 2) (oi := _) (v := ?v2_1) rfl (by kernel_rfl) (by kernel_rfl) (by kernel_rfl) (fun _ _ _ h => h) (Or.inl ⟨by rfl, ?y2_1⟩) (by assumption) ?r2_1
  case y2_1 => (intro w' hSw; (try dsimp only at hSw); go_simp; try with_reducible rfl)
  refine wpAnyH_take (i := 3) (oi := _) (v := ?v3_1) rfl (by kernel_rfl) (by kernel_rfl) (by kernel_rfl) (fun _ _ _ h => h) (Or.inl ⟨by rfl, ?y3_1⟩) (by assumption) ?r3_1
  case y3_1 => (intro w' hSw; (try dsimp only at hSw); go_simp; try with_reducible rfl)
  refine wpAnyH_take (i := 4) (oi := _) (v := ?v4_1) rfl (by kernel_rfl) (by kernel_rfl) (by kernel_rfl) (fun _ _ _ h => h) (Or.inl ⟨by rfl, ?y4_1⟩) (by assumption) ?r4_1
  case y4_1 => (intro w' hSw; (try dsimp only at hSw); go_simp; try with_reducible rfl)
  refine wpAnyH_take (i := 5) (oi := _) (v := ?v5_1) rfl (by kernel_rfl) (by kernel_rfl) (by kernel_rfl) (fun _ _ _ h => h) (Or.inl ⟨by rfl, ?y5_1⟩) (by assumption) ?r5_1
  case y5_1 => (intro w' hSw; (try dsimp only at hSw); go_simp; try with_reducible rfl)
  refine wpAnyH_take (i := 7) (oi := _) (v := ?v7_1) rfl (by kernel_rfl) (by kernel_rfl) (by kernel_rfl) (fun _ _ _ h => h) (Or.inl ⟨by rfl, ?y7_1⟩) (by assumption) ?r7_1
  case y7_1 => (intro w' hSw; (try dsimp only at hSw); go_simp; try with_reducible rfl)
  refine wpAnyH_take (i := 8) (oi := _) (v := ?v8_1) rfl (by kernel_rfl) (by kernel_rfl) (by kernel_rfl) (fun _ _ _ h => h) (Or.inl ⟨by rfl, ?y8_1⟩) (by assumption) ?r8_1
  case y8_1 => (intro w' hSw; (try dsimp only at hSw); go_simp; try with_reducible rfl)
  refine wpAnyH_ready (rs := [6, 9]) (by kernel_rfl) (by simp) ?_
  refine AllReadyH.cons (o := _) rfl (fun KK hKK => ?_) (AllReadyH.cons (o := _) rfl (fun KK hKK => ?_) AllReadyH.nil)
  · go_simp
    refine hKK.out _ _ (HSL.out _ (But.refl _ _).drew) (fun hHeld6 => ?_)
    clear hKK KK
    refine wpAnyH_ready (rs := [9]) (by kernel_rfl) (by simp) ?_
    refine AllReadyH.cons (o := _) rfl (fun KK hKK => ?_) AllReadyH.nil
    go_simp
    refine (zag_any _ _ HO.out.a0 HO.out.a1).mono ?_
    rintro e w9 ⟨rfl, rfl⟩
    refine hKK.out _ _ (HSL.out _ (But.refl _ _).drew) (fun hHeld9 => ?_)
    clear hKK KK
    refine wpAnyH_take (i := 10) (oi := _) (v := ?v10_3) rfl (by kernel_rfl) (by kernel_rfl) (by kernel_rfl) (fun _ _ _ h => h) (Or.inl ⟨by rfl, ?y10_3⟩) (by assumption) ?r10_3
    case y10_3 => (intro w' hSw; (try dsimp only at hSw); go_simp; try with_reducible rfl)
    refine wpAnyH_ready (rs := [11]) (by kernel_rfl) (by simp) ?_
    refine AllReadyH.cons (o := _) rfl (fun KK hKK => ?_) AllReadyH.nil
    go_simp
    refine hKK.out _ _ (HSL.out _ HK1.out) (fun hHeld11 => ?_)
    clear hKK KK
    refine wpAnyH_done (by kernel_rfl) ?_ _
    refine NoPanic.normal ?_
    clear hHeld hHeld6 hHeld9 hHeld11 hlk hup
    obtain ⟨s1, s2, s3⟩ := HSL.out _ HK1.out
    have hlq := fun q => HLk.out (w1.drewN q) (below_drewN (Below.refl _ _) q)
    by_cases hz : v = 0
    · have hzb : (v == 0) = true := by rw [beq_iff_eq]; exact hz
      have HZ := hide hz
      clear hz
      go_wp2_with fail
      go_quiet (fail)
      obtain ⟨W2, hW2⟩ : ∃ W2, W2 = w1.drewN nq := ⟨_, rfl⟩
      rw [← hW2]
      have hb2 : Below w1.heap.size w1 W2 := by rw [hW2]; exact below_drewN (Below.refl _ _) _
      have hm2 := (HM1.out.below hb2).below (Below.refl _ W2).drew
      obtain ⟨w3, hup3, hm3, hb3⟩ := hm2.del lawU Tryz.underlying66 (keyU HO.out.o0 HO.out.o1) 0
      rw [fK_del HZ.out] at hm3
      have HK2 : Hid (But (fun k => k = B.km) W W2) := hide (HK1.out.on hb2)
      have HK3 : Hid (But (fun k => k = B.km) W w3) := hide ((HK1.out.on hb2).drew.trans hb3 (fun _ _ e => e))
      have HF := hide (HEnd.out _ hm3 HK3.out)
      have hl3 : cb < W2.heap.size := Nat.lt_of_lt_of_le hl1 hb2.size
      have hl4 : w.heap.size < W2.heap.size := Nat.lt_of_lt_of_le hl2 hb2.size
      clear hW2 hb2 hm2 hm3 hb3 hlq s1 s2 s3
      go_wp2_with fail
      go_region_held3 (fun X => X.cell? ⟨cb, 5, none⟩ = some (.map (some B.km)) ∧ X.cell? ⟨w.heap.size, 2, none⟩ = some (.int .u64 o) ∧ X.cell? ⟨w.heap.size, 3, none⟩ = some (.int .u64 a))
        (first | with_reducible exact HSL.out _ HK2.out | with_reducible exact HSL.out _ HK2.out.drew | with_reducible exact HSL.out _ HK3.out)
        (fail)
      go_wp2
      go_end0
      exact ⟨rfl, HF.out⟩
    · have hzb : (v == 0) = false := by rw [beq_eq_false_iff_ne]; exact hz
      have HZ := hide hz
      clear hz
      go_wp2_with fail
      go_quiet (fail)
      go_wp2
      go_end0
      have hm3 := HM1.out
      rw [fK_put HZ.out] at hm3
      exact ⟨rfl, (HEnd.out _ hm3 HK1.out).on (below_drewN (Below.refl _ _) _)⟩
  · go_simp
    refine (zag_any _ _ HO.out.a0 HO.out.a1).mono ?_
    rintro e w9 ⟨rfl, rfl⟩
    refine hKK.out _ _ (HSL.out _ (But.refl _ _).drew) (fun hHeld9 => ?_)
    clear hKK KK
    refine wpAnyH_ready (rs := [6]) (by kernel_rfl) (by simp) ?_
    refine AllReadyH.cons (o := _) rfl (fun KK hKK => ?_) AllReadyH.nil
    go_simp
    refine hKK.out _ _ (HSL.out _ (But.refl _ _).drew) (fun hHeld6 => ?_)
    clear hKK KK
    refine wpAnyH_take (i := 10) (oi := _) (v := ?v10_6) rfl (by kernel_rfl) (by kernel_rfl) (by kernel_rfl) (fun _ _ _ h => h) (Or.inl ⟨by rfl, ?y10_6⟩) (by assumption) ?r10_6
    case y10_6 => (intro w' hSw; (try dsimp only at hSw); go_simp; try with_reducible rfl)
    refine wpAnyH_ready (rs := [11]) (by kernel_rfl) (by simp) ?_
    refine AllReadyH.cons (o := _) rfl (fun KK hKK => ?_) AllReadyH.nil
    go_simp
    refine hKK.out _ _ (HSL.out _ HK1.out) (fun hHeld11 => ?_)
    clear hKK KK
    refine wpAnyH_done (by kernel_rfl) ?_ _
    refine NoPanic.normal ?_
    clear hHeld hHeld6 hHeld9 hHeld11 hlk hup
    obtain ⟨s1, s2, s3⟩ := HSL.out _ HK1.out
    have hlq := fun q => HLk.out (w1.drewN q) (below_drewN (Below.refl _ _) q)
    by_cases hz : v = 0
    · have hzb : (v == 0) = true := by rw [beq_iff_eq]; exact hz
      have HZ := hide hz
      clear hz
      go_wp2_with fail
      go_quiet (fail)
      obtain ⟨W2, hW2⟩ : ∃ W2, W2 = w1.drewN nq := ⟨_, rfl⟩
      rw [← hW2]
      have hb2 : Below w1.heap.size w1 W2 := by rw [hW2]; exact below_drewN (Below.refl _ _) _
      have hm2 := (HM1.out.below hb2).below (Below.refl _ W2).drew
      obtain ⟨w3, hup3, hm3, hb3⟩ := hm2.del lawU Tryz.underlying66 (keyU HO.out.o0 HO.out.o1) 0
      rw [fK_del HZ.out] at hm3
      have HK2 : Hid (But (fun k => k = B.km) W W2) := hide (HK1.out.on hb2)
      have HK3 : Hid (But (fun k => k = B.km) W w3) := hide ((HK1.out.on hb2).drew.trans hb3 (fun _ _ e => e))
      have HF := hide (HEnd.out _ hm3 HK3.out)
      have hl3 : cb < W2.heap.size := Nat.lt_of_lt_of_le hl1 hb2.size
      have hl4 : w.heap.size < W2.heap.size := Nat.lt_of_lt_of_le hl2 hb2.size
      clear hW2 hb2 hm2 hm3 hb3 hlq s1 s2 s3
      go_wp2_with fail
      go_region_held3 (fun X => X.cell? ⟨cb, 5, none⟩ = some (.map (some B.km)) ∧ X.cell? ⟨w.heap.size, 2, none⟩ = some (.int .u64 o) ∧ X.cell? ⟨w.heap.size, 3, none⟩ = some (.int .u64 a))
        (first | with_reducible exact HSL.out _ HK2.out | with_reducible exact HSL.out _ HK2.out.drew | with_reducible exact HSL.out _ HK3.out)
        (fail)
      go_wp2
      go_end0
      exact ⟨rfl, HF.out⟩
    · have hzb : (v == 0) = false := by rw [beq_eq_false_iff_ne]; exact hz
      have HZ := hide hz
      clear hz
      go_wp2_with fail
      go_quiet (fail)
      go_wp2
      go_end0
      have hm3 := HM1.out
      rw [fK_put HZ.out] at hm3
      exact ⟨rfl, (HEnd.out _ hm3 HK1.out).on (below_drewN (Below.refl _ _) _)⟩
end
end Go.Proofs.YtafkammiehcdjaaGreatDoor
