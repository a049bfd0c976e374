/-
  An entry is brought down.
-/
import Derived.Test.YtdmlehbamdcjcaaHpBI
namespace Go.Proofs.Ytdmlehbamdcjcaa
open Go.RowKit
set_option maxRecDepth 8000 in
set_option maxHeartbeats 3200000 in
theorem sinkI (w : World) (base p g c N q : Nat) (E : List (It × Int)) (hp : w.cell? ⟨p, 0, none⟩ = some (.slice (some ⟨g, 0, none⟩) N c)) (hN : E.length = N) (ho : Own layEI 77 w base (.slice (some ⟨g, 0, none⟩) N c) E) (hq : q ≤ N) (hb : (N : Int) ≤ 8796093022208) :
    Calls Try.prog 62 #[.pointer (some ⟨p, 0, none⟩), .int .i64 q] w fun r w' => r = .returned (.tuple #[]) ∧ ∃ E', Own layEI 77 w' base (.slice (some ⟨g, 0, none⟩) N c) E' ∧ E'.Perm E ∧ (Ord (fst bfI) → Sink (fst bfI) E q → Hp (fst bfI) E') ∧ But (fun k => k = g) w w' := by
  have HN : Hid _ := hide hN
  have HO : Hid _ := hide ho
  clear hN ho
  go_enter Try.func62, Try.ntmps62
  go_wp2_with fail
  go_loopw [1, 5] (fun si su wr => ∃ (k dn : Nat) (L : List (It × Int)), si = .int .i64 k ∧ su = .int .i64 dn ∧ Hid (dn = 2 * k + 1) ∧ k ≤ N ∧ Hid (L.length = N) ∧ Own layEI 77 wr base (.slice (some ⟨g, 0, none⟩) N c) L ∧ L.Perm E ∧ (Ord (fst bfI) → Sink (fst bfI) E q → Sink (fst bfI) L k) ∧ But (fun k => k = g) w wr) (fun si _ _ => N - (intOf si).toNat)
  case atStart =>
    exact ⟨q, 2 * q + 1, E, rfl, by first | rfl | (congr 1) | (congr 1; omega), hide rfl, hq, HN, HO.out, List.Perm.refl _, fun _ h => h, But.refl _ _⟩
  case round =>
    obtain ⟨k, dn, L, rfl, rfl, HU, hk, HL, hown, hperm, hrise, hbut⟩ := hrel
    have HOW : Hid _ := hide hown
    have HP : Hid _ := hide hperm
    have HR : Hid _ := hide hrise
    have HB : Hid _ := hide hbut
    have hdk : k < dn := by have := HU.out; omega
    have HE : Hid (2 * k + 2 = dn + 1) := hide (by have := HU.out; omega)
    have hdb : (dn : Int) ≤ 17592186044417 := by have := HU.out; omega
    clear hown hperm hrise hbut
    by_cases hdn : dn < N
    · have hkN : k < N := by omega
      have hlL := HL.out
      obtain ⟨a, ha⟩ : ∃ a, L[k]? = some a := ⟨_, List.getElem?_eq_getElem (by omega)⟩
      obtain ⟨b, hb'⟩ : ∃ b, L[dn]? = some b := ⟨_, List.getElem?_eq_getElem (by omega)⟩
      have HA : Hid _ := hide ha
      have HBd : Hid _ := hide hb'
      clear ha hb'
      obtain ⟨⟨a0, a1⟩, ua⟩ := a
      obtain ⟨⟨b0, b1⟩, ub⟩ := b
      by_cases hr : dn + 1 < N
      · obtain ⟨cc, hc'⟩ : ∃ b, L[dn + 1]? = some b := ⟨_, List.getElem?_eq_getElem (by omega)⟩
        have HC : Hid _ := hide hc'
        clear hc' hlL
        obtain ⟨⟨c0, c1⟩, uc⟩ := cc
        have HS : Hid (∀ X, Below wr.heap.size wr X → X.cell? ⟨g, dn * 3, none⟩ = some (.int .i64 b0) ∧ X.cell? ⟨g, dn * 3 + 1, none⟩ = some (.int .i64 b1) ∧ X.cell? ⟨g, dn * 3 + 2, none⟩ = some (.int .i64 ub) ∧ X.cell? ⟨g, (dn + 1) * 3, none⟩ = some (.int .i64 c0) ∧ X.cell? ⟨g, (dn + 1) * 3 + 1, none⟩ = some (.int .i64 c1) ∧ X.cell? ⟨g, (dn + 1) * 3 + 2, none⟩ = some (.int .i64 uc)) := hide (fun X hW => ⟨(HOW.out.below hW).cell HBd.out 0 rfl, (HOW.out.below hW).cell HBd.out 1 rfl, (HOW.out.below hW).cell HBd.out 2 rfl, (HOW.out.below hW).cell HC.out 0 rfl, (HOW.out.below hW).cell HC.out 1 rfl, (HOW.out.below hW).cell HC.out 2 rfl⟩)
        obtain ⟨x0, x1, x2, y0, y1, y2⟩ := HS.out _ (Below.refl _ _)
        have hrD : decide (dn + 1 < N) = true := decide_eq_true hr
        have hwr : IntKind.i64.wrap ((dn : Int) + 1) = (dn : Int) + 1 := by rw [IntKind.wrap_i64]; omega
        have hrI : decide ((dn : Int) + 1 < (N : Int)) = true := decide_eq_true (by omega)
        have hj0 : (0 : Int) ≤ (dn : Int) + 1 := by omega
        have hj1 : (dn : Int) + 1 < (N : Int) := by omega
        have hj2 : ((dn : Int) + 1).toNat = dn + 1 := by omega
        have hj3 : ¬ (dn : Int) + 1 < 0 := by omega
        go_wp2_with fail
        go_region_held3 (fun X => X.cell? ⟨g, dn * 3, none⟩ = some (.int .i64 b0) ∧ X.cell? ⟨g, dn * 3 + 1, none⟩ = some (.int .i64 b1) ∧ X.cell? ⟨g, dn * 3 + 2, none⟩ = some (.int .i64 ub) ∧ X.cell? ⟨g, (dn + 1) * 3, none⟩ = some (.int .i64 c0) ∧ X.cell? ⟨g, (dn + 1) * 3 + 1, none⟩ = some (.int .i64 c1) ∧ X.cell? ⟨g, (dn + 1) * 3 + 2, none⟩ = some (.int .i64 uc)) (first | exact HS.out _ hB2 | exact HS.out _ (Below.refl _ _) | exact HS.out _ (Below.drew (Below.refl _ _))) (first
          | (go_at_call 72; go_must (
             refine (firstI (⟨c0, c1⟩, uc) (⟨b0, b1⟩, ub) _).mono ?_
             rintro e1 W1 ⟨rfl, hB1⟩
             have hB2 : Below wr.heap.size wr W1 := (Below.refl _ _).drew.trans hB1)))
        obtain ⟨f0, hf0⟩ : ∃ f0, f0 = fst bfI (⟨c0, c1⟩, uc) (⟨b0, b1⟩, ub) := ⟨_, rfl⟩
        rw [← hf0]
        have HF : Hid _ := hide hf0
        have HW1 : Hid _ := hide hB2
        clear hf0 x0 x1 x2 y0 y1 y2 hB1 hB2 hrD hrI hwr
        cases f0 with
        | false =>
          have BEST : Hid (∀ o : Ord (fst bfI), ∀ i x, 0 < i → (i - 1) / 2 = k → L[i]? = some x → fst bfI x (⟨b0, b1⟩, ub) = false) := hide (fun o => best_left o (by have := HU.out; rw [← this]; exact HBd.out) (by intro cc hcc; rw [HE.out, HC.out] at hcc; rw [← Option.some.inj hcc]; exact HF.out.symm))
          have hdN : dn < N := by omega
          have HSd : Hid (∀ X, Below wr.heap.size wr X → X.cell? ⟨g, dn * 3, none⟩ = some (.int .i64 b0) ∧ X.cell? ⟨g, dn * 3 + 1, none⟩ = some (.int .i64 b1) ∧ X.cell? ⟨g, dn * 3 + 2, none⟩ = some (.int .i64 ub) ∧ X.cell? ⟨g, k * 3, none⟩ = some (.int .i64 a0) ∧ X.cell? ⟨g, k * 3 + 1, none⟩ = some (.int .i64 a1) ∧ X.cell? ⟨g, k * 3 + 2, none⟩ = some (.int .i64 ua)) := hide (fun X hW => ⟨(HOW.out.below hW).cell HBd.out 0 rfl, (HOW.out.below hW).cell HBd.out 1 rfl, (HOW.out.below hW).cell HBd.out 2 rfl, (HOW.out.below hW).cell HA.out 0 rfl, (HOW.out.below hW).cell HA.out 1 rfl, (HOW.out.below hW).cell HA.out 2 rfl⟩)
          obtain ⟨x0, x1, x2, y0, y1, y2⟩ := HSd.out _ HW1.out
          go_wp2_with fail
          go_region_held3 (fun X => X.cell? ⟨g, dn * 3, none⟩ = some (.int .i64 b0) ∧ X.cell? ⟨g, dn * 3 + 1, none⟩ = some (.int .i64 b1) ∧ X.cell? ⟨g, dn * 3 + 2, none⟩ = some (.int .i64 ub) ∧ X.cell? ⟨g, k * 3, none⟩ = some (.int .i64 a0) ∧ X.cell? ⟨g, k * 3 + 1, none⟩ = some (.int .i64 a1) ∧ X.cell? ⟨g, k * 3 + 2, none⟩ = some (.int .i64 ua)) (first | exact HSd.out _ hB4 | exact HSd.out _ HW1.out | exact HSd.out _ (Below.trans HW1.out (Below.drew (Below.refl _ _)))) (first
            | (go_at_call 72; go_must (
               refine (firstI (⟨b0, b1⟩, ub) (⟨a0, a1⟩, ua) _).mono ?_
               rintro e3 W3 ⟨rfl, hB3⟩
               have hB4 : Below wr.heap.size wr W3 := Below.on (Below.trans HW1.out (Below.drew (Below.refl _ _))) hB3)))
          obtain ⟨f1, hf1⟩ : ∃ f1, f1 = fst bfI (⟨b0, b1⟩, ub) (⟨a0, a1⟩, ua) := ⟨_, rfl⟩
          rw [← hf1]
          have HF1 : Hid _ := hide hf1
          have HW3 : Hid _ := hide hB4
          have OW3 : Hid _ := hide (HOW.out.below hB4)
          clear hf1 x0 x1 x2 y0 y1 y2 hB3 hB4
          cases f1 with
          | false =>
            go_wp2_with fail
            (try simp only [Exit.inBlock, Exit.then])
            refine bodyPost_ret (results_none rfl _ _ _) rfl ?_
            exact ⟨rfl, L, OW3.out, HP.out, fun o h => (HR.out o h).done1 o HA.out HF1.out.symm (BEST.out o), HB.out.on HW3.out⟩
          | true =>
            obtain ⟨x0, x1, x2, y0, y1, y2⟩ := HSd.out _ HW3.out
            have z0 := OW3.out.frozen (k * 3); have z1 := OW3.out.frozen (k * 3 + 1); have z2 := OW3.out.frozen (k * 3 + 2)
            have v0 := OW3.out.frozen (dn * 3); have v1 := OW3.out.frozen (dn * 3 + 1); have v2 := OW3.out.frozen (dn * 3 + 2)
            go_wp2_with fail
            go_region
            have O2 : Own layEI 77 (setC (setC W3 g (k * 3) [.int .i64 b0, .int .i64 b1, .int .i64 ub]) g (dn * 3) [.int .i64 a0, .int .i64 a1, .int .i64 ua]) base (.slice (some ⟨g, 0, none⟩) N c) ((L.set k (⟨b0, b1⟩, ub)).set dn (⟨a0, a1⟩, ua)) :=
              Own.set (Own.set OW3.out HL.out (by rw [HL.out]; exact hkN) (⟨b0, b1⟩, ub)) (by rw [List.length_set]; exact HL.out) (by rw [List.length_set, HL.out]; exact hdN) (⟨a0, a1⟩, ua)
            have B2 : But (fun k => k = g) w (setC (setC W3 g (k * 3) [.int .i64 b0, .int .i64 b1, .int .i64 ub]) g (dn * 3) [.int .i64 a0, .int .i64 a1, .int .i64 ua]) :=
              ((HB.out.on HW3.out).setC _ (fun _ => rfl)).setC _ (fun _ => rfl)
            have HO2 : Hid _ := hide O2
            have HB2 : Hid _ := hide B2
            clear O2 B2 x0 x1 x2 y0 y1 y2 z0 z1 z2 v0 v1 v2
            go_wp2_with fail
            refine ⟨⟨dn, 2 * dn + 1, _, by first | rfl | (congr 1), by first | rfl | (congr 1; omega), hide rfl, by omega, hide (by rw [List.length_set, List.length_set]; exact HL.out), HO2.out.below (Below.refl _ _).drew, (swp_perm HA.out HBd.out).trans HP.out, fun o h => (HR.out o h).step o (by omega) (by have := HU.out; omega) HA.out HBd.out HF1.out.symm (BEST.out o), HB2.out.drew⟩, by simp [intOf]; omega⟩
        | true =>
          have BEST : Hid (∀ o : Ord (fst bfI), ∀ i x, 0 < i → (i - 1) / 2 = k → L[i]? = some x → fst bfI x (⟨c0, c1⟩, uc) = false) := hide (fun o => best_right o (by have := HU.out; rw [← this]; exact HBd.out) (by rw [HE.out]; exact HC.out) HF.out.symm)
          have hdN : (dn + 1) < N := by omega
          have HSd : Hid (∀ X, Below wr.heap.size wr X → X.cell? ⟨g, (dn + 1) * 3, none⟩ = some (.int .i64 c0) ∧ X.cell? ⟨g, (dn + 1) * 3 + 1, none⟩ = some (.int .i64 c1) ∧ X.cell? ⟨g, (dn + 1) * 3 + 2, none⟩ = some (.int .i64 uc) ∧ X.cell? ⟨g, k * 3, none⟩ = some (.int .i64 a0) ∧ X.cell? ⟨g, k * 3 + 1, none⟩ = some (.int .i64 a1) ∧ X.cell? ⟨g, k * 3 + 2, none⟩ = some (.int .i64 ua)) := hide (fun X hW => ⟨(HOW.out.below hW).cell HC.out 0 rfl, (HOW.out.below hW).cell HC.out 1 rfl, (HOW.out.below hW).cell HC.out 2 rfl, (HOW.out.below hW).cell HA.out 0 rfl, (HOW.out.below hW).cell HA.out 1 rfl, (HOW.out.below hW).cell HA.out 2 rfl⟩)
          obtain ⟨x0, x1, x2, y0, y1, y2⟩ := HSd.out _ HW1.out
          go_wp2_with fail
          go_region_held3 (fun X => X.cell? ⟨g, (dn + 1) * 3, none⟩ = some (.int .i64 c0) ∧ X.cell? ⟨g, (dn + 1) * 3 + 1, none⟩ = some (.int .i64 c1) ∧ X.cell? ⟨g, (dn + 1) * 3 + 2, none⟩ = some (.int .i64 uc) ∧ X.cell? ⟨g, k * 3, none⟩ = some (.int .i64 a0) ∧ X.cell? ⟨g, k * 3 + 1, none⟩ = some (.int .i64 a1) ∧ X.cell? ⟨g, k * 3 + 2, none⟩ = some (.int .i64 ua)) (first | exact HSd.out _ hB4 | exact HSd.out _ HW1.out | exact HSd.out _ (Below.trans HW1.out (Below.drew (Below.refl _ _)))) (first
            | (go_at_call 72; go_must (
               refine (firstI (⟨c0, c1⟩, uc) (⟨a0, a1⟩, ua) _).mono ?_
               rintro e3 W3 ⟨rfl, hB3⟩
               have hB4 : Below wr.heap.size wr W3 := Below.on (Below.trans HW1.out (Below.drew (Below.refl _ _))) hB3)))
          obtain ⟨f1, hf1⟩ : ∃ f1, f1 = fst bfI (⟨c0, c1⟩, uc) (⟨a0, a1⟩, ua) := ⟨_, rfl⟩
          rw [← hf1]
          have HF1 : Hid _ := hide hf1
          have HW3 : Hid _ := hide hB4
          have OW3 : Hid _ := hide (HOW.out.below hB4)
          clear hf1 x0 x1 x2 y0 y1 y2 hB3 hB4
          cases f1 with
          | false =>
            go_wp2_with fail
            (try simp only [Exit.inBlock, Exit.then])
            refine bodyPost_ret (results_none rfl _ _ _) rfl ?_
            exact ⟨rfl, L, OW3.out, HP.out, fun o h => (HR.out o h).done1 o HA.out HF1.out.symm (BEST.out o), HB.out.on HW3.out⟩
          | true =>
            obtain ⟨x0, x1, x2, y0, y1, y2⟩ := HSd.out _ HW3.out
            have z0 := OW3.out.frozen (k * 3); have z1 := OW3.out.frozen (k * 3 + 1); have z2 := OW3.out.frozen (k * 3 + 2)
            have v0 := OW3.out.frozen ((dn + 1) * 3); have v1 := OW3.out.frozen ((dn + 1) * 3 + 1); have v2 := OW3.out.frozen ((dn + 1) * 3 + 2)
            go_wp2_with fail
            go_region
            have O2 : Own layEI 77 (setC (setC W3 g (k * 3) [.int .i64 c0, .int .i64 c1, .int .i64 uc]) g ((dn + 1) * 3) [.int .i64 a0, .int .i64 a1, .int .i64 ua]) base (.slice (some ⟨g, 0, none⟩) N c) ((L.set k (⟨c0, c1⟩, uc)).set (dn + 1) (⟨a0, a1⟩, ua)) :=
              Own.set (Own.set OW3.out HL.out (by rw [HL.out]; exact hkN) (⟨c0, c1⟩, uc)) (by rw [List.length_set]; exact HL.out) (by rw [List.length_set, HL.out]; exact hdN) (⟨a0, a1⟩, ua)
            have B2 : But (fun k => k = g) w (setC (setC W3 g (k * 3) [.int .i64 c0, .int .i64 c1, .int .i64 uc]) g ((dn + 1) * 3) [.int .i64 a0, .int .i64 a1, .int .i64 ua]) :=
              ((HB.out.on HW3.out).setC _ (fun _ => rfl)).setC _ (fun _ => rfl)
            have HO2 : Hid _ := hide O2
            have HB2 : Hid _ := hide B2
            clear O2 B2 x0 x1 x2 y0 y1 y2 z0 z1 z2 v0 v1 v2
            go_wp2_with fail
            refine ⟨⟨(dn + 1), 2 * (dn + 1) + 1, _, by first | rfl | (congr 1), by first | rfl | (congr 1; omega), hide rfl, by omega, hide (by rw [List.length_set, List.length_set]; exact HL.out), HO2.out.below (Below.refl _ _).drew, (swp_perm HA.out HC.out).trans HP.out, fun o h => (HR.out o h).step o (by omega) (by have := HU.out; omega) HA.out HC.out HF1.out.symm (BEST.out o), HB2.out.drew⟩, by simp [intOf]; omega⟩
      · clear hlL
        have hrD : decide (dn + 1 < N) = false := decide_eq_false hr
        have hwr : IntKind.i64.wrap ((dn : Int) + 1) = (dn : Int) + 1 := by rw [IntKind.wrap_i64]; omega
        have hrI : decide ((dn : Int) + 1 < (N : Int)) = false := decide_eq_false (by omega)
        go_wp2_with fail
        go_quiet (fail)
        clear hrD hrI hwr
        have BEST : Hid (∀ o : Ord (fst bfI), ∀ i x, 0 < i → (i - 1) / 2 = k → L[i]? = some x → fst bfI x (⟨b0, b1⟩, ub) = false) := hide (fun o => best_left o (by have := HU.out; rw [← this]; exact HBd.out) (by intro cc hcc; have := get_lt hcc; have h1 := HU.out; have h2 := HL.out; omega))
        obtain ⟨W1, hW1⟩ : ∃ W1, W1 = wr.drewN nq := ⟨_, rfl⟩
        have HW1 : Hid (Below wr.heap.size wr W1) := hide (by rw [hW1]; exact below_drewN (Below.refl _ _) _)
        rw [← hW1]
        clear hW1
        have hdN : dn < N := by omega
        have HSd : Hid (∀ X, Below wr.heap.size wr X → X.cell? ⟨g, dn * 3, none⟩ = some (.int .i64 b0) ∧ X.cell? ⟨g, dn * 3 + 1, none⟩ = some (.int .i64 b1) ∧ X.cell? ⟨g, dn * 3 + 2, none⟩ = some (.int .i64 ub) ∧ X.cell? ⟨g, k * 3, none⟩ = some (.int .i64 a0) ∧ X.cell? ⟨g, k * 3 + 1, none⟩ = some (.int .i64 a1) ∧ X.cell? ⟨g, k * 3 + 2, none⟩ = some (.int .i64 ua)) := hide (fun X hW => ⟨(HOW.out.below hW).cell HBd.out 0 rfl, (HOW.out.below hW).cell HBd.out 1 rfl, (HOW.out.below hW).cell HBd.out 2 rfl, (HOW.out.below hW).cell HA.out 0 rfl, (HOW.out.below hW).cell HA.out 1 rfl, (HOW.out.below hW).cell HA.out 2 rfl⟩)
        obtain ⟨x0, x1, x2, y0, y1, y2⟩ := HSd.out _ HW1.out
        go_wp2_with fail
        go_region_held3 (fun X => X.cell? ⟨g, dn * 3, none⟩ = some (.int .i64 b0) ∧ X.cell? ⟨g, dn * 3 + 1, none⟩ = some (.int .i64 b1) ∧ X.cell? ⟨g, dn * 3 + 2, none⟩ = some (.int .i64 ub) ∧ X.cell? ⟨g, k * 3, none⟩ = some (.int .i64 a0) ∧ X.cell? ⟨g, k * 3 + 1, none⟩ = some (.int .i64 a1) ∧ X.cell? ⟨g, k * 3 + 2, none⟩ = some (.int .i64 ua)) (first | exact HSd.out _ hB4 | exact HSd.out _ HW1.out | exact HSd.out _ (Below.trans HW1.out (Below.drew (Below.refl _ _)))) (first
          | (go_at_call 72; go_must (
             refine (firstI (⟨b0, b1⟩, ub) (⟨a0, a1⟩, ua) _).mono ?_
             rintro e3 W3 ⟨rfl, hB3⟩
             have hB4 : Below wr.heap.size wr W3 := Below.on (Below.trans HW1.out (Below.drew (Below.refl _ _))) hB3)))
        obtain ⟨f1, hf1⟩ : ∃ f1, f1 = fst bfI (⟨b0, b1⟩, ub) (⟨a0, a1⟩, ua) := ⟨_, rfl⟩
        rw [← hf1]
        have HF1 : Hid _ := hide hf1
        have HW3 : Hid _ := hide hB4
        have OW3 : Hid _ := hide (HOW.out.below hB4)
        clear hf1 x0 x1 x2 y0 y1 y2 hB3 hB4
        cases f1 with
        | false =>
          go_wp2_with fail
          (try simp only [Exit.inBlock, Exit.then])
          refine bodyPost_ret (results_none rfl _ _ _) rfl ?_
          exact ⟨rfl, L, OW3.out, HP.out, fun o h => (HR.out o h).done1 o HA.out HF1.out.symm (BEST.out o), HB.out.on HW3.out⟩
        | true =>
          obtain ⟨x0, x1, x2, y0, y1, y2⟩ := HSd.out _ HW3.out
          have z0 := OW3.out.frozen (k * 3); have z1 := OW3.out.frozen (k * 3 + 1); have z2 := OW3.out.frozen (k * 3 + 2)
          have v0 := OW3.out.frozen (dn * 3); have v1 := OW3.out.frozen (dn * 3 + 1); have v2 := OW3.out.frozen (dn * 3 + 2)
          go_wp2_with fail
          go_region
          have O2 : Own layEI 77 (setC (setC W3 g (k * 3) [.int .i64 b0, .int .i64 b1, .int .i64 ub]) g (dn * 3) [.int .i64 a0, .int .i64 a1, .int .i64 ua]) base (.slice (some ⟨g, 0, none⟩) N c) ((L.set k (⟨b0, b1⟩, ub)).set dn (⟨a0, a1⟩, ua)) :=
            Own.set (Own.set OW3.out HL.out (by rw [HL.out]; exact hkN) (⟨b0, b1⟩, ub)) (by rw [List.length_set]; exact HL.out) (by rw [List.length_set, HL.out]; exact hdN) (⟨a0, a1⟩, ua)
          have B2 : But (fun k => k = g) w (setC (setC W3 g (k * 3) [.int .i64 b0, .int .i64 b1, .int .i64 ub]) g (dn * 3) [.int .i64 a0, .int .i64 a1, .int .i64 ua]) :=
            ((HB.out.on HW3.out).setC _ (fun _ => rfl)).setC _ (fun _ => rfl)
          have HO2 : Hid _ := hide O2
          have HB2 : Hid _ := hide B2
          clear O2 B2 x0 x1 x2 y0 y1 y2 z0 z1 z2 v0 v1 v2
          go_wp2_with fail
          refine ⟨⟨dn, 2 * dn + 1, _, by first | rfl | (congr 1), by first | rfl | (congr 1; omega), hide rfl, by omega, hide (by rw [List.length_set, List.length_set]; exact HL.out), HO2.out.below (Below.refl _ _).drew, (swp_perm HA.out HBd.out).trans HP.out, fun o h => (HR.out o h).step o (by omega) (by have := HU.out; omega) HA.out HBd.out HF1.out.symm (BEST.out o), HB2.out.drew⟩, by simp [intOf]; omega⟩
    · go_wp2_with fail
      go_end0
      exact ⟨rfl, L, HOW.out, HP.out, fun o h => (HR.out o h).done (by have h1 := HU.out; have h2 := HL.out; omega), HB.out⟩
end Go.Proofs.Ytdmlehbamdcjcaa
