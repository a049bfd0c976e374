/-
  A heap in memory; an entry is brought up.
-/
import Derived.Test.YtdmlehbamdcjcaaHpAR
namespace Go.Proofs.Ytdmlehbamdcjcaa
open Go.RowKit
/-- A heap at p, its entries E in the block g. -/
structure HbR (w : World) (base p g c : Nat) (E : List (Rc × Int)) (n : Int) : Prop where
  hp : w.heap[p]? = some (.cells #[.slice (some ⟨g, 0, none⟩) E.length c, .int .i64 n] 86 (0, 0))
  own : Own layER 89 w base (.slice (some ⟨g, 0, none⟩) E.length c) E
  ne : g ≠ p
set_option maxRecDepth 8000 in
set_option maxHeartbeats 1600000 in
theorem riseR (w : World) (base p g c N q : Nat) (E : List (Rc × Int)) (hp : w.cell? ⟨p, 0, none⟩ = some (.slice (some ⟨g, 0, none⟩) N c)) (hN : E.length = N) (ho : Own layER 89 w base (.slice (some ⟨g, 0, none⟩) N c) E) (hq : q < N) (hb : (N : Int) ≤ 5000000000000) :
    Calls Try.prog 65 #[.pointer (some ⟨p, 0, none⟩), .int .i64 q] w fun r w' => r = .returned (.tuple #[]) ∧ ∃ E', Own layER 89 w' base (.slice (some ⟨g, 0, none⟩) N c) E' ∧ E'.Perm E ∧ (Ord (fst bfR) → Rise (fst bfR) E q → Hp (fst bfR) E') ∧ But (fun k => k = g) w w' := by
  have HN : Hid _ := hide hN
  have HO : Hid _ := hide ho
  have hu := up_val q
  clear hN ho
  go_enter Try.func65, Try.ntmps65
  go_wp2_with fail
  go_loopw [1, 5] (fun si su wr => ∃ (k u : Nat) (L : List (Rc × Int)), si = .int .i64 k ∧ su = .int .i64 u ∧ Hid (u = (k - 1) / 2) ∧ k < N ∧ Hid (L.length = N) ∧ Own layER 89 wr base (.slice (some ⟨g, 0, none⟩) N c) L ∧ L.Perm E ∧ (Ord (fst bfR) → Rise (fst bfR) E q → Rise (fst bfR) L k) ∧ But (fun k => k = g) w wr) (fun si _ _ => (intOf si).toNat)
  case atStart =>
    exact ⟨q, (q - 1) / 2, E, rfl, by congr 1, hide rfl, hq, HN, HO.out, List.Perm.refl _, fun _ h => h, But.refl _ _⟩
  case round =>
    obtain ⟨k, u, L, rfl, rfl, HU, hk, HL, hown, hperm, hrise, hbut⟩ := hrel
    have HOW : Hid _ := hide hown
    have HP : Hid _ := hide hperm
    have HR : Hid _ := hide hrise
    have HB : Hid _ := hide hbut
    clear hown hperm hrise hbut
    by_cases hk0 : k = 0
    · subst hk0
      go_wp2_with fail
      go_quiet (fail)
      go_wp2
      go_end0
      exact ⟨rfl, L, HOW.out.below (below_drewN (Below.refl _ _) _), HP.out, fun o h => (HR.out o h).done0, HB.out.on (below_drewN (Below.refl _ _) _)⟩
    · have hkN : 0 < k := by omega
      have hkD : decide (0 < k) = true := decide_eq_true hkN
      have huk : u < k := by have := HU.out; omega
      have huN : u < N := by omega
      have hlL := HL.out
      obtain ⟨a, ha⟩ : ∃ a, L[k]? = some a := ⟨_, List.getElem?_eq_getElem (by omega)⟩
      obtain ⟨b, hb'⟩ : ∃ b, L[u]? = some b := ⟨_, List.getElem?_eq_getElem (by omega)⟩
      clear hlL
      have HA : Hid _ := hide ha
      have HBu : Hid _ := hide hb'
      clear ha hb'
      have HS : Hid (∀ W, Below wr.heap.size wr W → W.cell? ⟨g, k * 6, none⟩ = some (.int .i64 a.1.stamp) ∧ W.cell? ⟨g, k * 6 + 1, none⟩ = some (.int .i64 a.1.kind) ∧ W.cell? ⟨g, k * 6 + 2, none⟩ = some (.int .u64 a.1.obj) ∧ W.cell? ⟨g, k * 6 + 3, none⟩ = some (.int .u64 a.1.arg) ∧ W.cell? ⟨g, k * 6 + 4, none⟩ = some (.int .i64 a.1.stack) ∧ W.cell? ⟨g, k * 6 + 5, none⟩ = some (.int .i64 a.2) ∧ W.cell? ⟨g, u * 6, none⟩ = some (.int .i64 b.1.stamp) ∧ W.cell? ⟨g, u * 6 + 1, none⟩ = some (.int .i64 b.1.kind) ∧ W.cell? ⟨g, u * 6 + 2, none⟩ = some (.int .u64 b.1.obj) ∧ W.cell? ⟨g, u * 6 + 3, none⟩ = some (.int .u64 b.1.arg) ∧ W.cell? ⟨g, u * 6 + 4, none⟩ = some (.int .i64 b.1.stack) ∧ W.cell? ⟨g, u * 6 + 5, none⟩ = some (.int .i64 b.2)) := hide (fun W hW => ⟨(HOW.out.below hW).cell HA.out 0 rfl, (HOW.out.below hW).cell HA.out 1 rfl, (HOW.out.below hW).cell HA.out 2 rfl, (HOW.out.below hW).cell HA.out 3 rfl, (HOW.out.below hW).cell HA.out 4 rfl, (HOW.out.below hW).cell HA.out 5 rfl, (HOW.out.below hW).cell HBu.out 0 rfl, (HOW.out.below hW).cell HBu.out 1 rfl, (HOW.out.below hW).cell HBu.out 2 rfl, (HOW.out.below hW).cell HBu.out 3 rfl, (HOW.out.below hW).cell HBu.out 4 rfl, (HOW.out.below hW).cell HBu.out 5 rfl⟩)
      obtain ⟨⟨a0, a1, a2, a3, a4⟩, ua⟩ := a
      obtain ⟨⟨b0, b1, b2, b3, b4⟩, ub⟩ := b
      have HS0 := HS.out _ (Below.refl _ _)
      obtain ⟨x0, x1, x2, x3, x4, x5, y0, y1, y2, y3, y4, y5⟩ := HS0
      go_wp2_with fail
      go_region_held3 (fun X => X.cell? ⟨g, k * 6, none⟩ = some (.int .i64 a0) ∧ X.cell? ⟨g, k * 6 + 1, none⟩ = some (.int .i64 a1) ∧ X.cell? ⟨g, k * 6 + 2, none⟩ = some (.int .u64 a2) ∧ X.cell? ⟨g, k * 6 + 3, none⟩ = some (.int .u64 a3) ∧ X.cell? ⟨g, k * 6 + 4, none⟩ = some (.int .i64 a4) ∧ X.cell? ⟨g, k * 6 + 5, none⟩ = some (.int .i64 ua) ∧ X.cell? ⟨g, u * 6, none⟩ = some (.int .i64 b0) ∧ X.cell? ⟨g, u * 6 + 1, none⟩ = some (.int .i64 b1) ∧ X.cell? ⟨g, u * 6 + 2, none⟩ = some (.int .u64 b2) ∧ X.cell? ⟨g, u * 6 + 3, none⟩ = some (.int .u64 b3) ∧ X.cell? ⟨g, u * 6 + 4, none⟩ = some (.int .i64 b4) ∧ X.cell? ⟨g, u * 6 + 5, none⟩ = some (.int .i64 ub)) (first | exact HS.out _ hB2 | exact HS.out _ (Below.refl _ _) | exact HS.out _ (below_drewN (Below.refl _ _) _)) (first
        | (go_at_call 73; go_must (
           refine (firstR ⟨⟨a0, a1, a2, a3, a4⟩, ua⟩ ⟨⟨b0, b1, b2, b3, b4⟩, ub⟩ _).mono ?_
           rintro e1 W1 ⟨rfl, hB1⟩
           have hB2 : Below wr.heap.size wr W1 := (Below.refl _ _).drew.trans hB1)))
      obtain ⟨f0, hf0⟩ : ∃ f0, f0 = fst bfR (⟨a0, a1, a2, a3, a4⟩, ua) (⟨b0, b1, b2, b3, b4⟩, ub) := ⟨_, rfl⟩
      rw [← hf0]
      have HF : Hid _ := hide hf0
      clear hf0 x0 x1 x2 x3 x4 x5 y0 y1 y2 y3 y4 y5
      have HW1 : Hid _ := hide hB2
      have OW1 : Hid _ := hide (HOW.out.below hB2)
      cases f0 with
      | false =>
        clear hB1 hB2
        go_wp2_with fail
        go_end0
        exact ⟨rfl, L, OW1.out, HP.out, fun o h => (HR.out o h).done HA.out (by have := HU.out; rw [← this]; exact HBu.out) HF.out.symm, HB.out.on HW1.out⟩
      | true =>
        obtain ⟨x0, x1, x2, x3, x4, x5, y0, y1, y2, y3, y4, y5⟩ := HS.out _ hB2
        have z0 := OW1.out.frozen (k * 6); have z1 := OW1.out.frozen (k * 6 + 1); have z2 := OW1.out.frozen (k * 6 + 2); have z3 := OW1.out.frozen (k * 6 + 3); have z4 := OW1.out.frozen (k * 6 + 4); have z5 := OW1.out.frozen (k * 6 + 5)
        have v0 := OW1.out.frozen (u * 6); have v1 := OW1.out.frozen (u * 6 + 1); have v2 := OW1.out.frozen (u * 6 + 2); have v3 := OW1.out.frozen (u * 6 + 3); have v4 := OW1.out.frozen (u * 6 + 4); have v5 := OW1.out.frozen (u * 6 + 5)
        clear hB1 hB2
        go_wp2_with fail
        go_region
        have O2 : Own layER 89 (setC (setC W1 g (k * 6) [.int .i64 b0, .int .i64 b1, .int .u64 b2, .int .u64 b3, .int .i64 b4, .int .i64 ub]) g (u * 6) [.int .i64 a0, .int .i64 a1, .int .u64 a2, .int .u64 a3, .int .i64 a4, .int .i64 ua]) base (.slice (some ⟨g, 0, none⟩) N c) ((L.set k (⟨b0, b1, b2, b3, b4⟩, ub)).set u (⟨a0, a1, a2, a3, a4⟩, ua)) :=
          Own.set (Own.set OW1.out HL.out (by rw [HL.out]; exact hk) (⟨b0, b1, b2, b3, b4⟩, ub)) (by rw [List.length_set]; exact HL.out) (by rw [List.length_set, HL.out]; exact huN) (⟨a0, a1, a2, a3, a4⟩, ua)
        have B2 : But (fun k => k = g) w (setC (setC W1 g (k * 6) [.int .i64 b0, .int .i64 b1, .int .u64 b2, .int .u64 b3, .int .i64 b4, .int .i64 ub]) g (u * 6) [.int .i64 a0, .int .i64 a1, .int .u64 a2, .int .u64 a3, .int .i64 a4, .int .i64 ua]) :=
          ((HB.out.on HW1.out).setC _ (fun _ => rfl)).setC _ (fun _ => rfl)
        have HO2 : Hid _ := hide O2
        have HB2 : Hid _ := hide B2
        clear O2 B2 x0 y0 z0 v0 x1 y1 z1 v1 x2 y2 z2 v2 x3 y3 z3 v3 x4 y4 z4 v4 x5 y5 z5 v5
        have hu2 := up_val u
        go_wp2_with fail
        refine ⟨⟨u, (u - 1) / 2, _, rfl, by congr 1, hide rfl, huN, hide (by rw [List.length_set, List.length_set]; exact HL.out), HO2.out.below (Below.refl _ _).drew, (swp_perm HA.out HBu.out).trans HP.out, fun o h => ?_, HB2.out.drew⟩, by simp [intOf]; omega⟩
        have hr := (HR.out o h).step o hkN HA.out (by have := HU.out; rw [← this]; exact HBu.out) HF.out.symm
        rw [← HU.out] at hr
        exact hr
end Go.Proofs.Ytdmlehbamdcjcaa
