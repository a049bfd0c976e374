/-
  A heap in memory; an entry is brought up.
-/
import Derived.Test.YtdmlehbamdcjcaaHpAI
namespace Go.Proofs.Ytdmlehbamdcjcaa
open Go.RowKit
/-- A heap at p, its entries E in the block g. -/
structure HbI (w : World) (base p g c : Nat) (E : List (It × Int)) (n : Int) : Prop where
  hp : w.heap[p]? = some (.cells #[.slice (some ⟨g, 0, none⟩) E.length c, .int .i64 n] 81 (0, 0))
  own : Own layEI 77 w base (.slice (some ⟨g, 0, none⟩) E.length c) E
  ne : g ≠ p
set_option maxRecDepth 8000 in
set_option maxHeartbeats 1600000 in
theorem riseI (w : World) (base p g c N q : Nat) (E : List (It × Int)) (hp : w.cell? ⟨p, 0, none⟩ = some (.slice (some ⟨g, 0, none⟩) N c)) (hN : E.length = N) (ho : Own layEI 77 w base (.slice (some ⟨g, 0, none⟩) N c) E) (hq : q < N) (hb : (N : Int) ≤ 8796093022208) :
    Calls Try.prog 63 #[.pointer (some ⟨p, 0, none⟩), .int .i64 q] w fun r w' => r = .returned (.tuple #[]) ∧ ∃ E', Own layEI 77 w' base (.slice (some ⟨g, 0, none⟩) N c) E' ∧ E'.Perm E ∧ (Ord (fst bfI) → Rise (fst bfI) E q → Hp (fst bfI) E') ∧ But (fun k => k = g) w w' := by
  have HN : Hid _ := hide hN
  have HO : Hid _ := hide ho
  have hu := up_val q
  clear hN ho
  go_enter Try.func63, Try.ntmps63
  go_wp2_with fail
  go_loopw [1, 5] (fun si su wr => ∃ (k u : Nat) (L : List (It × Int)), si = .int .i64 k ∧ su = .int .i64 u ∧ Hid (u = (k - 1) / 2) ∧ k < N ∧ Hid (L.length = N) ∧ Own layEI 77 wr base (.slice (some ⟨g, 0, none⟩) N c) L ∧ L.Perm E ∧ (Ord (fst bfI) → Rise (fst bfI) E q → Rise (fst bfI) L k) ∧ But (fun k => k = g) w wr) (fun si _ _ => (intOf si).toNat)
  case atStart =>
    exact ⟨q, (q - 1) / 2, E, rfl, by congr 1, hide rfl, hq, HN, HO.out, List.Perm.refl _, fun _ h => h, But.refl _ _⟩
  case round =>
    obtain ⟨k, u, L, rfl, rfl, HU, hk, HL, hown, hperm, hrise, hbut⟩ := hrel
    have HOW : Hid _ := hide hown
    have HP : Hid _ := hide hperm
    have HR : Hid _ := hide hrise
    have HB : Hid _ := hide hbut
    clear hown hperm hrise hbut
    by_cases hk0 : k = 0
    · subst hk0
      go_wp2_with fail
      go_quiet (fail)
      go_wp2
      go_end0
      exact ⟨rfl, L, HOW.out.below (below_drewN (Below.refl _ _) _), HP.out, fun o h => (HR.out o h).done0, HB.out.on (below_drewN (Below.refl _ _) _)⟩
    · have hkN : 0 < k := by omega
      have hkD : decide (0 < k) = true := decide_eq_true hkN
      have huk : u < k := by have := HU.out; omega
      have huN : u < N := by omega
      have hlL := HL.out
      obtain ⟨a, ha⟩ : ∃ a, L[k]? = some a := ⟨_, List.getElem?_eq_getElem (by omega)⟩
      obtain ⟨b, hb'⟩ : ∃ b, L[u]? = some b := ⟨_, List.getElem?_eq_getElem (by omega)⟩
      clear hlL
      have HA : Hid _ := hide ha
      have HBu : Hid _ := hide hb'
      clear ha hb'
      have HS : Hid (∀ W, Below wr.heap.size wr W → W.cell? ⟨g, k * 3, none⟩ = some (.int .i64 a.1.k) ∧ W.cell? ⟨g, k * 3 + 1, none⟩ = some (.int .i64 a.1.t) ∧ W.cell? ⟨g, k * 3 + 2, none⟩ = some (.int .i64 a.2) ∧ W.cell? ⟨g, u * 3, none⟩ = some (.int .i64 b.1.k) ∧ W.cell? ⟨g, u * 3 + 1, none⟩ = some (.int .i64 b.1.t) ∧ W.cell? ⟨g, u * 3 + 2, none⟩ = some (.int .i64 b.2)) := hide (fun W hW => ⟨(HOW.out.below hW).cell HA.out 0 rfl, (HOW.out.below hW).cell HA.out 1 rfl, (HOW.out.below hW).cell HA.out 2 rfl, (HOW.out.below hW).cell HBu.out 0 rfl, (HOW.out.below hW).cell HBu.out 1 rfl, (HOW.out.below hW).cell HBu.out 2 rfl⟩)
      obtain ⟨⟨a0, a1⟩, ua⟩ := a
      obtain ⟨⟨b0, b1⟩, ub⟩ := b
      have HS0 := HS.out _ (Below.refl _ _)
      obtain ⟨x0, x1, x2, y0, y1, y2⟩ := HS0
      go_wp2_with fail
      go_region_held3 (fun X => X.cell? ⟨g, k * 3, none⟩ = some (.int .i64 a0) ∧ X.cell? ⟨g, k * 3 + 1, none⟩ = some (.int .i64 a1) ∧ X.cell? ⟨g, k * 3 + 2, none⟩ = some (.int .i64 ua) ∧ X.cell? ⟨g, u * 3, none⟩ = some (.int .i64 b0) ∧ X.cell? ⟨g, u * 3 + 1, none⟩ = some (.int .i64 b1) ∧ X.cell? ⟨g, u * 3 + 2, none⟩ = some (.int .i64 ub)) (first | exact HS.out _ hB2 | exact HS.out _ (Below.refl _ _) | exact HS.out _ (below_drewN (Below.refl _ _) _)) (first
        | (go_at_call 72; go_must (
           refine (firstI ⟨⟨a0, a1⟩, ua⟩ ⟨⟨b0, b1⟩, ub⟩ _).mono ?_
           rintro e1 W1 ⟨rfl, hB1⟩
           have hB2 : Below wr.heap.size wr W1 := (Below.refl _ _).drew.trans hB1)))
      obtain ⟨f0, hf0⟩ : ∃ f0, f0 = fst bfI (⟨a0, a1⟩, ua) (⟨b0, b1⟩, ub) := ⟨_, rfl⟩
      rw [← hf0]
      have HF : Hid _ := hide hf0
      clear hf0 x0 x1 x2 y0 y1 y2
      have HW1 : Hid _ := hide hB2
      have OW1 : Hid _ := hide (HOW.out.below hB2)
      cases f0 with
      | false =>
        clear hB1 hB2
        go_wp2_with fail
        go_end0
        exact ⟨rfl, L, OW1.out, HP.out, fun o h => (HR.out o h).done HA.out (by have := HU.out; rw [← this]; exact HBu.out) HF.out.symm, HB.out.on HW1.out⟩
      | true =>
        obtain ⟨x0, x1, x2, y0, y1, y2⟩ := HS.out _ hB2
        have z0 := OW1.out.frozen (k * 3); have z1 := OW1.out.frozen (k * 3 + 1); have z2 := OW1.out.frozen (k * 3 + 2)
        have v0 := OW1.out.frozen (u * 3); have v1 := OW1.out.frozen (u * 3 + 1); have v2 := OW1.out.frozen (u * 3 + 2)
        clear hB1 hB2
        go_wp2_with fail
        go_region
        have O2 : Own layEI 77 (setC (setC W1 g (k * 3) [.int .i64 b0, .int .i64 b1, .int .i64 ub]) g (u * 3) [.int .i64 a0, .int .i64 a1, .int .i64 ua]) base (.slice (some ⟨g, 0, none⟩) N c) ((L.set k (⟨b0, b1⟩, ub)).set u (⟨a0, a1⟩, ua)) :=
          Own.set (Own.set OW1.out HL.out (by rw [HL.out]; exact hk) (⟨b0, b1⟩, ub)) (by rw [List.length_set]; exact HL.out) (by rw [List.length_set, HL.out]; exact huN) (⟨a0, a1⟩, ua)
        have B2 : But (fun k => k = g) w (setC (setC W1 g (k * 3) [.int .i64 b0, .int .i64 b1, .int .i64 ub]) g (u * 3) [.int .i64 a0, .int .i64 a1, .int .i64 ua]) :=
          ((HB.out.on HW1.out).setC _ (fun _ => rfl)).setC _ (fun _ => rfl)
        have HO2 : Hid _ := hide O2
        have HB2 : Hid _ := hide B2
        clear O2 B2 x0 y0 z0 v0 x1 y1 z1 v1 x2 y2 z2 v2
        have hu2 := up_val u
        go_wp2_with fail
        refine ⟨⟨u, (u - 1) / 2, _, rfl, by congr 1, hide rfl, huN, hide (by rw [List.length_set, List.length_set]; exact HL.out), HO2.out.below (Below.refl _ _).drew, (swp_perm HA.out HBu.out).trans HP.out, fun o h => ?_, HB2.out.drew⟩, by simp [intOf]; omega⟩
        have hr := (HR.out o h).step o hkN HA.out (by have := HU.out; rw [← this]; exact HBu.out) HF.out.symm
        rw [← HU.out] at hr
        exact hr
end Go.Proofs.Ytdmlehbamdcjcaa
