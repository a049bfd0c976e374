/-
  The document's Good.
-/
import Derived.Test.YtajkenbcndmjpabClJ
namespace Go.Proofs.Ytajkenbcndmjpab
open Go.RowKit
theorem gd_step {m : Int} {x : Tk} {c : List Tk} : gd m (x :: c) = (decide (m ≤ x.g) && (decide (x.g < 65536) && (decide (1 ≤ x.t) && gd (x.g + 1) c))) := rfl
/-- What was looked at last. -/
structure Lst (L : List Tk) (k : Nat) (m : Int) (G : Bool) : Prop where
  g : gd m (L.drop k) = G
  z : k = 0 → m = 0
  s : ∀ j, k = j + 1 → ∃ p, L[j]? = some p ∧ m = p.g + 1
  m0 : 0 ≤ m
theorem Lst.next {L : List Tk} {k : Nat} {m : Int} {G : Bool} {x : Tk} (h : Lst L k m G) (hx : L[k]? = some x) (h1 : m ≤ x.g) (h2 : x.g < 65536) (h3 : 1 ≤ x.t) : Lst L (k + 1) (x.g + 1) G := by
  have h0 := h.m0
  refine ⟨?_, fun e => by omega, fun j hj => ?_, by omega⟩
  · rw [← h.g, drop_at hx, gd_step, decide_eq_true h1, decide_eq_true h2, decide_eq_true h3]; rfl
  · obtain rfl : j = k := by omega
    exact ⟨x, hx, rfl⟩
set_option maxRecDepth 8000 in
set_option maxHeartbeats 4000000 in
theorem rgood_any (a : Option Addr) (n c : Nat) (L : List Tk) (w : World) (h : TRow layT w a n L) (hn : (n : Int) ≤ 8796093022208) :
    Calls Try.prog 25 #[.slice a n c] w fun e w' => e = .returned (.bool (gd 0 L)) ∧ ∃ q, w' = w.drewN q := by
  have HT := hide h
  obtain ⟨G, hG⟩ : ∃ G, gd 0 L = G := ⟨_, rfl⟩
  rw [hG]
  have HG := hide hG
  clear h hG
  go_enter Try.func25, Try.ntmps25
  go_wp2
  go_loopw [3] (fun i wr => ∃ (k : Nat) (m : Int), k ≤ n ∧ i = .int .i64 k ∧ Hid (Lst L k m G) ∧ Hid (∃ q, wr = w.drewN q)) (fun i _ => n - (intOf i).toNat)
  case atStart => exact ⟨0, 0, Nat.zero_le _, rfl, hide ⟨by rw [List.drop_zero]; exact HG.out, fun _ => rfl, fun j hj => by omega, by omega⟩, hide ⟨0, rfl⟩⟩
  case round =>
    obtain ⟨k, m, hk, rfl, HL, HW⟩ := hrel
    have HTr : Hid (TRow layT wr a n L) := hide (by obtain ⟨q, hq⟩ := HW.out; rw [hq]; exact HT.out.below (below_drewN (Below.refl _ _) _))
    have HW2 : Hid (∀ q, ∃ q', wr.drewN q = w.drewN q') := hide (fun q => by obtain ⟨q0, hq⟩ := HW.out; exact ⟨q0 + q, by rw [hq]; simp⟩)
    by_cases hlt : k < n
    · have hltI : (k : Int) < n := by omega
      obtain ⟨b, off, x, rfl, hx, hb, c0, c1⟩ := HTr.out.some hlt
      have HX := hide (drop_at hx)
      have HXa := hide hx
      have HGs : Hid (gd m (L.drop k) = (decide (m ≤ x.g) && (decide (x.g < 65536) && (decide (1 ≤ x.t) && gd (x.g + 1) (L.drop (k + 1)))))) := hide (by rw [HX.out]; rfl)
      obtain ⟨xg, xt⟩ := x
      dsimp only at c0 c1 HGs
      clear hx hb
      by_cases h1 : xg < 0
      · have d1 : decide (xg < 0) = true := decide_eq_true h1
        have HE : Hid (G = false) := hide (by rw [← HL.out.g, HGs.out, decide_eq_false (by have := HL.out.m0; omega : ¬ m ≤ xg)]; rfl)
        go_wp2
        go_ret
        exact ⟨by rw [HE.out]; rfl, HW.out⟩
      · have d1 : decide (xg < 0) = false := decide_eq_false h1
        by_cases h2 : 65536 ≤ xg
        · have d2 : decide (65536 ≤ xg) = true := decide_eq_true h2
          have HE : Hid (G = false) := hide (by rw [← HL.out.g, HGs.out, decide_eq_false (by omega : ¬ xg < 65536)]; simp)
          go_wp2
          go_ret
          exact ⟨by rw [HE.out]; rfl, HW.out⟩
        · have d2 : decide (65536 ≤ xg) = false := decide_eq_false h2
          by_cases h3 : xt < 1
          · have d3 : decide (xt < 1) = true := decide_eq_true h3
            have HE : Hid (G = false) := hide (by rw [← HL.out.g, HGs.out, decide_eq_false (by omega : ¬ 1 ≤ xt)]; simp)
            go_wp2
            go_ret
            exact ⟨by rw [HE.out]; rfl, HW.out⟩
          · have d3 : decide (xt < 1) = false := decide_eq_false h3
            by_cases hk0 : k = 0
            · subst hk0
              have hm := HL.out.z rfl
              rw [Nat.zero_mul, Nat.add_zero] at c0 c1
              have HE : Hid (Lst L (0 + 1) (xg + 1) G) := hide (HL.out.next HXa.out (by dsimp only; omega) (by dsimp only; omega) (by dsimp only; omega))
              clear hm
              go_wp2_with fail
              go_quiet (fail)
              go_wp2
              exact ⟨⟨1, xg + 1, by omega, by go_num, HE, hide (HW2.out _)⟩, by simp [intOf]; omega⟩
            · obtain ⟨j, rfl⟩ : ∃ j, k = j + 1 := ⟨k - 1, by omega⟩
              obtain ⟨p, hp, hm⟩ := HL.out.s j rfl
              obtain ⟨p0, p1⟩ := HTr.out.tick hp
              obtain ⟨pg, pt'⟩ := p
              dsimp only at p0 p1 hm
              have hj1 : ((j + 1 : Nat) : Int) - 1 = (j : Int) := by omega
              have hj2 : (0 : Int) < ((j + 1 : Nat) : Int) := by omega
              have hjn : (j : Int) < n := by omega
              have hjI : (j : Int) + 1 < n := by omega
              by_cases h4 : xg ≤ pg
              · have d4 : decide (xg ≤ pg) = true := decide_eq_true h4
                have HE : Hid (G = false) := hide (by rw [← HL.out.g, HGs.out, decide_eq_false (by omega : ¬ m ≤ xg)]; rfl)
                clear hm hp
                go_wp2_with fail
                go_quiet (fail)
                go_wp2
                go_ret
                exact ⟨by rw [HE.out]; rfl, HW2.out _⟩
              · have d4 : decide (xg ≤ pg) = false := decide_eq_false h4
                have HE : Hid (Lst L (j + 1 + 1) (xg + 1) G) := hide (HL.out.next HXa.out (by dsimp only; omega) (by dsimp only; omega) (by dsimp only; omega))
                clear hm hp
                go_wp2_with fail
                go_quiet (fail)
                go_wp2
                exact ⟨⟨j + 1 + 1, xg + 1, by omega, by go_num, HE, hide (HW2.out _)⟩, by simp [intOf]; omega⟩
    · have hkn : k = n := by omega
      subst hkn
      have HE : Hid (G = true) := hide (by rw [← HL.out.g, List.drop_eq_nil_of_le (by rw [HT.out.len]; exact Nat.le_refl _)]; rfl)
      have hd : decide ((k : Int) < (k : Int)) = false := by simp
      go_wp2
      go_ret
      exact ⟨by rw [HE.out]; rfl, HW.out⟩
theorem rgoodB_any {w : World} {v : Value} {L : List Tk} (h : CL w v L) : Calls Try.prog 25 #[v] w fun e w' => e = .returned (.bool (gd 0 L)) ∧ Below w.heap.size w w' := by
  obtain ⟨a, n, c, rfl, h1⟩ := h.ex
  refine (rgood_any a n c L w h1.row h1.big).mono ?_
  rintro e w' ⟨he, q, rfl⟩
  exact ⟨he, below_drewN (Below.refl _ _) _⟩
end Go.Proofs.Ytajkenbcndmjpab
