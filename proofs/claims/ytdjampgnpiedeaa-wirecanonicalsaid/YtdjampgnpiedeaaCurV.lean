/-
  The cursor's Varint.
-/
import Derived.Test.YtdjampgnpiedeaaCurU
namespace Go.Proofs.Ytdjampgnpiedeaa
open Go.RowKit

theorem vvc_any (bx g n c p : Nat) (a : Option Addr) (zs : List Int) (w : World) (hx : w.cell? ⟨bx, 0, none⟩ = some (.pointer (some ⟨g, 0, none⟩))) (h0 : w.cell? ⟨g, 0, none⟩ = some (.slice a n c)) (h1 : w.cell? ⟨g, 1, none⟩ = some (.int .i64 p)) (hr : Row w a n zs) (hn : n ≤ 225000000000000) :
    Calls Try.prog 42 #[.pointer (some ⟨bx, 0, none⟩)] w fun e w' => e = .returned (out3 .i64 (rvAt zs p)) ∧ ∃ m, w' = w.drewN m := by
  have hrd := fun m => rv_any a n c p zs (w.drewN m) (hr.below (below_drewN (Below.refl _ _) m)) (by omega)
  generalize rvAt zs p = q at hrd
  obtain ⟨x, p', f'⟩ := q
  simp only [out3] at hrd
  have HR : Hid _ := hrd
  clear hrd hr
  go_enter Try.func42, Try.ntmps42
  go_wp2
  go_quiet ((go_at_call 18; exact Calls.quiet_of_same (HR.out _)))
  go_wp2
  go_ret3
  exact ⟨rfl, _, rfl⟩

theorem rvAt_place (zs : List Int) (t : Nat) (h : (rvAt zs t).2.2 = 0) : (t : Int) < (rvAt zs t).2.1 ∧ (rvAt zs t).2.1 ≤ zs.length := rdAt_place zs t h

set_option maxHeartbeats 400000 in
theorem cv_fault (base g : Nat) (a : Option Addr) (n c : Nat) (zs : List Int) (p : Nat) (f : Int) (w : World) (h : Cur w base g a n c zs p f) (hf : f ≠ 0) :
    Calls Try.prog 34 #[.pointer (some ⟨g, 0, none⟩)] w fun e w' => e = .returned (.int .i64 0) ∧ Below w.heap.size w w' := by
  have c2 := h.cell2
  have hlt := h.lt
  have hfb : (f != 0) = true := by simp [hf]
  clear h hf
  go_enter Try.func34, Try.ntmps34
  go_wp2_with (first
    | (go_at_call 37; refine (fault_any g f _ (by simp [World.cell?_alloc_past, hlt, c2])).mono ?_; rintro e w' ⟨rfl, rfl⟩)
    | go_in)
  go_ret
  exact ⟨rfl, (Below.refl _ _).alloc (Nat.le_refl _) _⟩

set_option maxHeartbeats 800000 in
theorem cv_bad (base g : Nat) (a : Option Addr) (n c : Nat) (zs : List Int) (p : Nat) (w : World) (h : Cur w base g a n c zs p 0) (f' : Int) (x' p' : Int) (hq : rvAt zs p = (x', p', f')) (hf : f' ≠ 0) :
    Calls Try.prog 34 #[.pointer (some ⟨g, 0, none⟩)] w fun e w' => e = .returned (.int .i64 0) ∧ Cur w' base g a n c zs p f' ∧ w.grownBy w' (some g) := by
  have b1 : Below w.heap.size w (w.alloc (.cells #[.pointer (some ⟨g, 0, none⟩)] 41)) := (Below.refl _ _).alloc (Nat.le_refl _) _
  have hW := h.below b1
  have HU := fun m => vvc_any w.heap.size g n c p a zs ((w.alloc (.cells #[.pointer (some ⟨g, 0, none⟩)] 41)).drewN m) (by simp) hW.cell0 hW.cell1 (hW.row.below (below_drewN (Below.refl _ _) m)) h.reach
  rw [hq] at HU
  simp only [out3] at HU
  have HH : Hid _ := HU
  have c2 := h.cell2
  have fr := h.free 2
  have hlt := h.lt
  have hfb : (f' != 0) = true := by simp [hf]
  have HC : Hid _ := hW
  clear h hf hW HU hq b1
  go_enter Try.func34, Try.ntmps34
  go_wp2_with (first
    | (go_at_call 37; refine (fault_any g 0 _ (by simp [World.cell?_alloc_past, hlt, c2])).mono ?_; rintro e w' ⟨rfl, rfl⟩)
    | (go_at_call 42; refine (HH.out 0).mono ?_; rintro e w' ⟨rfl, m, rfl⟩)
    | go_in)
  go_ret
  exact ⟨rfl, (HC.out.below (below_drewN (Below.refl _ _) m)).setFault f', grown_end ((Below.refl _ _).alloc (Nat.le_refl _) _)⟩

set_option maxHeartbeats 800000 in
theorem cv_good (base g : Nat) (a : Option Addr) (n c : Nat) (zs : List Int) (p : Nat) (w : World) (h : Cur w base g a n c zs p 0) (x' : Int) (p' : Nat) (hq : rvAt zs p = (x', (p' : Int), 0)) (hp' : p' ≤ n) :
    Calls Try.prog 34 #[.pointer (some ⟨g, 0, none⟩)] w fun e w' => e = .returned (.int .i64 x') ∧ Cur w' base g a n c zs p' 0 ∧ w.grownBy w' (some g) := by
  have b1 : Below w.heap.size w (w.alloc (.cells #[.pointer (some ⟨g, 0, none⟩)] 41)) := (Below.refl _ _).alloc (Nat.le_refl _) _
  have hW := h.below b1
  have HU := fun m => vvc_any w.heap.size g n c p a zs ((w.alloc (.cells #[.pointer (some ⟨g, 0, none⟩)] 41)).drewN m) (by simp) hW.cell0 hW.cell1 (hW.row.below (below_drewN (Below.refl _ _) m)) h.reach
  rw [hq] at HU
  simp only [out3] at HU
  have HH : Hid _ := HU
  have c1 := h.cell1
  have c2 := h.cell2
  have fr := h.free 1
  have hlt := h.lt
  have HC : Hid _ := hW
  clear h hW HU hq b1
  go_enter Try.func34, Try.ntmps34
  go_wp2_with (first
    | (go_at_call 37; refine (fault_any g 0 _ (by simp [World.cell?_alloc_past, hlt, c2])).mono ?_; rintro e w' ⟨rfl, rfl⟩)
    | (go_at_call 42; refine (HH.out 0).mono ?_; rintro e w' ⟨rfl, m, rfl⟩)
    | go_in)
  go_ret
  exact ⟨rfl, (HC.out.below (below_drewN (Below.refl _ _) m)).setAt p' hp', grown_end ((Below.refl _ _).alloc (Nat.le_refl _) _)⟩

/-- What taking a number answers, the place and the fault behind it. -/
def nextV (zs : List Int) (p : Nat) (f : Int) : Int × Nat × Int :=
  if f ≠ 0 then (0, p, f) else if (rvAt zs p).2.2 ≠ 0 then (0, p, (rvAt zs p).2.2) else ((rvAt zs p).1, (rvAt zs p).2.1.toNat, 0)

theorem cv_any (base g : Nat) (a : Option Addr) (n c : Nat) (zs : List Int) (p : Nat) (f : Int) (w : World) (h : Cur w base g a n c zs p f) :
    Calls Try.prog 34 #[.pointer (some ⟨g, 0, none⟩)] w fun e w' => e = .returned (.int .i64 (nextV zs p f).1) ∧ Cur w' base g a n c zs (nextV zs p f).2.1 (nextV zs p f).2.2 ∧ w.grownBy w' (some g) := by
  unfold nextV
  by_cases hf : f = 0
  · subst hf
    rw [if_neg (by simp)]
    by_cases he : (rvAt zs p).2.2 = 0
    · rw [if_neg (by simp [he])]
      obtain ⟨k1, k2⟩ := rvAt_place zs p he
      have hl := h.len
      exact cv_good base g a n c zs p w h (rvAt zs p).1 (rvAt zs p).2.1.toNat (by rw [Int.toNat_of_nonneg (by omega)]; rw [← he]) (by omega)
    · rw [if_pos he]
      exact cv_bad base g a n c zs p w h _ _ _ rfl he
  · rw [if_pos hf]
    exact (cv_fault base g a n c zs p f w h hf).mono fun e w' ⟨he, hb⟩ => ⟨he, h.below hb, grown_below hb⟩
end Go.Proofs.Ytdjampgnpiedeaa
