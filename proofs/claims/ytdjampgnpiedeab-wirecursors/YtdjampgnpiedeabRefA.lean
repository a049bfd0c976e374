/-
  The document's cursor: New, Byte, Uvarint, Varint and what only asks.
-/
import Derived.Test.YtdjampgnpiedeabCurU
namespace Go.Proofs.Ytdjampgnpiedeab
open Go.RowKit

theorem rfault_any (g : Nat) (f : Int) (w : World) (h2 : w.cell? ⟨g, 2, none⟩ = some (.int .i64 f)) :
    Calls Try.prog 22 #[.pointer (some ⟨g, 0, none⟩)] w fun e w' => e = .returned (.int .i64 f) ∧ w' = w := by
  go_enter Try.func22, Try.ntmps22
  go_wp2
  go_ret
  exact ⟨rfl, rfl⟩
theorem rat_any (g p : Nat) (w : World) (h1 : w.cell? ⟨g, 1, none⟩ = some (.int .i64 p)) :
    Calls Try.prog 20 #[.pointer (some ⟨g, 0, none⟩)] w fun e w' => e = .returned (.int .i64 p) ∧ w' = w := by
  go_enter Try.func20, Try.ntmps20
  go_wp2
  go_ret
  exact ⟨rfl, rfl⟩
theorem rleft_any (g n c p : Nat) (a : Option Addr) (w : World) (h0 : w.cell? ⟨g, 0, none⟩ = some (.slice a n c)) (h1 : w.cell? ⟨g, 1, none⟩ = some (.int .i64 p)) (hp : p ≤ n) (hn : n ≤ 140737488355328) :
    Calls Try.prog 18 #[.pointer (some ⟨g, 0, none⟩)] w fun e w' => e = .returned (.int .i64 ((n : Int) - p)) ∧ ∃ m, w' = w.drewN m := by
  go_enter Try.func18, Try.ntmps18
  go_wp2
  go_quiet (fail)
  go_wp2
  go_ret
  exact ⟨rfl, _, rfl⟩

theorem grown_drewN {w W : World} {r : Option Nat} (h : w.grownBy W r) (k : Nat) : w.grownBy (W.drewN k) r := ⟨h.os, h.tape, h.output, h.size, h.block⟩
/-- What taking a byte answers. -/
def nextB (zs : List Int) (p : Nat) (f : Int) : Int × Nat × Int :=
  if f ≠ 0 then (0, p, f) else if zs.length ≤ p then (0, p, 10) else (zs.getD p 0, p + 1, 0)

set_option maxHeartbeats 400000 in
theorem rb_fault (g : Nat) (f : Int) (w : World) (c2 : w.cell? ⟨g, 2, none⟩ = some (.int .i64 f)) (hf : f ≠ 0) :
    Calls Try.prog 10 #[.pointer (some ⟨g, 0, none⟩)] w fun e w' => e = .returned (.int .u8 0) ∧ w' = w := by
  have hfb : (f != 0) = true := by simp [hf]
  clear hf
  go_enter Try.func10, Try.ntmps10
  go_wp2
  go_ret
  exact ⟨rfl, rfl⟩
set_option maxHeartbeats 400000 in
theorem rb_end (g n c : Nat) (a : Option Addr) (w : World) (c0 : w.cell? ⟨g, 0, none⟩ = some (.slice a n c)) (c1 : w.cell? ⟨g, 1, none⟩ = some (.int .i64 n)) (c2 : w.cell? ⟨g, 2, none⟩ = some (.int .i64 0)) (fr : w.frozen? ⟨g, 2, none⟩ = false) :
    Calls Try.prog 10 #[.pointer (some ⟨g, 0, none⟩)] w fun e w' => e = .returned (.int .u8 0) ∧ ∃ m, w' = (w.drewN m).setCell ⟨g, 2, none⟩ (.int .i64 10) := by
  go_enter Try.func10, Try.ntmps10
  go_wp2
  go_quiet (fail)
  go_wp2
  go_ret
  exact ⟨rfl, _, rfl⟩
set_option maxHeartbeats 800000 in
theorem rb_some (g b n c p : Nat) (z : Int) (w : World) (c0 : w.cell? ⟨g, 0, none⟩ = some (.slice (some ⟨b, 0, none⟩) n c)) (c1 : w.cell? ⟨g, 1, none⟩ = some (.int .i64 p)) (c2 : w.cell? ⟨g, 2, none⟩ = some (.int .i64 0)) (fr : w.frozen? ⟨g, 1, none⟩ = false) (hbg : b ≠ g)
    (hz : w.cell? ⟨b, p, none⟩ = some (.int .u8 z)) (hp : p < n) (hn : n ≤ 140737488355328) :
    Calls Try.prog 10 #[.pointer (some ⟨g, 0, none⟩)] w fun e w' => e = .returned (.int .u8 z) ∧ ∃ m k, w' = ((w.drewN m).setCell ⟨g, 1, none⟩ (.int .i64 ((p + 1 : Nat) : Int))).drewN k := by
  have hne : ((p : Int) == (n : Int)) = false := by simp; omega
  have e1 : ((p : Int) + 1 - 1) = (p : Int) := by omega
  have hpI : (p : Int) < (n : Int) := by omega
  have hz' : ∀ m v, ((w.drewN m).setCell ⟨g, 1, none⟩ v).cell? ⟨b, p, none⟩ = some (.int .u8 z) := fun m v => by
    have := World.cell?_setCell_other (w := w.drewN m) (a := ⟨g, 1, none⟩) (b := ⟨b, p, none⟩) (v := v) (by intro e; cases e; exact hbg rfl)
    rw [this]; exact hz
  go_enter Try.func10, Try.ntmps10
  go_wp2
  go_quiet (fail)
  go_wp2
  go_quiet (fail)
  go_wp2
  go_ret
  exact ⟨rfl, _, _, rfl⟩

/-- The document's Byte. -/
theorem rb_any (base g : Nat) (a : Option Addr) (n c : Nat) (zs : List Int) (p : Nat) (f : Int) (w : World) (h : Cur 38 w base g a n c zs p f) :
    Calls Try.prog 10 #[.pointer (some ⟨g, 0, none⟩)] w fun e w' => e = .returned (.int .u8 (nextB zs p f).1) ∧ Cur 38 w' base g a n c zs (nextB zs p f).2.1 (nextB zs p f).2.2 ∧ w.grownBy w' (some g) := by
  have hl := h.len
  have hle := h.le
  unfold nextB
  by_cases hf : f = 0
  · subst hf
    rw [if_neg (by simp)]
    by_cases he : zs.length ≤ p
    · rw [if_pos he]
      obtain rfl : p = n := by omega
      exact (rb_end g p c a w h.cell0 h.cell1 h.cell2 (h.free 2)).mono fun e w' ⟨he, m, hw⟩ => by
        subst hw
        exact ⟨he, (h.below (below_drewN (Below.refl _ _) m)).setFault 10, grown_end (Below.refl _ _)⟩
    · rw [if_neg he]
      have hr := h.row
      obtain ⟨b', off', ha, hc⟩ := hr.cells.resolve_left (by omega)
      rcases h.own.2 with ⟨hv, hn0⟩ | ⟨b, cap, cur, hv, hb, hg, _⟩
      · omega
      · cases hv
        cases ha
        have hbg : b' ≠ g := fun e => h.apart (by simp [Value.ownBlock, e])
        have hz := hc p (by omega)
        rw [Nat.zero_add] at hz
        exact (rb_some g b' n c p _ w h.cell0 h.cell1 h.cell2 (h.free 1) hbg hz (by omega) h.reach).mono fun e w' ⟨he, m, k, hw⟩ => by
          subst hw
          exact ⟨he, ((h.below (below_drewN (Below.refl _ _) m)).setAt (p + 1) (by omega)).below (below_drewN (Below.refl _ _) k), grown_drewN (grown_end (Below.refl _ _)) k⟩
  · rw [if_pos hf]
    exact (rb_fault g f w h.cell2 hf).mono fun e w' ⟨he, hw⟩ => by
      subst hw
      exact ⟨he, h, World.grownBy.refl _ _⟩

set_option maxHeartbeats 400000 in
theorem rcu_fault (g : Nat) (f : Int) (w : World) (c2 : w.cell? ⟨g, 2, none⟩ = some (.int .i64 f)) (hf : f ≠ 0) :
    Calls Try.prog 12 #[.pointer (some ⟨g, 0, none⟩)] w fun e w' => e = .returned (.int .u64 0) ∧ w' = w := by
  have hfb : (f != 0) = true := by simp [hf]
  clear hf
  go_enter Try.func12, Try.ntmps12
  go_wp2
  go_ret
  exact ⟨rfl, rfl⟩
set_option maxHeartbeats 800000 in
theorem rcu_bad (g n c p : Nat) (a : Option Addr) (zs : List Int) (w : World) (c0 : w.cell? ⟨g, 0, none⟩ = some (.slice a n c)) (c1 : w.cell? ⟨g, 1, none⟩ = some (.int .i64 p)) (c2 : w.cell? ⟨g, 2, none⟩ = some (.int .i64 0)) (fr : w.frozen? ⟨g, 2, none⟩ = false) (hr : Row w a n zs) (hn : n ≤ 140737488355328)
    (x' p' f' : Int) (hq : rdAt zs p = (x', p', f')) (hf : f' ≠ 0) :
    Calls Try.prog 12 #[.pointer (some ⟨g, 0, none⟩)] w fun e w' => e = .returned (.int .u64 0) ∧ ∃ m, w' = (w.drewN m).setCell ⟨g, 2, none⟩ (.int .i64 f') := by
  have hrd := fun m => rru_any a n c p zs (w.drewN m) (hr.below (below_drewN (Below.refl _ _) m)) (by omega)
  rw [hq] at hrd
  simp only [out3] at hrd
  have HR : Hid _ := hrd
  have hfb : (f' != 0) = true := by simp [hf]
  clear hrd hr hq hf
  go_enter Try.func12, Try.ntmps12
  go_wp2
  go_quiet ((go_at_call 28; exact Calls.quiet_of_same (HR.out _)))
  go_wp2
  go_ret
  exact ⟨rfl, _, rfl⟩
set_option maxHeartbeats 800000 in
theorem rcu_good (g n c p : Nat) (a : Option Addr) (zs : List Int) (w : World) (c0 : w.cell? ⟨g, 0, none⟩ = some (.slice a n c)) (c1 : w.cell? ⟨g, 1, none⟩ = some (.int .i64 p)) (c2 : w.cell? ⟨g, 2, none⟩ = some (.int .i64 0)) (fr : w.frozen? ⟨g, 1, none⟩ = false) (hr : Row w a n zs) (hn : n ≤ 140737488355328)
    (x' : Int) (p' : Nat) (hq : rdAt zs p = (x', (p' : Int), 0)) :
    Calls Try.prog 12 #[.pointer (some ⟨g, 0, none⟩)] w fun e w' => e = .returned (.int .u64 x') ∧ ∃ m, w' = (w.drewN m).setCell ⟨g, 1, none⟩ (.int .i64 (p' : Int)) := by
  have hrd := fun m => rru_any a n c p zs (w.drewN m) (hr.below (below_drewN (Below.refl _ _) m)) (by omega)
  rw [hq] at hrd
  simp only [out3] at hrd
  have HR : Hid _ := hrd
  clear hrd hr hq
  go_enter Try.func12, Try.ntmps12
  go_wp2
  go_quiet ((go_at_call 28; exact Calls.quiet_of_same (HR.out _)))
  go_wp2
  go_ret
  exact ⟨rfl, _, rfl⟩
/-- The document's Uvarint of a cursor. -/
theorem rcu_any (base g : Nat) (a : Option Addr) (n c : Nat) (zs : List Int) (p : Nat) (f : Int) (w : World) (h : Cur 38 w base g a n c zs p f) :
    Calls Try.prog 12 #[.pointer (some ⟨g, 0, none⟩)] w fun e w' => e = .returned (.int .u64 (nextU zs p f).1) ∧ Cur 38 w' base g a n c zs (nextU zs p f).2.1 (nextU zs p f).2.2 ∧ w.grownBy w' (some g) := by
  unfold nextU
  by_cases hf : f = 0
  · subst hf
    rw [if_neg (by simp)]
    by_cases he : (rdAt zs p).2.2 = 0
    · rw [if_neg (by simp [he])]
      obtain ⟨k1, k2⟩ := rdAt_place zs p he
      have hl := h.len
      exact (rcu_good g n c p a zs w h.cell0 h.cell1 h.cell2 (h.free 1) h.row h.reach (rdAt zs p).1 (rdAt zs p).2.1.toNat (by rw [Int.toNat_of_nonneg (by omega)]; rw [← he])).mono fun e w' ⟨he, m, hw⟩ => by
        subst hw
        exact ⟨he, (h.below (below_drewN (Below.refl _ _) m)).setAt _ (by omega), grown_end (Below.refl _ _)⟩
    · rw [if_pos he]
      exact (rcu_bad g n c p a zs w h.cell0 h.cell1 h.cell2 (h.free 2) h.row h.reach _ _ _ rfl he).mono fun e w' ⟨he, m, hw⟩ => by
        subst hw
        exact ⟨he, (h.below (below_drewN (Below.refl _ _) m)).setFault _, grown_end (Below.refl _ _)⟩
  · rw [if_pos hf]
    exact (rcu_fault g f w h.cell2 hf).mono fun e w' ⟨he, hw⟩ => by
      subst hw
      exact ⟨he, h, World.grownBy.refl _ _⟩
end Go.Proofs.Ytdjampgnpiedeab
