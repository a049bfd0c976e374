/-
  The program's Byte.
-/
import Derived.Test.YtdjampgnpiedeabRefA
import Derived.Test.YtdjampgnpiedeabCurY
namespace Go.Proofs.Ytdjampgnpiedeab
open Go.RowKit

set_option maxHeartbeats 400000 in
theorem yc_end (bx g n c : Nat) (a : Option Addr) (w : World) (hx : w.cell? ⟨bx, 0, none⟩ = some (.pointer (some ⟨g, 0, none⟩))) (h0 : w.cell? ⟨g, 0, none⟩ = some (.slice a n c)) (h1 : w.cell? ⟨g, 1, none⟩ = some (.int .i64 n)) (hn : n ≤ 140737488355328) :
    Calls Try.prog 24 #[.pointer (some ⟨bx, 0, none⟩)] w fun e w' => e = .returned (.tuple #[.int .u8 0, .int .i64 0, .int .i64 10]) ∧ ∃ m, w' = w.drewN m := by
  have HL := left_any g n c n a w h0 h1 (Nat.le_refl _) hn
  rw [Int.sub_self] at HL
  have HH := hide HL
  clear HL
  go_enter Try.func24, Try.ntmps24
  go_wp2_with fail
  refine HH.out.mono ?_
  rintro e w1 ⟨rfl, m, rfl⟩
  go_wp2
  go_ret3
  exact ⟨rfl, _, rfl⟩
set_option maxHeartbeats 800000 in
theorem yc_some (bx g b n c p : Nat) (z : Int) (w : World) (hx : w.cell? ⟨bx, 0, none⟩ = some (.pointer (some ⟨g, 0, none⟩))) (h0 : w.cell? ⟨g, 0, none⟩ = some (.slice (some ⟨b, 0, none⟩) n c)) (h1 : w.cell? ⟨g, 1, none⟩ = some (.int .i64 p)) (hn : n ≤ 140737488355328) (hp : p < n)
    (hz : w.cell? ⟨b, p, none⟩ = some (.int .u8 z)) :
    Calls Try.prog 24 #[.pointer (some ⟨bx, 0, none⟩)] w fun e w' => e = .returned (.tuple #[.int .u8 z, .int .i64 ((p + 1 : Nat) : Int), .int .i64 0]) ∧ ∃ m, w' = w.drewN m := by
  have HL := left_any g n c p (some ⟨b, 0, none⟩) w h0 h1 (by omega) hn
  have HH := hide HL
  clear HL
  have hne : ((n : Int) - (p : Int) == 0) = false := by simp; omega
  have hpI : (p : Int) < (n : Int) := by omega
  go_enter Try.func24, Try.ntmps24
  go_wp2_with fail
  refine HH.out.mono ?_
  rintro e w1 ⟨rfl, m, rfl⟩
  go_wp2
  go_quiet (fail)
  go_wp2
  go_ret3
  exact ⟨rfl, _, World.drewN_drewN _ _ _⟩

set_option maxHeartbeats 400000 in
theorem cy_fault (g : Nat) (f : Int) (w : World) (c2 : w.cell? ⟨g, 2, none⟩ = some (.int .i64 f)) (hlt : g < w.heap.size) (hf : f ≠ 0) :
    Calls Try.prog 9 #[.pointer (some ⟨g, 0, none⟩)] w fun e w' => e = .returned (.int .u8 0) ∧ Below w.heap.size w w' := by
  have hfb : (f != 0) = true := by simp [hf]
  clear hf
  go_enter Try.func9, Try.ntmps9
  go_wp2_with (first
    | (go_at_call 21; refine (fault_any g f _ (by simp [World.cell?_alloc_past, hlt, c2])).mono ?_; rintro e w' ⟨rfl, rfl⟩)
    | go_in)
  go_ret
  exact ⟨rfl, (Below.refl _ _).alloc (Nat.le_refl _) _⟩
set_option maxHeartbeats 800000 in
theorem cy_end (base g : Nat) (a : Option Addr) (n c : Nat) (zs : List Int) (w : World) (h : Cur 36 w base g a n c zs n 0) :
    Calls Try.prog 9 #[.pointer (some ⟨g, 0, none⟩)] w fun e w' => e = .returned (.int .u8 0) ∧ Cur 36 w' base g a n c zs n 10 ∧ w.grownBy w' (some g) := by
  have b1 : Below w.heap.size w (w.alloc (.cells #[.pointer (some ⟨g, 0, none⟩)] 24)) := (Below.refl _ _).alloc (Nat.le_refl _) _
  have hW := h.below b1
  have HH := hide (yc_end w.heap.size g n c a (w.alloc (.cells #[.pointer (some ⟨g, 0, none⟩)] 24)) (by simp) hW.cell0 hW.cell1 h.reach)
  have c2 := h.cell2
  have fr := h.free 2
  have hlt := h.lt
  have HC := hide hW
  clear h hW b1
  go_enter Try.func9, Try.ntmps9
  go_wp2_with (first
    | (go_at_call 21; refine (fault_any g 0 _ (by simp [World.cell?_alloc_past, hlt, c2])).mono ?_; rintro e w' ⟨rfl, rfl⟩)
    | (go_at_call 24; refine HH.out.mono ?_; rintro e w' ⟨rfl, m, rfl⟩)
    | go_in)
  go_ret
  exact ⟨rfl, (HC.out.below (below_drewN (Below.refl _ _) m)).setFault 10, grown_end ((Below.refl _ _).alloc (Nat.le_refl _) _)⟩
set_option maxHeartbeats 800000 in
theorem cy_some (base g b : Nat) (n c : Nat) (zs : List Int) (p : Nat) (w : World) (h : Cur 36 w base g (some ⟨b, 0, none⟩) n c zs p 0) (hp : p < n) (hz : w.cell? ⟨b, p, none⟩ = some (.int .u8 (zs.getD p 0))) :
    Calls Try.prog 9 #[.pointer (some ⟨g, 0, none⟩)] w fun e w' => e = .returned (.int .u8 (zs.getD p 0)) ∧ Cur 36 w' base g (some ⟨b, 0, none⟩) n c zs (p + 1) 0 ∧ w.grownBy w' (some g) := by
  have b1 : Below w.heap.size w (w.alloc (.cells #[.pointer (some ⟨g, 0, none⟩)] 24)) := (Below.refl _ _).alloc (Nat.le_refl _) _
  have hW := h.below b1
  have hblt := World.block_lt_of_cell? w _ hz
  have HH := hide (yc_some w.heap.size g b n c p (zs.getD p 0) (w.alloc (.cells #[.pointer (some ⟨g, 0, none⟩)] 24)) (by simp) hW.cell0 hW.cell1 h.reach hp ((b1.cell (p := ⟨b, p, none⟩) hblt).trans hz))
  have c1 := h.cell1
  have c2 := h.cell2
  have fr := h.free 1
  have hlt := h.lt
  have HC := hide hW
  generalize zs.getD p 0 = z at HH
  clear h hW b1 hz
  go_enter Try.func9, Try.ntmps9
  go_wp2_with (first
    | (go_at_call 21; refine (fault_any g 0 _ (by simp [World.cell?_alloc_past, hlt, c2])).mono ?_; rintro e w' ⟨rfl, rfl⟩)
    | (go_at_call 24; refine HH.out.mono ?_; rintro e w' ⟨rfl, m, rfl⟩)
    | go_in)
  go_ret
  exact ⟨rfl, (HC.out.below (below_drewN (Below.refl _ _) m)).setAt (p + 1) (by omega), grown_end ((Below.refl _ _).alloc (Nat.le_refl _) _)⟩
/-- The program's Byte. -/
theorem cy_any (base g : Nat) (a : Option Addr) (n c : Nat) (zs : List Int) (p : Nat) (f : Int) (w : World) (h : Cur 36 w base g a n c zs p f) :
    Calls Try.prog 9 #[.pointer (some ⟨g, 0, none⟩)] w fun e w' => e = .returned (.int .u8 (nextB zs p f).1) ∧ Cur 36 w' base g a n c zs (nextB zs p f).2.1 (nextB zs p f).2.2 ∧ w.grownBy w' (some g) := by
  have hl := h.len
  have hle := h.le
  unfold nextB
  by_cases hf : f = 0
  · subst hf
    rw [if_neg (by simp)]
    by_cases he : zs.length ≤ p
    · rw [if_pos he]
      obtain rfl : p = n := by omega
      exact cy_end base g a p c zs w h
    · rw [if_neg he]
      have hr := h.row
      obtain ⟨b', off', ha, hc⟩ := hr.cells.resolve_left (by omega)
      rcases h.own.2 with ⟨hv, hn0⟩ | ⟨b, cap, cur, hv, hb, hg, _⟩
      · omega
      · cases hv
        cases ha
        have hz := hc p (by omega)
        rw [Nat.zero_add] at hz
        exact cy_some base g b' n c zs p w h (by omega) hz
  · rw [if_pos hf]
    exact (cy_fault g f w h.cell2 h.lt hf).mono fun e w' ⟨he, hb⟩ => ⟨he, h.below hb, grown_below hb⟩
end Go.Proofs.Ytdjampgnpiedeab
