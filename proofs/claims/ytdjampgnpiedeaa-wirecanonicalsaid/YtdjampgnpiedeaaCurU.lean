/-
  The cursor's Uvarint and Varint.
-/
import Derived.Test.YtdjampgnpiedeaaCur
namespace Go.Proofs.Ytdjampgnpiedeaa
open Go.RowKit

/-- The place behind a number that was read. -/
theorem rd_place : ∀ (l : List Int) (p : Int) (k : Nat) (X : Int), (rd l p k X).2.2 = 0 → p < (rd l p k X).2.1 ∧ (rd l p k X).2.1 ≤ p + l.length
  | [], p, k, X => by simp [rd]
  | c :: r, p, k, X => by
    rw [rd]
    split
    · simp
    · split
      · intro h
        have := rd_place r (p + 1) (k + 1) _ h
        simp only [List.length_cons]
        omega
      · split
        · simp
        · intro _; simp only [List.length_cons]; omega
theorem rdAt_place (zs : List Int) (t : Nat) (h : (rdAt zs t).2.2 = 0) : (t : Int) < (rdAt zs t).2.1 ∧ (rdAt zs t).2.1 ≤ zs.length := by
  unfold rdAt at h ⊢
  split at h
  · simp at h
  · rw [if_neg (by assumption)]
    have := rd_place _ _ _ _ h
    simp only [List.length_drop, Int.toNat_natCast] at this ⊢
    omega

theorem grown_end {w W : World} {g j m : Nat} {u : Value} (hb : Below w.heap.size w W) : w.grownBy ((W.drewN m).setCell ⟨g, j, none⟩ u) (some g) := by
  have hs : (((W.drewN m).setCell ⟨g, j, none⟩ u)).heap.size = W.heap.size := by simp [World.setCell]
  refine ⟨hb.os, hb.tape, hb.output, by rw [hs]; exact hb.size, fun k hk hne => ?_⟩
  rw [heap_setCell_other _ _ _ _ (fun e => hne (by simp [e]))]
  exact hb.block k hk
theorem grown_below {w W : World} {r : Option Nat} (hb : Below w.heap.size w W) : w.grownBy W r := ⟨hb.os, hb.tape, hb.output, hb.size, fun k hk _ => hb.block k hk⟩

set_option maxHeartbeats 400000 in
theorem cu_fault (base g : Nat) (a : Option Addr) (n c : Nat) (zs : List Int) (p : Nat) (f : Int) (w : World) (h : Cur w base g a n c zs p f) (hf : f ≠ 0) :
    Calls Try.prog 35 #[.pointer (some ⟨g, 0, none⟩)] w fun e w' => e = .returned (.int .u64 0) ∧ Below w.heap.size w w' := by
  have c2 := h.cell2
  have hlt := h.lt
  have hfb : (f != 0) = true := by simp [hf]
  clear h hf
  go_enter Try.func35, Try.ntmps35
  go_wp2_with (first
    | (go_at_call 37; refine (fault_any g f _ (by simp [World.cell?_alloc_past, hlt, c2])).mono ?_; rintro e w' ⟨rfl, rfl⟩)
    | go_in)
  go_ret
  exact ⟨rfl, (Below.refl _ _).alloc (Nat.le_refl _) _⟩

set_option maxHeartbeats 800000 in
theorem cu_bad (base g : Nat) (a : Option Addr) (n c : Nat) (zs : List Int) (p : Nat) (w : World) (h : Cur w base g a n c zs p 0) (f' : Int) (x' p' : Int) (hq : rdAt zs p = (x', p', f')) (hf : f' ≠ 0) :
    Calls Try.prog 35 #[.pointer (some ⟨g, 0, none⟩)] w fun e w' => e = .returned (.int .u64 0) ∧ Cur w' base g a n c zs p f' ∧ w.grownBy w' (some g) := by
  have b1 : Below w.heap.size w (w.alloc (.cells #[.pointer (some ⟨g, 0, none⟩)] 41)) := (Below.refl _ _).alloc (Nat.le_refl _) _
  have hW := h.below b1
  have HU := fun m => uvc_any w.heap.size g n c p a zs ((w.alloc (.cells #[.pointer (some ⟨g, 0, none⟩)] 41)).drewN m) (by simp) hW.cell0 hW.cell1 (hW.row.below (below_drewN (Below.refl _ _) m)) h.reach
  rw [hq] at HU
  simp only [out3] at HU
  have HH : Hid _ := HU
  have c2 := h.cell2
  have fr := h.free 2
  have hlt := h.lt
  have hfb : (f' != 0) = true := by simp [hf]
  have HC : Hid _ := hW
  clear h hf hW HU hq b1
  go_enter Try.func35, Try.ntmps35
  go_wp2_with (first
    | (go_at_call 37; refine (fault_any g 0 _ (by simp [World.cell?_alloc_past, hlt, c2])).mono ?_; rintro e w' ⟨rfl, rfl⟩)
    | (go_at_call 44; refine (HH.out 0).mono ?_; rintro e w' ⟨rfl, m, rfl⟩)
    | go_in)
  go_ret
  exact ⟨rfl, (HC.out.below (below_drewN (Below.refl _ _) m)).setFault f', grown_end ((Below.refl _ _).alloc (Nat.le_refl _) _)⟩

set_option maxHeartbeats 800000 in
theorem cu_good (base g : Nat) (a : Option Addr) (n c : Nat) (zs : List Int) (p : Nat) (w : World) (h : Cur w base g a n c zs p 0) (x' : Int) (p' : Nat) (hq : rdAt zs p = (x', (p' : Int), 0)) (hp' : p' ≤ n) :
    Calls Try.prog 35 #[.pointer (some ⟨g, 0, none⟩)] w fun e w' => e = .returned (.int .u64 x') ∧ Cur w' base g a n c zs p' 0 ∧ w.grownBy w' (some g) := by
  have b1 : Below w.heap.size w (w.alloc (.cells #[.pointer (some ⟨g, 0, none⟩)] 41)) := (Below.refl _ _).alloc (Nat.le_refl _) _
  have hW := h.below b1
  have HU := fun m => uvc_any w.heap.size g n c p a zs ((w.alloc (.cells #[.pointer (some ⟨g, 0, none⟩)] 41)).drewN m) (by simp) hW.cell0 hW.cell1 (hW.row.below (below_drewN (Below.refl _ _) m)) h.reach
  rw [hq] at HU
  simp only [out3] at HU
  have HH : Hid _ := HU
  have c1 := h.cell1
  have c2 := h.cell2
  have fr := h.free 1
  have hlt := h.lt
  have HC : Hid _ := hW
  clear h hW HU hq b1
  go_enter Try.func35, Try.ntmps35
  go_wp2_with (first
    | (go_at_call 37; refine (fault_any g 0 _ (by simp [World.cell?_alloc_past, hlt, c2])).mono ?_; rintro e w' ⟨rfl, rfl⟩)
    | (go_at_call 44; refine (HH.out 0).mono ?_; rintro e w' ⟨rfl, m, rfl⟩)
    | go_in)
  go_ret
  exact ⟨rfl, (HC.out.below (below_drewN (Below.refl _ _) m)).setAt p' hp', grown_end ((Below.refl _ _).alloc (Nat.le_refl _) _)⟩

/-- What taking a number answers, the place and the fault behind it. -/
def nextU (zs : List Int) (p : Nat) (f : Int) : Int × Nat × Int :=
  if f ≠ 0 then (0, p, f) else if (rdAt zs p).2.2 ≠ 0 then (0, p, (rdAt zs p).2.2) else ((rdAt zs p).1, (rdAt zs p).2.1.toNat, 0)

theorem cu_any (base g : Nat) (a : Option Addr) (n c : Nat) (zs : List Int) (p : Nat) (f : Int) (w : World) (h : Cur w base g a n c zs p f) :
    Calls Try.prog 35 #[.pointer (some ⟨g, 0, none⟩)] w fun e w' => e = .returned (.int .u64 (nextU zs p f).1) ∧ Cur w' base g a n c zs (nextU zs p f).2.1 (nextU zs p f).2.2 ∧ w.grownBy w' (some g) := by
  unfold nextU
  by_cases hf : f = 0
  · subst hf
    rw [if_neg (by simp)]
    by_cases he : (rdAt zs p).2.2 = 0
    · rw [if_neg (by simp [he])]
      obtain ⟨k1, k2⟩ := rdAt_place zs p he
      have hl := h.len
      exact cu_good base g a n c zs p w h (rdAt zs p).1 (rdAt zs p).2.1.toNat (by rw [Int.toNat_of_nonneg (by omega)]; rw [← he]) (by omega)
    · rw [if_pos he]
      exact cu_bad base g a n c zs p w h _ _ _ rfl he
  · rw [if_pos hf]
    exact (cu_fault base g a n c zs p f w h hf).mono fun e w' ⟨he, hb⟩ => ⟨he, h.below hb, grown_below hb⟩
end Go.Proofs.Ytdjampgnpiedeaa
