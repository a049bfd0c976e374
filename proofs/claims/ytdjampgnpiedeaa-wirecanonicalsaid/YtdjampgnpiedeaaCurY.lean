/-
  The cursor's Bytes.
-/
import Derived.Test.YtdjampgnpiedeaaCurZ
namespace Go.Proofs.Ytdjampgnpiedeaa
open Go.RowKit

theorem hide {p : Prop} (h : p) : Hid p := h
theorem own_mono {w : World} {base base' : Nat} {e : TypeId} {size : Nat} {v : Value} {n : Nat} {xs : List Value} (h : w.ownsRow base e size v n xs) (hb : base' ≤ base) : w.ownsRow base' e size v n xs :=
  ⟨h.1, h.2.imp id fun ⟨g, cap, cur, hv, hg, r⟩ => ⟨g, cap, cur, hv, Nat.le_trans hb hg, r⟩⟩
/-- The two boxes that a call of Bytes lays first. -/
def boxed (w : World) (g : Nat) (k : Int) : World := (w.alloc (.cells #[.pointer (some ⟨g, 0, none⟩)] 41)).alloc (.cells #[.int .i64 k] 3)
theorem boxed_below (w : World) (g : Nat) (k : Int) : Below w.heap.size w (boxed w g k) := ((Below.refl _ _).alloc (Nat.le_refl _) _).alloc (by simp) _
theorem boxed_size (w : World) (g : Nat) (k : Int) : (boxed w g k).heap.size = w.heap.size + 2 := by simp [boxed]
theorem boxed_n (w : World) (g : Nat) (k : Int) : (boxed w g k).cell? ⟨w.heap.size + 1, 0, none⟩ = some (.int .i64 k) := by
  unfold boxed; rw [World.cell?_alloc_at _ _ _ _ (by simp)]; rfl
theorem boxed_x (w : World) (g : Nat) (k : Int) : (boxed w g k).cell? ⟨w.heap.size, 0, none⟩ = some (.pointer (some ⟨g, 0, none⟩)) := by
  unfold boxed; rw [World.cell?_alloc_past _ _ _ (by simp), World.cell?_alloc_at _ _ _ _ rfl]; rfl

set_option maxHeartbeats 800000 in
theorem cb_bad (base g : Nat) (a : Option Addr) (n c : Nat) (zs : List Int) (p : Nat) (k : Int) (w : World) (h : Cur w base g a n c zs p 0) (hb : k < 0 ∨ (n : Int) - p < k) :
    Calls Try.prog 31 #[.pointer (some ⟨g, 0, none⟩), .int .i64 k] w fun e w' => e = .returned (.slice none 0 0) ∧ Cur w' base g a n c zs p 13 ∧ w.grownBy w' (some g) := by
  have hW := h.below (boxed_below w g k)
  have HH0 := bc_bad (w.heap.size + 1) w.heap.size g n c p k a (boxed w g k) (boxed_n w g k) (boxed_x w g k) hW.cell0 hW.cell1 h.le h.reach hb
  have HH := hide HH0
  clear HH0
  have HB : Hid _ := boxed_below w g k
  have c2 := h.cell2
  have fr := h.free 2
  have hlt := h.lt
  have HC : Hid _ := hW
  clear h hW hb
  unfold boxed at HH HB HC
  go_enter Try.func31, Try.ntmps31
  go_wp2_with (first
    | (go_at_call 37; refine (fault_any g 0 _ (by simp [World.cell?_alloc_past, hlt, c2, Nat.lt_succ_of_lt])).mono ?_; rintro e w' ⟨rfl, rfl⟩)
    | (go_at_call 40; refine HH.out.mono ?_; rintro e w' ⟨rfl, m, rfl⟩)
    | go_in)
  go_ret
  exact ⟨rfl, (HC.out.below (below_drewN (Below.refl _ _) m)).setFault 13, grown_end HB.out⟩

set_option maxHeartbeats 800000 in
theorem cb_good (base g : Nat) (a : Option Addr) (n c : Nat) (zs : List Int) (p k : Nat) (w : World) (h : Cur w base g a n c zs p 0) (hpk : p + k ≤ n) (hk47 : k ≤ 140737488355328) :
    Calls Try.prog 31 #[.pointer (some ⟨g, 0, none⟩), .int .i64 k] w fun e w' => ∃ v, e = .returned v ∧ w'.ownsRow w.heap.size 5 1 v k (((zs.drop p).take k).map (Value.int .u8)) ∧ Cur w' base g a n c zs (p + k) 0 ∧ w.grownBy w' (some g) := by
  have hW := h.below (boxed_below w g k)
  have HH0 := bc_any (w.heap.size + 1) w.heap.size base g a n c p k 0 zs (boxed w g k) hW (boxed_n w g k) (boxed_x w g k) hpk hk47
  have HH := hide HH0
  clear HH0
  have HB : Hid _ := boxed_below w g k
  have HS : Hid _ := boxed_size w g k
  have c2 := h.cell2
  have hlt := h.lt
  have HC : Hid _ := hW
  clear h hW
  unfold boxed at HH HB HC HS
  go_enter Try.func31, Try.ntmps31
  go_wp2_with (first
    | (go_at_call 37; refine (fault_any g 0 _ (by simp [World.cell?_alloc_past, hlt, c2, Nat.lt_succ_of_lt])).mono ?_; rintro e w' ⟨rfl, rfl⟩)
    | (go_at_call 40; refine HH.out.mono ?_; rintro e w1 ⟨v, rfl, hown, hb1⟩; have HC1 := HC.out.below hb1; have k1 := HC1.cell1; have k2 := HC1.free 1)
    | go_in)
  go_ret
  have hg : g < w.heap.size := hlt
  refine ⟨v, rfl, ?_, ?_, ?_⟩
  · refine ownsRow_setCell_other (own_mono hown (by rw [HS.out]; omega)) (fun e => ?_) _
    have := (hown.lt g e).1
    rw [HS.out] at this
    omega
  · exact (HC.out.below hb1).setAt (p + k) hpk
  · have hb := HB.out.trans (hb1.mono (by rw [HS.out]; omega))
    exact grown_end (m := 0) hb
end Go.Proofs.Ytdjampgnpiedeaa
