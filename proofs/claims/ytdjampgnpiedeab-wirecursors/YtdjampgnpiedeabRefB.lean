/-
  The document's cursor: New, Varint, Bytes.
-/
import Derived.Test.YtdjampgnpiedeabRefA
import Derived.Test.YtdjampgnpiedeabCurV
import Derived.Test.YtdjampgnpiedeabCurN
import Derived.Deep.RegionLawGrows
namespace Go.Proofs.Ytdjampgnpiedeab
open Go.RowKit

/-- What a call of the document's New leaves. -/
def MadeR (w w' : World) (n : Nat) (zs : List Int) (e : Ending) : Prop :=
  ∃ g a c, e = .returned (.pointer (some ⟨g, 0, none⟩)) ∧ Cur 38 w' w.heap.size g a n c zs 0 0 ∧ w.heap.size ≤ g ∧ Below w.heap.size w w'

theorem madeR_end {w w1 : World} {n : Nat} {zs : List Int} {a' : Option Addr} {c' : Nat} (hu : ∀ i : Nat, 0 ≤ zs[i]?.getD 0 ∧ zs[i]?.getD 0 ≤ 255) (hn : n ≤ 140737488355328)
    (hown : w1.ownsRow w.heap.size 5 1 (.slice a' n c') n (zs.map (Value.int .u8))) (hgrow : (w.alloc (.cells #[.slice none 0 0, .int .i64 0, .int .i64 0] 38)).grownBy w1 none) :
    Cur 38 (w1.setCell ⟨w.heap.size, 0, none⟩ (.slice a' n c')) w.heap.size w.heap.size a' n c' zs 0 0 ∧ Below w.heap.size w (w1.setCell ⟨w.heap.size, 0, none⟩ (.slice a' n c')) := by
  have hb : w1.heap[w.heap.size]? = some (.cells #[.slice none 0 0, .int .i64 0, .int .i64 0] 38 (0, 0)) := by
    rw [hgrow.block w.heap.size (by simp) (by simp)]; exact heap_alloc_new w _
  have hap : (Value.slice a' n c').ownBlock ≠ some w.heap.size := by
    intro e
    rcases hown.2 with ⟨hv, _⟩ | ⟨k, cap, cur, hv, _, hg, _⟩
    · rw [hv] at e; simp [Value.ownBlock] at e
    · rw [hv] at e; simp [Value.ownBlock] at e; subst e
      rw [hb] at hg; simp at hg
  refine ⟨⟨heap_setCell_same w1 _ 0 _ 38 _ hb, ownsRow_setCell_other hown hap _, hu, Nat.zero_le _, hn, by decide⟩, ?_⟩
  have b1 : Below w.heap.size w (w.alloc (.cells #[.slice none 0 0, .int .i64 0, .int .i64 0] 38)) := (Below.refl _ _).alloc (Nat.le_refl _) _
  exact (b1.grown hgrow b1.size (fun k h => by cases h)).setCell (Nat.le_refl _) _

set_option maxHeartbeats 800000 in
theorem rnew_some (x : Addr) (n c : Nat) (zs : List Int) (w : World) (hr : Row w (some x) n zs) (hn : n ≤ 140737488355328) :
    Calls Try.prog 6 #[.slice (some x) n c] w fun e w' => MadeR w w' n zs e := by
  obtain ⟨i0, hi, hz0, hz1, hz2⟩ := info_parts Try.info5
  have hl := hr.len
  have HC : Hid _ := row_cells (hr.below ((Below.refl _ _).alloc (Nat.le_refl _) (.cells #[.slice none 0 0, .int .i64 0, .int .i64 0] 38)))
  have HU : Hid _ := hr.u8
  clear hr
  go_enter Try.func6, Try.ntmps6
  go_wp2_with (at_builtin; refine wpList_append_own _ rfl (.tmp 10) (.tmp 11) 22 rfl w.heap.size 5 i0 (.int .u8 0) 1 1 Try.underlying22 hi hz0 hz1 hz2 rfl (by decide) (.slice none 0 0) 0 [] rfl (World.ownsRow_nil _ _ _ _) x n c (zs.map (Value.int .u8)) rfl (by simpa using hl) HC.out (ints_oneCell _ _) (by unfold maxLen; omega) (by omega) (by simp) ?_; intro v' w1 hown hgrow _; obtain ⟨a', c', hv⟩ := own_form hown; subst hv; have hblk := hgrow.block w.heap.size (by simp) (by simp [Value.ownBlock]); rw [heap_alloc_new w _] at hblk; have k0 := cell_of_row w1 w.heap.size 0 _ 38 (0, 0) hblk; have k1 := frozen_of_row w1 w.heap.size 0 _ 38 hblk)
  go_ret
  simp only [Nat.zero_add, List.nil_append] at hown
  obtain ⟨r1, r2⟩ := madeR_end HU.out hn hown hgrow
  exact ⟨w.heap.size, a', c', rfl, r1, Nat.le_refl _, r2⟩
set_option maxHeartbeats 800000 in
theorem rnew_none (w : World) : Calls Try.prog 6 #[.slice none 0 0] w fun e w' => MadeR w w' 0 [] e := by
  obtain ⟨i0, hi, hz0, hz1, hz2⟩ := info_parts Try.info5
  go_enter Try.func6, Try.ntmps6
  go_wp2_with (at_builtin; refine wpList_append_own_none rfl (.tmp 10) (.tmp 11) 22 rfl w.heap.size 5 i0 1 Try.underlying22 hi (.slice none 0 0) 0 [] rfl (World.ownsRow_nil _ _ _ _) rfl ?_)
  go_ret
  exact ⟨w.heap.size, none, 0, rfl, ⟨heap_alloc_new w _, World.ownsRow_nil _ _ _ _, fun i => by simp, Nat.zero_le _, by omega, by decide⟩, Nat.le_refl _, (Below.refl _ _).alloc (Nat.le_refl _) _⟩
/-- The document's New. -/
theorem rnew_any (a : Option Addr) (n c : Nat) (zs : List Int) (w : World) (hr : Row w a n zs) (hn : n ≤ 140737488355328) (h0 : a = none → n = 0 ∧ c = 0) :
    Calls Try.prog 6 #[.slice a n c] w fun e w' => MadeR w w' n zs e := by
  cases a with
  | none =>
    obtain ⟨rfl, rfl⟩ := h0 rfl
    have e1 := List.length_eq_zero_iff.1 hr.len
    subst e1
    exact rnew_none w
  | some x => exact rnew_some x n c zs w hr hn

set_option maxHeartbeats 400000 in
theorem rcv_fault (g : Nat) (f : Int) (w : World) (c2 : w.cell? ⟨g, 2, none⟩ = some (.int .i64 f)) (hf : f ≠ 0) :
    Calls Try.prog 14 #[.pointer (some ⟨g, 0, none⟩)] w fun e w' => e = .returned (.int .i64 0) ∧ w' = w := by
  have hfb : (f != 0) = true := by simp [hf]
  clear hf
  go_enter Try.func14, Try.ntmps14
  go_wp2
  go_ret
  exact ⟨rfl, rfl⟩
set_option maxHeartbeats 800000 in
theorem rcv_bad (base g : Nat) (a : Option Addr) (n c : Nat) (zs : List Int) (p : Nat) (w : World) (h : Cur 38 w base g a n c zs p 0) (he : (rdAt zs p).2.2 ≠ 0) :
    Calls Try.prog 14 #[.pointer (some ⟨g, 0, none⟩)] w fun e w' => e = .returned (.int .i64 0) ∧ Cur 38 w' base g a n c zs p (rdAt zs p).2.2 ∧ w.grownBy w' (some g) := by
  have hc := rcu_any base g a n c zs p 0 w h
  have e : nextU zs p 0 = (0, p, (rdAt zs p).2.2) := by unfold nextU; rw [if_neg (by simp), if_pos he]
  rw [e] at hc
  have c2 := h.cell2
  generalize (rdAt zs p).2.2 = f' at he hc
  have hfb : (f' != 0) = true := by simp [he]
  have HC : Hid _ := fun (_ : Unit) => hc
  clear hc h e he
  go_enter Try.func14, Try.ntmps14
  go_wp2_with fail
  refine (HC.out ()).mono ?_
  rintro e w1 ⟨rfl, hcur, hg⟩
  have k2 := hcur.cell2
  have HD : Hid _ := fun (_ : Unit) => hcur
  clear hcur
  go_wp2
  go_ret
  exact ⟨rfl, HD.out (), hg⟩
set_option maxHeartbeats 800000 in
theorem rcv_good (base g : Nat) (a : Option Addr) (n c : Nat) (zs : List Int) (p : Nat) (w : World) (h : Cur 38 w base g a n c zs p 0) (he : (rdAt zs p).2.2 = 0) :
    Calls Try.prog 14 #[.pointer (some ⟨g, 0, none⟩)] w fun e w' => e = .returned (.int .i64 (zag (rdAt zs p).1)) ∧ Cur 38 w' base g a n c zs (rdAt zs p).2.1.toNat 0 ∧ w.grownBy w' (some g) := by
  have hc := rcu_any base g a n c zs p 0 w h
  have e : nextU zs p 0 = ((rdAt zs p).1, (rdAt zs p).2.1.toNat, 0) := by unfold nextU; rw [if_neg (by simp), if_neg (by simp [he])]
  rw [e] at hc
  have c2 := h.cell2
  have hb := rdAt_bd zs p h.u8
  obtain ⟨b1, b2, _⟩ := hb
  generalize (rdAt zs p).1 = x at b1 b2 hc
  generalize (rdAt zs p).2.1.toNat = p' at hc
  have HC : Hid _ := fun (_ : Unit) => hc
  clear hc h e he
  go_enter Try.func14, Try.ntmps14
  go_wp2_with fail
  refine (HC.out ()).mono ?_
  rintro e w1 ⟨rfl, hcur, hg⟩
  have k2 := hcur.cell2
  have HD : Hid _ := fun (_ : Unit) => hcur
  clear hcur
  go_wp2_with fail
  refine (rzag_any _ _ b1 b2).mono ?_
  rintro e w2 ⟨rfl, rfl⟩
  go_wp2
  go_ret
  exact ⟨rfl, HD.out (), hg⟩
/-- The document's Varint of a cursor. -/
theorem rcv_any (base g : Nat) (a : Option Addr) (n c : Nat) (zs : List Int) (p : Nat) (f : Int) (w : World) (h : Cur 38 w base g a n c zs p f) :
    Calls Try.prog 14 #[.pointer (some ⟨g, 0, none⟩)] w fun e w' => e = .returned (.int .i64 (nextV zs p f).1) ∧ Cur 38 w' base g a n c zs (nextV zs p f).2.1 (nextV zs p f).2.2 ∧ w.grownBy w' (some g) := by
  unfold nextV
  by_cases hf : f = 0
  · subst hf
    rw [if_neg (by simp)]
    by_cases he : (rdAt zs p).2.2 = 0
    · rw [if_neg (by simp [rvAt, he])]
      exact rcv_good base g a n c zs p w h he
    · rw [if_pos (by simpa [rvAt] using he)]
      exact rcv_bad base g a n c zs p w h he
  · rw [if_pos hf]
    exact (rcv_fault g f w h.cell2 hf).mono fun e w' ⟨he, hw⟩ => by
      subst hw
      exact ⟨he, h, World.grownBy.refl _ _⟩

/-! ### Bytes -/
set_option maxHeartbeats 400000 in
theorem rcb_fault (g : Nat) (f k : Int) (w : World) (c2 : w.cell? ⟨g, 2, none⟩ = some (.int .i64 f)) (hf : f ≠ 0) :
    Calls Try.prog 16 #[.pointer (some ⟨g, 0, none⟩), .int .i64 k] w fun e w' => e = .returned (.slice none 0 0) ∧ w' = w := by
  have hfb : (f != 0) = true := by simp [hf]
  clear hf
  go_enter Try.func16, Try.ntmps16
  go_wp2
  go_ret
  exact ⟨rfl, rfl⟩
set_option maxHeartbeats 800000 in
theorem rcb_bad (g n c p : Nat) (a : Option Addr) (k : Int) (w : World) (c0 : w.cell? ⟨g, 0, none⟩ = some (.slice a n c)) (c1 : w.cell? ⟨g, 1, none⟩ = some (.int .i64 p)) (c2 : w.cell? ⟨g, 2, none⟩ = some (.int .i64 0)) (fr : w.frozen? ⟨g, 2, none⟩ = false) (hp : p ≤ n) (hn : n ≤ 140737488355328) (hb : k < 0 ∨ (n : Int) - p < k) :
    Calls Try.prog 16 #[.pointer (some ⟨g, 0, none⟩), .int .i64 k] w fun e w' => e = .returned (.slice none 0 0) ∧ ∃ m, w' = (w.drewN m).setCell ⟨g, 2, none⟩ (.int .i64 13) := by
  by_cases hk0 : k < 0
  · clear hb
    have hd : decide (k < 0) = true := by simpa using hk0
    go_enter Try.func16, Try.ntmps16
    go_wp2
    go_quiet (fail)
    go_wp2
    go_ret
    exact ⟨rfl, _, rfl⟩
  · have hb := hb.resolve_left hk0
    have hd : decide (k < 0) = false := by simpa using hk0
    go_enter Try.func16, Try.ntmps16
    go_wp2
    go_quiet (fail)
    go_wp2
    go_ret
    exact ⟨rfl, _, rfl⟩
end Go.Proofs.Ytdjampgnpiedeab
