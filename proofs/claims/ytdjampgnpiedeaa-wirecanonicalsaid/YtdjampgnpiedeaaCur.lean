/-
  The cursor: what lies in memory, and the contracts of the calls that only ask.
-/
import Derived.Test.YtdjampgnpiedeaaReadsB
namespace Go.Proofs.Ytdjampgnpiedeaa
open Go.RowKit

/-- The block g holds a cursor over the bytes zs at the place p with the fault f; its bytes lie in a list of its own (from block 'base' on). -/
structure Cur (w : World) (base g : Nat) (a : Option Addr) (n c : Nat) (zs : List Int) (p : Nat) (f : Int) : Prop where
  blk : w.heap[g]? = some (.cells #[.slice a n c, .int .i64 p, .int .i64 f] 58 (0, 0))
  own : w.ownsRow base 5 1 (.slice a n c) n (zs.map (Value.int .u8))
  u8 : ∀ i : Nat, 0 ≤ zs[i]?.getD 0 ∧ zs[i]?.getD 0 ≤ 255
  le : p ≤ n
  reach : n ≤ 225000000000000
section
variable {w : World} {base g : Nat} {a : Option Addr} {n c : Nat} {zs : List Int} {p : Nat} {f : Int}
theorem Cur.len (h : Cur w base g a n c zs p f) : zs.length = n := by have := h.own.1; simpa using this
theorem Cur.cell0 (h : Cur w base g a n c zs p f) : w.cell? ⟨g, 0, none⟩ = some (.slice a n c) := by rw [cell_of_row w g 0 _ 58 (0, 0) h.blk]; rfl
theorem Cur.cell1 (h : Cur w base g a n c zs p f) : w.cell? ⟨g, 1, none⟩ = some (.int .i64 p) := by rw [cell_of_row w g 1 _ 58 (0, 0) h.blk]; rfl
theorem Cur.cell2 (h : Cur w base g a n c zs p f) : w.cell? ⟨g, 2, none⟩ = some (.int .i64 f) := by rw [cell_of_row w g 2 _ 58 (0, 0) h.blk]; rfl
theorem Cur.free (h : Cur w base g a n c zs p f) (j : Nat) : w.frozen? ⟨g, j, none⟩ = false := frozen_of_row w g j _ 58 h.blk
theorem Cur.lt (h : Cur w base g a n c zs p f) : g < w.heap.size := (Array.getElem?_eq_some_iff.1 h.blk).1
theorem Cur.row (h : Cur w base g a n c zs p f) : Row w a n zs := by
  obtain ⟨a', c', hv, _, hr⟩ := Row.of_own h.own h.u8
  cases hv; exact hr
theorem Cur.apart (h : Cur w base g a n c zs p f) : (Value.slice a n c).ownBlock ≠ some g := by
  intro e
  rcases h.own.2 with ⟨hv, _⟩ | ⟨g', cap, cur, hv, hb, hg, _⟩
  · rw [hv] at e; simp [Value.ownBlock] at e
  · rw [hv] at e; simp [Value.ownBlock] at e; subst e
    rw [h.blk] at hg; simp at hg
/-- What is left alone stays. -/
theorem Cur.kept {w' : World} {r : Option Nat} (h : Cur w base g a n c zs p f) (hg : w.grownBy w' r) (h1 : r ≠ some g) (h2 : (Value.slice a n c).ownBlock = none ∨ (Value.slice a n c).ownBlock ≠ r) : Cur w' base g a n c zs p f :=
  ⟨(hg.block g h.lt (fun e => h1 e.symm)).trans h.blk, h.own.kept hg h2, h.u8, h.le, h.reach⟩
theorem Cur.below {w' : World} (h : Cur w base g a n c zs p f) (hb : Below w.heap.size w w') : Cur w' base g a n c zs p f :=
  h.kept (r := none) ⟨hb.os, hb.tape, hb.output, hb.size, fun k hk _ => hb.block k hk⟩ (by simp) (by cases (Value.slice a n c).ownBlock <;> simp)
theorem Cur.setAt (h : Cur w base g a n c zs p f) (q : Nat) (hq : q ≤ n) : Cur (w.setCell ⟨g, 1, none⟩ (.int .i64 q)) base g a n c zs q f :=
  ⟨heap_setCell_same w g 1 _ 58 _ h.blk, ownsRow_setCell_other h.own h.apart _, h.u8, hq, h.reach⟩
theorem Cur.setFault (h : Cur w base g a n c zs p f) (q : Int) : Cur (w.setCell ⟨g, 2, none⟩ (.int .i64 q)) base g a n c zs p q :=
  ⟨heap_setCell_same w g 2 _ 58 _ h.blk, ownsRow_setCell_other h.own h.apart _, h.u8, h.le, h.reach⟩
end

theorem fault_any (g : Nat) (f : Int) (w : World) (h2 : w.cell? ⟨g, 2, none⟩ = some (.int .i64 f)) :
    Calls Try.prog 37 #[.pointer (some ⟨g, 0, none⟩)] w fun e w' => e = .returned (.int .i64 f) ∧ w' = w := by
  go_enter Try.func37, Try.ntmps37
  go_wp2
  go_ret
  exact ⟨rfl, rfl⟩
theorem at_any (g p : Nat) (w : World) (h1 : w.cell? ⟨g, 1, none⟩ = some (.int .i64 p)) :
    Calls Try.prog 36 #[.pointer (some ⟨g, 0, none⟩)] w fun e w' => e = .returned (.int .i64 p) ∧ w' = w := by
  go_enter Try.func36, Try.ntmps36
  go_wp2
  go_ret
  exact ⟨rfl, rfl⟩
theorem left_any (g n c p : Nat) (a : Option Addr) (w : World) (h0 : w.cell? ⟨g, 0, none⟩ = some (.slice a n c)) (h1 : w.cell? ⟨g, 1, none⟩ = some (.int .i64 p)) (hp : p ≤ n) (hn : n ≤ 225000000000000) :
    Calls Try.prog 30 #[.pointer (some ⟨g, 0, none⟩)] w fun e w' => e = .returned (.int .i64 ((n : Int) - p)) ∧ ∃ m, w' = w.drewN m := by
  go_enter Try.func30, Try.ntmps30
  go_wp2
  go_quiet (fail)
  go_wp2
  go_ret
  exact ⟨rfl, _, rfl⟩
theorem uvc_any (bx g n c p : Nat) (a : Option Addr) (zs : List Int) (w : World) (hx : w.cell? ⟨bx, 0, none⟩ = some (.pointer (some ⟨g, 0, none⟩))) (h0 : w.cell? ⟨g, 0, none⟩ = some (.slice a n c)) (h1 : w.cell? ⟨g, 1, none⟩ = some (.int .i64 p)) (hr : Row w a n zs) (hn : n ≤ 225000000000000) :
    Calls Try.prog 44 #[.pointer (some ⟨bx, 0, none⟩)] w fun e w' => e = .returned (out3 .u64 (rdAt zs p)) ∧ ∃ m, w' = w.drewN m := by
  have hrd := fun m => ru_any a n c p zs (w.drewN m) (hr.below (below_drewN (Below.refl _ _) m)) (by omega)
  generalize rdAt zs p = q at hrd
  obtain ⟨x, p', f'⟩ := q
  simp only [out3] at hrd
  have HR : Hid _ := hrd
  clear hrd hr
  go_enter Try.func44, Try.ntmps44
  go_wp2
  go_quiet ((go_at_call 15; exact Calls.quiet_of_same (HR.out _)))
  go_wp2
  go_ret3
  exact ⟨rfl, _, rfl⟩
end Go.Proofs.Ytdjampgnpiedeaa
