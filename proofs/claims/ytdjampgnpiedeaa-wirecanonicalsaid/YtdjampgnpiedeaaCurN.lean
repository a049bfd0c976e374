/-
  New, and the cursor's Bytes.
-/
import Derived.Test.YtdjampgnpiedeaaCurU
import Derived.Test.YtdjampgnpiedeaaUvs
import Derived.Laws.AppendOwnNone
import Derived.Test.YtdjampgnpiedeaaBig
namespace Go.Proofs.Ytdjampgnpiedeaa
open Go.RowKit

theorem row_cells {w : World} {x : Addr} {n : Nat} {zs : List Int} (hr : Row w (some x) n zs) : ∀ j u, (zs.map (Value.int .u8))[j]? = some u → w.cell? (x.add j) = some u := by
  intro j u hu
  have hj : j < zs.length := by
    by_cases h : j < zs.length
    · exact h
    · rw [List.getElem?_eq_none (by simpa using h)] at hu; cases hu
  have hl := hr.len
  rcases hr.cells with h0 | ⟨b, off, hx, hc⟩
  · omega
  · cases hx
    have ha : (⟨b, off, none⟩ : Addr).add j = ⟨b, off + j, none⟩ := by unfold Addr.add; split <;> simp_all
    rw [ha, hc j (by omega)]
    rw [List.getElem?_map] at hu
    simp [hj] at hu ⊢
    exact hu

/-- What a call of New leaves: a cursor in new memory, over bytes in new memory. -/
def Made (w w' : World) (n : Nat) (zs : List Int) (e : Ending) : Prop :=
  ∃ g a c, e = .returned (.pointer (some ⟨g, 0, none⟩)) ∧ Cur w' w.heap.size g a n c zs 0 0 ∧ w.heap.size ≤ g ∧ Below w.heap.size w w'

set_option maxHeartbeats 400000 in
theorem new_some (x : Addr) (n c : Nat) (zs : List Int) (w : World) (hr : Row w (some x) n zs) (hn : n ≤ 225000000000000) :
    Calls Try.prog 29 #[.slice (some x) n c] w fun e w' => Made w w' n zs e := by
  obtain ⟨i0, hi, hz0, hz1, hz2⟩ := info_parts Try.info5
  have hl := hr.len
  have HC : Hid _ := row_cells hr
  have HU : Hid _ := hr.u8
  clear hr
  go_enter Try.func29, Try.ntmps29
  go_wp2_with (at_builtin; refine append_big _ rfl _ _ rfl w.heap.size (.slice none 0 0) 0 [] rfl (World.ownsRow_nil _ _ _ _) x n c (zs.map (Value.int .u8)) rfl (by simpa using hl) HC.out (ints_oneCell _ _) (by omega) (Nat.le_refl _) ?_; intro v' w1 hown hgrow; obtain ⟨a', c', hv⟩ := own_form hown; subst hv)
  go_ret
  simp only [Nat.zero_add, List.nil_append] at hown
  have b1 : Below w.heap.size w w1 := (Below.refl _ _).grown hgrow (Nat.le_refl _) (fun k h => by cases h)
  exact ⟨w1.heap.size, a', c', rfl, ⟨heap_alloc_new w1 _, hown.alloc _, HU.out, Nat.zero_le _, hn⟩, b1.size, b1.alloc b1.size _⟩
set_option maxHeartbeats 400000 in
theorem new_none (w : World) : Calls Try.prog 29 #[.slice none 0 0] w fun e w' => Made w w' 0 [] e := by
  obtain ⟨i0, hi, hz0, hz1, hz2⟩ := info_parts Try.info5
  go_enter Try.func29, Try.ntmps29
  go_wp2_with (at_builtin; refine wpList_append_own_none rfl _ _ 28 rfl w.heap.size 5 i0 1 Try.underlying28 hi (.slice none 0 0) 0 [] rfl (World.ownsRow_nil _ _ _ _) rfl ?_)
  go_ret
  exact ⟨w.heap.size, none, 0, rfl, ⟨heap_alloc_new w _, World.ownsRow_nil _ _ _ _, fun i => by simp, Nat.zero_le _, by omega⟩, Nat.le_refl _, (Below.refl _ _).alloc (Nat.le_refl _) _⟩
/-- New: a cursor over these bytes, at the place 0, without a fault, all in new memory. -/
theorem new_any (a : Option Addr) (n c : Nat) (zs : List Int) (w : World) (hr : Row w a n zs) (hn : n ≤ 225000000000000) (h0 : a = none → n = 0 ∧ c = 0) :
    Calls Try.prog 29 #[.slice a n c] w fun e w' => Made w w' n zs e := by
  cases a with
  | none =>
    obtain ⟨rfl, rfl⟩ := h0 rfl
    have e1 := List.length_eq_zero_iff.1 hr.len
    subst e1
    exact new_none w
  | some x => exact new_some x n c zs w hr hn

set_option maxHeartbeats 400000 in
/-- Bytes behind a fault. -/
theorem cb_fault (base g : Nat) (a : Option Addr) (n c : Nat) (zs : List Int) (p : Nat) (f : Int) (k : Int) (w : World) (h : Cur w base g a n c zs p f) (hf : f ≠ 0) :
    Calls Try.prog 31 #[.pointer (some ⟨g, 0, none⟩), .int .i64 k] w fun e w' => e = .returned (.slice none 0 0) ∧ Below w.heap.size w w' := by
  have c2 := h.cell2
  have hlt := h.lt
  have hfb : (f != 0) = true := by simp [hf]
  clear h hf
  go_enter Try.func31, Try.ntmps31
  go_wp2_with (first
    | (go_at_call 37; refine (fault_any g f _ (by simp [World.cell?_alloc_past, hlt, c2, Nat.lt_succ_of_lt])).mono ?_; rintro e w' ⟨rfl, rfl⟩)
    | go_in)
  go_ret
  exact ⟨rfl, ((Below.refl _ _).alloc (Nat.le_refl _) _).alloc (by simp) _⟩

set_option maxHeartbeats 400000 in
theorem bc_bad (bn bx g n c p : Nat) (k : Int) (a : Option Addr) (w : World) (hk : w.cell? ⟨bn, 0, none⟩ = some (.int .i64 k)) (hx : w.cell? ⟨bx, 0, none⟩ = some (.pointer (some ⟨g, 0, none⟩))) (h0 : w.cell? ⟨g, 0, none⟩ = some (.slice a n c)) (h1 : w.cell? ⟨g, 1, none⟩ = some (.int .i64 p)) (hp : p ≤ n) (hn : n ≤ 225000000000000)
    (hb : k < 0 ∨ (n : Int) - p < k) :
    Calls Try.prog 40 #[.pointer (some ⟨bn, 0, none⟩), .pointer (some ⟨bx, 0, none⟩)] w fun e w' => e = .returned (.tuple #[.slice none 0 0, .int .i64 0, .int .i64 13]) ∧ ∃ m, w' = w.drewN m := by
  have HL := fun m => left_any g n c p a (w.drewN m) h0 h1 hp hn
  have HH : Hid _ := HL
  clear HL
  by_cases hk0 : k < 0
  · clear hb
    have hd : decide (k < 0) = true := by simpa using hk0
    go_enter Try.func40, Try.ntmps40
    go_wp2
    go_quiet ((go_at_call 30; exact Calls.quiet_of (HH.out _)))
    go_wp2
    go_ret3
    exact ⟨rfl, _, rfl⟩
  · have hb := hb.resolve_left hk0
    have hd : decide (k < 0) = false := by simpa using hk0
    go_enter Try.func40, Try.ntmps40
    go_wp2
    go_quiet ((go_at_call 30; exact Calls.quiet_of (HH.out _)))
    go_wp2
    go_ret3
    exact ⟨rfl, _, rfl⟩
end Go.Proofs.Ytdjampgnpiedeaa
