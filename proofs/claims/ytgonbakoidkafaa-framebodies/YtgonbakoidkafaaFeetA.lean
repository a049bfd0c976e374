/-
  appendNumber, low: a number in four bytes, the lowest first.
-/
import Derived.Test.YtgonbakoidkafaaSmall
namespace Go.Proofs.Ytgonbakoidkafaa
open Go.RowKit
/-- The first k bytes of x, the lowest first. -/
def le (x : Int) (k : Nat) : List Int := (List.range k).map (fun j => x / 2 ^ (8 * j) % 256)
theorem le_zero (x : Int) : le x 0 = [] := rfl
theorem le_succ (x : Int) (k : Nat) : le x (k + 1) = le x k ++ [x / 2 ^ (8 * k) % 256] := by unfold le; rw [List.range_succ, List.map_append]; rfl
theorem le_len (x : Int) (k : Nat) : (le x k).length = k := by unfold le; simp
theorem le_mem (x : Int) (k : Nat) : ∀ z ∈ le x k, 0 ≤ z ∧ z ≤ 255 := by
  intro z hz; unfold le at hz; rw [List.mem_map] at hz; obtain ⟨j, _, rfl⟩ := hz; omega
theorem pow8 (x : Int) (k : Nat) : x / 2 ^ (8 * k) / 256 = x / 2 ^ (8 * (k + 1)) := by
  have hp : (0 : Int) < 2 ^ (8 * k) := Int.pow_pos (by decide)
  rw [show 8 * (k + 1) = 8 * k + 8 by omega, Int.pow_add, Int.ediv_ediv, if_neg (fun h => by omega), Int.sub_zero]; rfl
theorem pow8_bd (x : Int) (k : Nat) (h : 0 ≤ x) : 0 ≤ x / 2 ^ (8 * k) ∧ x / 2 ^ (8 * k) ≤ x := by
  have hp : (0 : Int) < 2 ^ (8 * k) := Int.pow_pos (by decide)
  exact ⟨Int.ediv_nonneg h (by omega), Int.ediv_le_self _ h⟩
set_option maxHeartbeats 800000 in
theorem an_any (base : Nat) (v : Value) (n : Nat) (xs : List Int) (x : Int) (w : World) (_hx : 0 ≤ x) (_hx2 : x ≤ 4294967295) (hn : n ≤ 1000) (hown : w.ownsRow base 5 1 v n (xs.map (Value.int .u8))) (hbase : base ≤ w.heap.size) :
    Calls Try.prog 21 #[v, .int .u32 x, .int .i64 4] w fun e w' => ∃ v', e = .returned v' ∧ w'.ownsRow base 5 1 v' (n + 4) ((xs ++ le x 4).map (Value.int .u8)) ∧ Below base w w' := by
  go_enter Try.func21, Try.ntmps21
  go_wp2
  go_loopw [0, 9] (fun v' si wr => ∃ k : Nat, k ≤ 4 ∧ si = .int .i64 k ∧ wr.ownsRow base 5 1 v' (n + k) ((xs ++ le x k).map (Value.int .u8)) ∧ Below base w wr)
    (fun _ si _ => 4 - (intOf si).toNat)
  case atStart => exact ⟨0, by omega, rfl, by rw [le_zero, List.append_nil]; exact hown, Below.refl _ _⟩
  case round =>
    obtain ⟨k, hk, rfl, ho, hb⟩ := hrel
    by_cases hlt : k < 4
    · have hs := hb.size
      have HE := hide (le_succ x k)
      clear hown
      go_wp2_with (at_builtin; refine append_one _ rfl (.tmp 12) (.tmp 18) rfl base _ (n + k) (xs ++ le x k) rfl (ho.alloc _) wr.heap.size (x / 2 ^ (8 * k) % 256) rfl (by rw [World.cell?_alloc_at _ _ _ _ rfl]; rfl) (by omega) (by simp; omega) ?_; intro v' w1 hown1 hgrow1)
      rw [List.append_assoc, ← HE.out] at hown1
      exact ⟨⟨k + 1, by omega, by go_num, hown1, (hb.alloc (by omega) _).grown hgrow1 (by simp; omega) (fun k hk => (ho.lt k hk).1)⟩, by simp [intOf]; omega⟩
    · have hk4 : k = 4 := by omega
      subst hk4
      go_wp2
      go_ret
      exact ⟨_, rfl, ho, hb⟩
set_option maxHeartbeats 800000 in
theorem lo_any (base : Nat) (v : Value) (n : Nat) (xs : List Int) (x : Int) (w : World) (hx : 0 ≤ x) (hx2 : x ≤ 4294967295) (hn : n ≤ 1000) (hown : w.ownsRow base 5 1 v n (xs.map (Value.int .u8))) (hbase : base ≤ w.heap.size) :
    Calls Try.prog 22 #[v, .int .u64 x, .int .i64 4] w fun e w' => ∃ v', e = .returned v' ∧ w'.ownsRow base 5 1 v' (n + 4) ((xs ++ le x 4).map (Value.int .u8)) ∧ Below base w w' := by
  go_enter Try.func22, Try.ntmps22
  go_wp2
  go_loopw [0, 1, 7] (fun v' sx si wr => ∃ (k : Nat) (y : Int), k ≤ 4 ∧ si = .int .i64 k ∧ sx = .int .u64 y ∧ y = x / 2 ^ (8 * k) ∧ wr.ownsRow base 5 1 v' (n + k) ((xs ++ le x k).map (Value.int .u8)) ∧ Below base w wr)
    (fun _ _ si _ => 4 - (intOf si).toNat)
  case atStart => exact ⟨0, x, by omega, rfl, rfl, by simp, by rw [le_zero, List.append_nil]; exact hown, Below.refl _ _⟩
  case round =>
    obtain ⟨k, y, hk, rfl, rfl, hy, ho, hb⟩ := hrel
    by_cases hlt : k < 4
    · have hs := hb.size
      have HE := hide (le_succ x k)
      have HY : Hid (y / 256 = x / 2 ^ (8 * (k + 1))) := by rw [hy]; exact pow8 x k
      have hy0 : 0 ≤ y := by rw [hy]; exact (pow8_bd x k hx).1
      have hy1 : y ≤ 4294967295 := by have := (pow8_bd x k hx).2; rw [← hy] at this; omega
      rw [← hy] at HE
      clear hown hy
      go_wp2_with (at_builtin; refine append_one _ rfl (.tmp 13) (.tmp 17) rfl base _ (n + k) (xs ++ le x k) rfl (ho.alloc _) wr.heap.size (y % 256) rfl (by rw [World.cell?_alloc_at _ _ _ _ rfl]; rfl) (by omega) (by simp; omega) ?_; intro v' w1 hown1 hgrow1)
      rw [List.append_assoc, ← HE.out] at hown1
      exact ⟨⟨k + 1, _, by omega, by go_num, rfl, HY.out, hown1, (hb.alloc (by omega) _).grown hgrow1 (by simp; omega) (fun k hk => (ho.lt k hk).1)⟩, by simp [intOf]; omega⟩
    · have hk4 : k = 4 := by omega
      subst hk4
      clear hy
      go_wp2
      go_ret
      exact ⟨_, rfl, ho, hb⟩
end Go.Proofs.Ytgonbakoidkafaa
