/-
  The cursor's Bytes: none taken; and all ways together.
-/
import Derived.Test.YtdjampgnpiedeaaCurB
namespace Go.Proofs.Ytdjampgnpiedeaa
open Go.RowKit

set_option maxHeartbeats 1600000 in
theorem bc_zero (bn bx g b n c p : Nat) (w : World) (hk : w.cell? ⟨bn, 0, none⟩ = some (.int .i64 0)) (hx : w.cell? ⟨bx, 0, none⟩ = some (.pointer (some ⟨g, 0, none⟩))) (h0 : w.cell? ⟨g, 0, none⟩ = some (.slice (some ⟨b, 0, none⟩) n c)) (h1 : w.cell? ⟨g, 1, none⟩ = some (.int .i64 p)) (hp : p ≤ n) (hn : n ≤ 225000000000000) (hnc : n ≤ c) (hcm : c ≤ 9223372036854775807) (hC : ¬ c = p) :
    Calls Try.prog 40 #[.pointer (some ⟨bn, 0, none⟩), .pointer (some ⟨bx, 0, none⟩)] w fun e w' => e = .returned (.tuple #[.slice none 0 0, .int .i64 (p : Int), .int .i64 0]) ∧ ∃ m, w' = w.drewN m := by
  have HL := fun m => left_any g n c p (some ⟨b, 0, none⟩) (w.drewN m) h0 h1 hp hn
  have HH : Hid _ := HL
  clear HL
  have hg : decide ((n : Int) - p < 0) = false := by simp; omega
  have hA : 0 ≤ (p : Int) := by omega
  have hB : (p : Int) ≤ (c : Int) := by omega
  go_enter Try.func40, Try.ntmps40
  go_wp2
  go_quiet ((go_at_call 30; exact Calls.quiet_of (HH.out _)))
  go_wp2
  go_quiet (fail)
  go_wp2
  go_region
  all_goals
    go_wp2
    go_ret3
    exact ⟨rfl, _, rfl⟩
set_option maxHeartbeats 1600000 in
theorem bc_zero_end (bn bx g b n : Nat) (w : World) (hk : w.cell? ⟨bn, 0, none⟩ = some (.int .i64 0)) (hx : w.cell? ⟨bx, 0, none⟩ = some (.pointer (some ⟨g, 0, none⟩))) (h0 : w.cell? ⟨g, 0, none⟩ = some (.slice (some ⟨b, 0, none⟩) n n)) (h1 : w.cell? ⟨g, 1, none⟩ = some (.int .i64 n)) (hn : n ≤ 225000000000000) :
    Calls Try.prog 40 #[.pointer (some ⟨bn, 0, none⟩), .pointer (some ⟨bx, 0, none⟩)] w fun e w' => e = .returned (.tuple #[.slice none 0 0, .int .i64 (n : Int), .int .i64 0]) ∧ ∃ m, w' = w.drewN m := by
  have HL := fun m => left_any g n n n (some ⟨b, 0, none⟩) (w.drewN m) h0 h1 (Nat.le_refl _) hn
  have HH : Hid _ := HL
  clear HL
  have hA : 0 ≤ (n : Int) := by omega
  go_enter Try.func40, Try.ntmps40
  go_wp2
  go_quiet ((go_at_call 30; exact Calls.quiet_of (HH.out _)))
  go_wp2
  go_quiet (fail)
  go_wp2
  go_region
  all_goals
    go_wp2
    go_ret3
    exact ⟨rfl, _, rfl⟩
set_option maxHeartbeats 1600000 in
theorem bc_zero_none (bn bx g : Nat) (w : World) (hk : w.cell? ⟨bn, 0, none⟩ = some (.int .i64 0)) (hx : w.cell? ⟨bx, 0, none⟩ = some (.pointer (some ⟨g, 0, none⟩))) (h0 : w.cell? ⟨g, 0, none⟩ = some (.slice none 0 0)) (h1 : w.cell? ⟨g, 1, none⟩ = some (.int .i64 0)) :
    Calls Try.prog 40 #[.pointer (some ⟨bn, 0, none⟩), .pointer (some ⟨bx, 0, none⟩)] w fun e w' => e = .returned (.tuple #[.slice none 0 0, .int .i64 0, .int .i64 0]) ∧ ∃ m, w' = w.drewN m := by
  have HL := fun m => left_any g 0 0 0 none (w.drewN m) h0 h1 (Nat.le_refl _) (by omega)
  simp only [Int.natCast_zero, Int.sub_zero] at HL
  have HH : Hid _ := HL
  clear HL
  go_enter Try.func40, Try.ntmps40
  go_wp2
  go_quiet ((go_at_call 30; exact Calls.quiet_of (HH.out _)))
  go_wp2
  go_quiet (fail)
  go_wp2
  go_region
  all_goals
    go_wp2
    go_ret3
    exact ⟨rfl, _, rfl⟩

/-- What a cursor's bytes are as a value. -/
theorem Cur.form {w : World} {base g : Nat} {a : Option Addr} {n c : Nat} {zs : List Int} {p : Nat} {f : Int} (h : Cur w base g a n c zs p f) :
    (a = none ∧ n = 0 ∧ c = 0) ∨ ∃ b, a = some ⟨b, 0, none⟩ ∧ n ≤ c ∧ c ≤ 9223372036854775807 := by
  rcases h.own.2 with ⟨hv, _⟩ | ⟨g', cap, cur, hv, hb, hg, hn, hm, _⟩
  · cases hv; exact .inl ⟨rfl, rfl, rfl⟩
  · cases hv; exact .inr ⟨g', rfl, hn, by unfold maxLen at hm; omega⟩

/-- The closure of Bytes: k bytes are there. -/
theorem bc_any (bn bx base g : Nat) (a : Option Addr) (n c p k : Nat) (f : Int) (zs : List Int) (w : World) (h : Cur w base g a n c zs p f) (hk : w.cell? ⟨bn, 0, none⟩ = some (.int .i64 k)) (hx : w.cell? ⟨bx, 0, none⟩ = some (.pointer (some ⟨g, 0, none⟩))) (hpk : p + k ≤ n) (hk47 : k ≤ 140737488355328) :
    Calls Try.prog 40 #[.pointer (some ⟨bn, 0, none⟩), .pointer (some ⟨bx, 0, none⟩)] w fun e w' => ∃ v, e = .returned (.tuple #[v, .int .i64 ((p + k : Nat) : Int), .int .i64 0]) ∧ w'.ownsRow w.heap.size 5 1 v k (((zs.drop p).take k).map (Value.int .u8)) ∧ Below w.heap.size w w' := by
  have c0 := h.cell0
  have c1 := h.cell1
  by_cases hk0 : k = 0
  · subst hk0
    have fin : ∀ (e : Ending) (w' : World), (e = .returned (.tuple #[.slice none 0 0, .int .i64 (p : Int), .int .i64 0]) ∧ ∃ m, w' = w.drewN m) →
        ∃ v, e = .returned (.tuple #[v, .int .i64 ((p + 0 : Nat) : Int), .int .i64 0]) ∧ w'.ownsRow w.heap.size 5 1 v 0 (((zs.drop p).take 0).map (Value.int .u8)) ∧ Below w.heap.size w w' := by
      rintro e w' ⟨rfl, m, rfl⟩
      exact ⟨_, rfl, World.ownsRow_nil _ _ _ _, below_drewN (Below.refl _ _) _⟩
    rcases h.form with ⟨rfl, rfl, rfl⟩ | ⟨b, rfl, hnc, hcm⟩
    · obtain rfl : p = 0 := by omega
      exact (bc_zero_none bn bx g w hk hx c0 c1).mono fin
    · by_cases hcp : c = p
      · obtain rfl : n = p := by omega
        subst hcp
        exact (bc_zero_end bn bx g b c w hk hx c0 c1 h.reach).mono fin
      · exact (bc_zero bn bx g b n c p w hk hx c0 c1 h.le h.reach hnc hcm hcp).mono fin
  · rcases h.form with ⟨rfl, rfl, rfl⟩ | ⟨b, rfl, hnc, hcm⟩
    · omega
    · exact bc_good bn bx g b n c p k zs w hk hx c0 c1 h.le h.reach hnc hcm h.row (by omega) hpk hk47
end Go.Proofs.Ytdjampgnpiedeaa
