import Derived.Test.YtdjampgnpiedeaaUvs
namespace Go.Proofs.Ytdjampgnpiedeaa
open Go.RowKit
theorem enc_row {w : World} {base : Nat} {v : Value} {x : Nat} (h : w.ownsRow base 5 1 v (enc x).length ((enc x).map (Value.int .u8))) :
    ∃ a cap, v = .slice a (enc x).length cap ∧ (enc x).length ≤ cap ∧ Row w a (enc x).length (enc x) :=
  Row.of_own h (fun i => by
    by_cases hi : i < (enc x).length
    · exact enc_u8 x i hi
    · rw [List.getElem?_eq_none (by omega)]; simp)
/-- Below, one behind the other. -/
theorem Below.on {w a b : World} (h : Below w.heap.size w a) (k : Below a.heap.size a b) : Below w.heap.size w b := h.trans (k.mono h.size)
theorem Row.drewN {w : World} {a : Option Addr} {n : Nat} {zs : List Int} (h : Row w a n zs) (m : Nat) : Row (w.drewN m) a n zs := h.below (below_drewN (Below.refl _ _) m)

theorem uv_row (x : Int) (w : World) (h1 : 0 ≤ x) (h2 : x ≤ 18446744073709551615) :
    Calls Try.prog 24 #[.int .u64 x] w fun e w' => ∃ a c, e = .returned (.slice a (enc x.toNat).length c) ∧ Row w' a (enc x.toNat).length (enc x.toNat) ∧ Below w.heap.size w w' :=
  (uv_any x w h1 h2).mono fun e w' ⟨c, he, ho, hb⟩ => by
    obtain ⟨a', c', hv, _, hr⟩ := enc_row ho
    exact ⟨a', c', by rw [he, hv], hr, hb⟩
theorem vr_row (n : Int) (w : World) (h1 : -9223372036854775808 ≤ n) (h2 : n ≤ 9223372036854775807) :
    Calls Try.prog 27 #[.int .i64 n] w fun e w' => ∃ a c, e = .returned (.slice a (enc (zig n).toNat).length c) ∧ Row w' a (enc (zig n).toNat).length (enc (zig n).toNat) ∧ Below w.heap.size w w' :=
  (vr_any n w h1 h2).mono fun e w' ⟨c, he, ho, hb⟩ => by
    obtain ⟨a', c', hv, _, hr⟩ := enc_row ho
    exact ⟨a', c', by rw [he, hv], hr, hb⟩
theorem ruv_row (x : Int) (w : World) (h1 : 0 ≤ x) (h2 : x ≤ 18446744073709551615) :
    Calls Try.prog 25 #[.int .u64 x] w fun e w' => ∃ a c, e = .returned (.slice a (enc x.toNat).length c) ∧ Row w' a (enc x.toNat).length (enc x.toNat) ∧ Below w.heap.size w w' :=
  (ruv_any x w h1 h2).mono fun e w' ⟨v, he, ho, hb⟩ => by
    obtain ⟨a', c', hv, _, hr⟩ := enc_row ho
    exact ⟨a', c', by rw [he, hv], hr, hb⟩
theorem rvr_row (n : Int) (w : World) (h1 : -9223372036854775808 ≤ n) (h2 : n ≤ 9223372036854775807) :
    Calls Try.prog 28 #[.int .i64 n] w fun e w' => ∃ a c, e = .returned (.slice a (enc (zig n).toNat).length c) ∧ Row w' a (enc (zig n).toNat).length (enc (zig n).toNat) ∧ Below w.heap.size w w' :=
  (rvr_any n w h1 h2).mono fun e w' ⟨v, he, ho, hb⟩ => by
    obtain ⟨a', c', hv, _, hr⟩ := enc_row ho
    exact ⟨a', c', by rw [he, hv], hr, hb⟩

set_option maxHeartbeats 800000 in
theorem writes_walk (x n : Int) (w : World) (h1 : 0 ≤ x) (h2 : x ≤ 18446744073709551615) (h3 : -9223372036854775808 ≤ n) (h4 : n ≤ 9223372036854775807) :
    Calls Try.prog 6 #[.int .u64 x, .int .i64 n] w fun e w' => e = .returned (.bool true) ∧ Below w.heap.size w w' := by
  have l1 := enc_le x.toNat (by omega)
  have hz := zig_bd n h3 h4
  have l2 := enc_le (zig n).toNat (by omega)
  go_enter Try.func6, Try.ntmps6
  go_wp2_with fail
  refine (uv_row _ _ h1 h2).mono ?_
  rintro e w1 ⟨a1, c1, rfl, hr1, hb1⟩
  go_wp2_with fail
  refine (ruv_row _ _ h1 h2).mono ?_
  rintro e w2 ⟨a2, c2, rfl, hr2, hb2⟩
  have hr1' := hr1.below hb2
  have b2 := Below.on hb1 hb2
  clear hb1 hb2 hr1
  go_wp2_with fail
  refine (same_any _ _ _ _ _ _ _ _ _ hr1' hr2 (by omega)).mono ?_
  rintro e w3 ⟨rfl, m, hw3⟩
  have b3 : Below w.heap.size w w3 := by rw [hw3]; exact below_drewN b2 m
  simp only [decide_true]
  clear hr1' hr2 hw3 b2
  go_wp2_with fail
  refine (size_any _ _ h1 h2).mono ?_
  rintro e w4 ⟨rfl, rfl⟩
  go_wp2_with fail
  refine (rsize_any _ _ h1 h2).mono ?_
  rintro e w5 ⟨rfl, hb5⟩
  have b5 := Below.on b3 hb5
  clear b3 hb5
  go_wp2_with fail
  refine (vr_row _ _ h3 h4).mono ?_
  rintro e w6 ⟨a6, c6, rfl, hr6, hb6⟩
  have b6 := Below.on b5 hb6
  clear b5 hb6
  go_wp2_with fail
  refine (rvr_row _ _ h3 h4).mono ?_
  rintro e w7 ⟨a7, c7, rfl, hr7, hb7⟩
  have hr6' := hr6.below hb7
  have b7 := Below.on b6 hb7
  clear b6 hb7 hr6
  go_wp2_with fail
  refine (same_any _ _ _ _ _ _ _ _ _ hr6' hr7 (by omega)).mono ?_
  rintro e w8 ⟨rfl, m8, hw8⟩
  have b8 : Below w.heap.size w w8 := by rw [hw8]; exact below_drewN b7 m8
  simp only [decide_true]
  clear hr6' hr7 hw8 b7
  go_wp2
  go_ret
  exact ⟨rfl, b8⟩
end Go.Proofs.Ytdjampgnpiedeaa
