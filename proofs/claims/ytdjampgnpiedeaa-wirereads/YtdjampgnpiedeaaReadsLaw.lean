import Derived.Test.YtdjampgnpiedeaaReadsB
import Derived.Test.YtdjampgnpiedeaaWrites
namespace Go.Proofs.Ytdjampgnpiedeaa
open Go.RowKit
theorem own_row {w : World} {base n c : Nat} {a : Option Addr} {zs : List Int} (h : w.ownsRow base 5 1 (.slice a n c) n (zs.map (Value.int .u8))) (hu : ∀ i : Nat, 0 ≤ zs[i]?.getD 0 ∧ zs[i]?.getD 0 ≤ 255) : Row w a n zs := by
  obtain ⟨a', c', hv, _, hr⟩ := Row.of_own h hu
  cases hv; exact hr
set_option maxHeartbeats 800000 in
theorem reads_walk (a : Option Addr) (n c : Nat) (zs : List Int) (t : Int) (w : World) (hr : Row w a n zs) (hn : n ≤ 140737488351232) (h0 : a = none → n = 0 ∧ c = 0) :
    Calls Try.prog 4 #[.slice a n c, .int .i64 t] w fun e w' => e = .returned (.bool true) ∧ Below w.heap.size w w' := by
  go_enter Try.func4, Try.ntmps4
  go_wp2_with fail
  refine (copied_any a n c zs w hr hn h0).mono ?_
  rintro e w1 ⟨a1, c1, rfl, _, hown, hb⟩
  have hr1 := own_row hown hr.u8
  have hr' := hr.below hb
  have u1 := ru_any a1 n c1 t zs w1 hr1 (by omega)
  have u2 := rru_any a n c t zs w1 hr' (by omega)
  have u4 := fun m => rv_any a1 n c1 t zs (w1.drewN m) (hr1.drewN m) (by omega)
  have u5 := fun m => rrv_any a n c t zs (w1.drewN m) (hr'.drewN m) (by omega)
  have u3 := same_any a1 a n c1 n c zs zs w1 hr1 hr' (by omega)
  have u6 := fun m => same_any a1 a n c1 n c zs zs (w1.drewN m) (hr1.drewN m) (hr'.drewN m) (by omega)
  simp only [decide_true] at u3 u6
  generalize rdAt zs t = q at u1 u2
  generalize rvAt zs t = q' at u4 u5
  obtain ⟨x, p, f⟩ := q
  obtain ⟨x', p', f'⟩ := q'
  simp only [out3] at u1 u2 u4 u5
  clear hown hr hr1 hr' h0
  go_wp2_with fail
  refine u1.mono ?_
  rintro e w2 ⟨rfl, rfl⟩
  go_wp2_with fail
  refine u2.mono ?_
  rintro e w3 ⟨rfl, rfl⟩
  go_wp2_with fail
  refine u3.mono ?_
  rintro e w4 ⟨rfl, m4, rfl⟩
  go_wp2_with fail
  refine (u4 m4).mono ?_
  rintro e w5 ⟨rfl, rfl⟩
  go_wp2_with fail
  refine (u5 m4).mono ?_
  rintro e w6 ⟨rfl, rfl⟩
  go_wp2_with fail
  refine (u6 m4).mono ?_
  rintro e w7 ⟨rfl, m7, rfl⟩
  go_wp2
  go_ret
  exact ⟨rfl, below_drewN hb _⟩
end Go.Proofs.Ytdjampgnpiedeaa
