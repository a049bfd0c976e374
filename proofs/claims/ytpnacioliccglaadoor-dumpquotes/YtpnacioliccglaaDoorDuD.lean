/-
  Words: the document's.
-/
import Derived.Test.YtpnacioliccglaaDoorDuC
namespace Go.Proofs.YtpnacioliccglaaDoor
open Go.RowKit Go.Maps Go.Shelf
set_option linter.unusedVariables false
theorem btwI (s : ByteArray) (i k : Nat) (w : World) (hi1 : (i : Int) + k ≤ 9223372036854775806) (hs : (s.size : Int) ≤ 9223372036854775806) :
    Calls Tryd.prog 49 #[.string s, .int .i64 ((i : Int) + (k : Int)), .int .u8 128, .int .u8 191] w fun e w' => e = .returned (.bool (btw s (i + k) 128 191)) ∧ w' = w := by
  have h := btw_any s (i + k) 128 191 w (by omega) hs (by omega) (by omega)
  rw [show ((i + k : Nat) : Int) = (i : Int) + (k : Int) by omega] at h
  exact h
set_option maxRecDepth 8000 in
set_option maxHeartbeats 4000000 in
theorem well_any (s : ByteArray) (i : Nat) (w : World) (hi : i < s.size) (hs : (s.size : Int) ≤ 9223372036854775000) :
    Calls Tryd.prog 24 #[.string s, .int .i64 (i : Int)] w fun e w' => e = .returned (.int .i64 (wl s i : Int)) ∧ w' = w := by
  have hI : (i : Int) < s.size := by omega
  have hi0 : (0 : Int) ≤ i := by omega
  have H1 := hide (btwI s i 1 w (by omega) (by omega))
  have H2 := hide (btwI s i 2 w (by omega) (by omega))
  have H3 := hide (btwI s i 3 w (by omega) (by omega))
  have hw := wl.eq_1 s i
  have T1 := @btw_iff s (i + 1) 128 191
  obtain ⟨R, hR⟩ : ∃ R, wl s i = R := ⟨_, rfl⟩
  rw [hR] at hw ⊢
  rw [bA_get hi] at hw
  clear hR
  generalize e1 : btw s (i + 1) 128 191 = t1 at *
  generalize e2 : btw s (i + 2) 128 191 = t2 at *
  generalize e3 : btw s (i + 3) 128 191 = t3 at *
  clear e1 e2 e3
  cases t1 with
  | false =>
    simp only [Bool.false_eq_true, false_and, and_false, if_false] at hw
    have HW := hide hw
    clear hw T1 H2 H3
    go_enter Tryd.func24, Tryd.ntmps24
    go_wp2_with fail
    refine H1.out.mono ?_
    rintro x w1 ⟨rfl, hw1⟩
    obtain rfl : w = w1 := hw1.symm
    clear hw1 H1
    go_wp2
    all_goals
      go_ret
      refine ⟨?_, rfl⟩
      have h9 := HW.out
      (repeat' split at h9)
      all_goals first | (exfalso; omega) | (subst h9; rfl)
  | true =>
    have hi1 : i + 1 < s.size := (T1.1 rfl).1
    have hi1I : (i : Int) + 1 < s.size := by omega
    rw [bA_get hi1] at hw
    cases t2 with
    | false =>
      clear H3
      simp only [Bool.false_eq_true, false_and, and_false, and_true, if_false] at hw
      have HW := hide hw
      clear hw T1
      go_enter Tryd.func24, Tryd.ntmps24
      go_wp2_with fail
      refine H1.out.mono ?_
      rintro x w1 ⟨rfl, hw1⟩
      obtain rfl : w = w1 := hw1.symm
      clear hw1 H1
      go_wp2_with fail
      refine H2.out.mono ?_
      rintro x w1 ⟨rfl, hw1⟩
      obtain rfl : w = w1 := hw1.symm
      clear hw1 H2
      go_wp2
      all_goals
        go_ret
        refine ⟨?_, rfl⟩
        have h9 := HW.out
        (repeat' split at h9)
        all_goals first | (exfalso; omega) | (subst h9; rfl)
    | true =>
      cases t3 with
      | false =>
        simp only [Bool.false_eq_true, false_and, and_false, true_and, and_true, if_false] at hw
        have HW := hide hw
        clear hw T1
        go_enter Tryd.func24, Tryd.ntmps24
        go_wp2_with fail
        refine H1.out.mono ?_
        rintro x w1 ⟨rfl, hw1⟩
        obtain rfl : w = w1 := hw1.symm
        clear hw1 H1
        go_wp2_with fail
        refine H2.out.mono ?_
        rintro x w1 ⟨rfl, hw1⟩
        obtain rfl : w = w1 := hw1.symm
        clear hw1 H2
        go_wp2_with fail
        refine H3.out.mono ?_
        rintro x w1 ⟨rfl, hw1⟩
        obtain rfl : w = w1 := hw1.symm
        clear hw1 H3
        go_wp2
        all_goals
          go_ret
          refine ⟨?_, rfl⟩
          have h9 := HW.out
          (repeat' split at h9)
          all_goals first | (exfalso; omega) | (subst h9; rfl)
      | true =>
        simp only [true_and, and_true] at hw
        have HW := hide hw
        clear hw T1
        go_enter Tryd.func24, Tryd.ntmps24
        go_wp2_with fail
        refine H1.out.mono ?_
        rintro x w1 ⟨rfl, hw1⟩
        obtain rfl : w = w1 := hw1.symm
        clear hw1 H1
        go_wp2_with fail
        refine H2.out.mono ?_
        rintro x w1 ⟨rfl, hw1⟩
        obtain rfl : w = w1 := hw1.symm
        clear hw1 H2
        go_wp2_with fail
        refine H3.out.mono ?_
        rintro x w1 ⟨rfl, hw1⟩
        obtain rfl : w = w1 := hw1.symm
        clear hw1 H3
        go_wp2
        all_goals
          go_ret
          refine ⟨?_, rfl⟩
          have h9 := HW.out
          (repeat' split at h9)
          all_goals first | (exfalso; omega) | (subst h9; rfl)
end Go.Proofs.YtpnacioliccglaaDoor
