/-
  ReportMatches.
-/
import Derived.Test.YtnengkdddckjaaaDoorGlB
import Derived.Test.YtnengkdddckjaaaDoorGlC
namespace Go.Proofs.YtnengkdddckjaaaDoor
open Go.RowKit Go.Maps
set_option linter.unusedVariables false
theorem match_any (P T : ByteArray) (w : World) (hm : Mx w) (hp : P.size ≤ 1073741824) (ht : T.size ≤ 1073741824) :
    Calls Tryd.prog 5 #[.string P, .string T] w fun e w' => e = .returned (.bool (glB P.data.toList T.data.toList)) ∧ ∃ n, w' = w.drewN n := by
  have h := match_l P.data.toList T.data.toList w hm (by rw [← Lib.size_eq]; exact hp) (by rw [← Lib.size_eq]; exact ht)
  rw [Lib.mk_data, Lib.mk_data] at h
  exact h
theorem matches_any (P T : ByteArray) (w : World) (hm : Mx w) (hp : P.size ≤ 1073741824) (ht : T.size ≤ 1073741824) :
    Calls Tryd.prog 3 #[.string P, .string T] w fun e w' => e = .returned (.bool true) ∧ Below w.heap.size w w' := by
  have HA := hide (match_any P T w hm hp ht)
  have HB := hide (fun n => rmatch_any P T (w.drewN n) hp ht)
  generalize glB P.data.toList T.data.toList = R at HA HB
  clear hm hp ht
  go_enter Tryd.func3, Tryd.ntmps3
  go_wp2_with fail
  refine HA.out.mono ?_
  rintro x w1 ⟨rfl, n1, rfl⟩
  go_wp2_with fail
  refine (HB.out n1).mono ?_
  rintro x w1 ⟨rfl, hb⟩
  have hRR : (R == R) = true := by simp
  go_wp2
  go_ret
  exact ⟨by first | rfl | (simp [hRR]), (below_drewN (Below.refl _ _) n1).trans (by have h9 := hb; exact h9)⟩
end Go.Proofs.YtnengkdddckjaaaDoor
