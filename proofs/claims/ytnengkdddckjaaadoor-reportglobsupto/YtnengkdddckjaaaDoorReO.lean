/-
  What the statements' premises give: the variable that the cutting reads; a start for the witness.
-/
import Derived.Test.YtnengkdddckjaaaDoorGlB
import Derived.Lib.LaidU8T
import Derived.LaidSub
import Derived.Lib.LaidTab
import Derived.LaidMore
import Derived.Lay
import Derived.ProofKit
namespace Go.Proofs.YtnengkdddckjaaaDoor
open Go.ChangeShapes Go.WideShapes Go.RowKit
set_option linter.unusedVariables false
theorem mx_of_shape {w : World} (h : w.ShapedOpen Tryd.prog) : Mx w := Tryd.laysM145.s1_3 w h
abbrev laidQ : List (String × DataW Unit) := [("unicode/utf8.acceptRanges", Rows.laid_unicode_utf8_acceptRanges), ("unicode/utf8.first", Rows.laid_unicode_utf8_first)]
noncomputable def w0Q (os : Os) : World := (World.doorLaid Tryd.prog 120 os).layVars Tryd.prog [("unicode/utf8.first", Go.Pinned.utf8First)]
theorem wQ_os (os : Os) : (w0Q os).os = os := World.layVars_os _ _ _
def bQ : List Nat := [2]
theorem fitQ (os : Os) : (World.doorLaid Tryd.prog 120 os).layFits Tryd.prog [("unicode/utf8.first", Go.Pinned.utf8First)] bQ = true := by kernel_rfl
end Go.Proofs.YtnengkdddckjaaaDoor
