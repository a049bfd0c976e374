/-
  A start for the witness of DumpQuotes: the great table of utf8 is laid, the rest is the door's.
-/
import Derived.Test.YtpnacioliccglaaDoorDvV
import Derived.LaidMore
import Derived.Lay
import Derived.ProofKit
namespace Go.Proofs.YtpnacioliccglaaDoor
open Go.RowKit
set_option linter.unusedVariables false
noncomputable def w0Q (os : Os) : World := (World.doorLaid Tryd.prog 120 os).layVars Tryd.prog [("unicode/utf8.first", Go.Pinned.utf8First)]
noncomputable def wQ (os : Os) : World := ((w0Q os).forCall (fun _ _ => 0) ⟨#[], #[.string ⟨#[]⟩, .string ⟨#[]⟩], []⟩).memory
theorem wQ_os (os : Os) : (w0Q os).os = os := World.layVars_os _ _ _
def bQ : List Nat := [0, 3, 7] ++ (List.range 18).drop 11
theorem fitQ (os : Os) : (World.doorLaid Tryd.prog 120 os).layFits Tryd.prog [("unicode/utf8.first", Go.Pinned.utf8First)] bQ = true := by kernel_rfl
theorem ifcQ (os : Os) : (World.doorLaid Tryd.prog 120 os).layIfaces Tryd.prog [("unicode/utf8.first", Go.Pinned.utf8First)] (wQ os) = true := by kernel_rfl
theorem runQ (os : Os) : LaidIn Tryd.prog (wQ os) [("unicode/utf8.acceptRanges", Rows.laid_unicode_utf8_acceptRanges), ("strconv.ErrSyntax", Rows.laid_strconv_ErrSyntax), ("hindsight/dump.errLine", Rows.laid_hindsight_dump_errLine)] bQ :=
  LaidIn.of_run bQ 8 (by kernel_rfl) (by kernel_rfl) (by kernel_rfl) (by kernel_rfl)
theorem metQ (os : Os) : laidMetH Tryd.prog laidQ (wQ os) :=
  laidMetH_of_parts3 (fuel := 8) (laidMet_layVars (w0 := World.doorLaid Tryd.prog 120 os) ["unicode/utf8.first"] bQ (by kernel_rfl) (fitQ os) (ifcQ os) (runQ os)) (by kernel_rfl) (by kernel_rfl)
end Go.Proofs.YtpnacioliccglaaDoor
