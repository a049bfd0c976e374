/-
  What is laid in the five tables.
-/
import Derived.Test.YtbflkdbimgakpaaDoorDuG
import Derived.Test.YtbflkdbimgakpaaDoorEvtL
import Derived.LaidSub
import Derived.Lib.LaidTab
namespace Go.Proofs.YtbflkdbimgakpaaDoor
open Go.ChangeShapes Go.WideShapes Go.ChangeAt Go.RowKit
abbrev laid5 : List (String × DataW Unit) := [("math/bits.deBruijn32tab", Rows.laid_math_bits_deBruijn32tab), ("math/bits.deBruijn64tab", Rows.laid_math_bits_deBruijn64tab), ("internal/strconv.uint64pow10", Rows.laid_internal_strconv_uint64pow10), ("hindsight/event.kinds", Rows.laid_hindsight_event_kinds), ("hindsight/event.ranges", Rows.laid_hindsight_event_ranges)]
def debTab : List Int := [0, 1, 56, 2, 57, 49, 28, 3, 61, 58, 42, 50, 38, 29, 17, 4, 62, 47, 59, 36, 45, 43, 51, 22, 53, 39, 33, 30, 24, 18, 12, 5, 63, 55, 48, 27, 60, 41, 37, 16, 46, 35, 44, 21, 52, 32, 23, 11, 54, 26, 40, 15, 34, 20, 31, 10, 25, 14, 19, 9, 13, 8, 7, 6]
theorem deb_data : (Rows.laid_math_bits_deBruijn64tab : DataW Unit) = Lib.tabData .u8 debTab := rfl
theorem pow_data : (Rows.laid_internal_strconv_uint64pow10 : DataW Unit) = Lib.tabData .u64 Lib.pow10Tab := by kernel_rfl
theorem gDeb : Tryd.prog.globalNamed "math/bits.deBruijn64tab" = some 10 := by kernel_rfl
theorem tDeb : (Tryd.prog.globals[10]?).map (·.type) = some 186 := by kernel_rfl
theorem tPow : (Tryd.prog.globals[5]?).map (·.type) = some 173 := by kernel_rfl
theorem c8 : Tryd.prog.cellsOf 5 = 1 := by kernel_rfl
theorem c64 : Tryd.prog.cellsOf 22 = 1 := by kernel_rfl
theorem cDeb : Tryd.prog.cellsOf 186 = 64 := by kernel_rfl
theorem cPow : Tryd.prog.cellsOf 173 = 20 := by kernel_rfl
theorem plain_of {l : List (String × DataW Unit)} {W : World} (hl : (l.all fun x => x.2.handleName?.isNone) = true) (h : laidMetH Tryd.prog l W) : laidMet Tryd.prog l W := by
  rw [MakeChecks.laidMetH_plain _ _ _ hl] at h
  exact h
theorem f2 : laid5.filter (fun x => x.1 == "hindsight/event.kinds" || x.1 == "hindsight/event.ranges") = E6.laid2 := by kernel_rfl
theorem fP : laid5.filter (fun x => x.1 == "internal/strconv.uint64pow10") = [("internal/strconv.uint64pow10", Lib.tabData .u64 Lib.pow10Tab)] := by kernel_rfl
theorem fD : laid5.filter (fun x => x.1 == "math/bits.deBruijn64tab") = [("math/bits.deBruijn64tab", Lib.tabData .u8 debTab)] := by kernel_rfl
theorem dk_of_laid {W : World} (h : laidMetH Tryd.prog laid5 W) : Dk W := by
  have h2 := h.filter (fun x => x.1 == "hindsight/event.kinds" || x.1 == "hindsight/event.ranges")
  have hP := h.filter (fun x => x.1 == "internal/strconv.uint64pow10")
  have hD := h.filter (fun x => x.1 == "math/bits.deBruijn64tab")
  rw [f2] at h2
  rw [fP] at hP
  rw [fD] at hD
  have tP := Lib.tabIs_of_head gPow tPow Tryd.underlying173 Tryd.underlying22 c64 cPow (plain_of (by kernel_rfl) hP)
  have tD := Lib.tabIs_of_head gDeb tDeb Tryd.underlying186 Tryd.underlying5 c8 cDeb (plain_of (by kernel_rfl) hD)
  have hc : W.cell? ⟨10, 15, none⟩ = some (.int .u8 4) := tD.cell gDeb 15 (by decide)
  have hs := World.block_lt_of_cell? W _ hc
  exact ⟨E6.kr_of_laid h2, hs, tP, hc⟩
end Go.Proofs.YtbflkdbimgakpaaDoor
