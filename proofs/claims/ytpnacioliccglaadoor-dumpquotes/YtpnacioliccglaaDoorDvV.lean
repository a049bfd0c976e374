/-
  What is laid in the five variables of DumpQuotes.
-/
import Derived.Test.YtpnacioliccglaaDoorDvP
import Derived.Lib.LaidU8T
import Derived.Stop.LaidErr
import Derived.LaidSub
import Derived.Lib.LaidTab
import Derived.Test.YtpnacioliccglaaDoorRows
namespace Go.Proofs.YtpnacioliccglaaDoor
open Go.ChangeShapes Go.WideShapes Go.RowKit Go.Stop Go.Extern.Stop
set_option linter.unusedVariables false
abbrev laidQ : List (String × DataW Unit) := [("unicode/utf8.acceptRanges", Rows.laid_unicode_utf8_acceptRanges), ("errors.errorType", Rows.laid_errors_errorType), ("strconv.ErrSyntax", Rows.laid_strconv_ErrSyntax), ("hindsight/dump.errLine", Rows.laid_hindsight_dump_errLine), ("unicode/utf8.first", Rows.laid_unicode_utf8_first)]
theorem qplain_of {l : List (String × DataW Unit)} {W : World} (hl : (l.all fun x => x.2.handleName?.isNone) = true) (h : laidMetH Tryd.prog l W) : laidMet Tryd.prog l W := by
  rw [MakeChecks.laidMetH_plain _ _ _ hl] at h
  exact h
theorem fAcc : laidQ.filter (fun x => x.1 == "unicode/utf8.acceptRanges") = [("unicode/utf8.acceptRanges", Lib.acceptData)] := by kernel_rfl
theorem fFst : laidQ.filter (fun x => x.1 == "unicode/utf8.first") = [("unicode/utf8.first", Lib.firstData)] := by kernel_rfl
theorem fSyn : laidQ.filter (fun x => x.1 == "strconv.ErrSyntax") = [("strconv.ErrSyntax", .iface "*errors.errorString" (.ptr (.agg [.lit (.string [105, 110, 118, 97, 108, 105, 100, 32, 115, 121, 110, 116, 97, 120])])))] := by kernel_rfl
theorem fErr : laidQ.filter (fun x => x.1 == "hindsight/dump.errLine") = [("hindsight/dump.errLine", .iface "*errors.errorString" (.ptr (.agg [.lit (.string [110, 111, 32, 108, 105, 110, 101])])))] := by kernel_rfl
theorem gSyn : Tryd.prog.globalNamed "strconv.ErrSyntax" = some 3 := by kernel_rfl
theorem gErr : Tryd.prog.globalNamed "hindsight/dump.errLine" = some 0 := by kernel_rfl
theorem tSyn : (Tryd.prog.globals[3]?).map (·.type) = some 48 := by kernel_rfl
theorem tErr : (Tryd.prog.globals[0]?).map (·.type) = some 48 := by kernel_rfl
theorem starES : "*" ++ "errors.errorString" = "*errors.errorString" := by decide
theorem rowES (u : TypeId) (h : Tryd.prog.typeName? 3 u = some "*errors.errorString") : u = 187 :=
  typeName_ptr_named (nm := "errors.errorString") (by rw [starES]; kernel_rfl) (by kernel_rfl) (by decide) u (by rw [starES]; exact h)
theorem cES : Tryd.prog.cellsOf 206 = 1 := by kernel_rfl
theorem cStr : Tryd.prog.cellsOf 9 = 1 := by kernel_rfl
theorem sn_of_laid {W : World} (h : laidMetH Tryd.prog laidQ W) : ∃ (vE : Value) (a : Addr), Sn 187 vE a W := by
  have hA := h.filter (fun x => x.1 == "unicode/utf8.acceptRanges")
  have hF := h.filter (fun x => x.1 == "unicode/utf8.first")
  have hS := h.filter (fun x => x.1 == "strconv.ErrSyntax")
  have hE := h.filter (fun x => x.1 == "hindsight/dump.errLine")
  rw [fAcc] at hA
  rw [fFst] at hF
  rw [fSyn] at hS
  rw [fErr] at hE
  have hA' := qplain_of (by kernel_rfl) hA
  have hF' := qplain_of (by kernel_rfl) hF
  have hS' := qplain_of (by kernel_rfl) hS
  have hE' := qplain_of (by kernel_rfl) hE
  obtain ⟨a1, s1, hv1, _, _, _⟩ := laid_sentinel hS' gSyn tSyn Tryd.underlying48 rowES Tryd.underlying187 Tryd.underlying206 rfl rfl Tryd.underlying9 cES cStr
  obtain ⟨a0, s0, hv0, _, _, _⟩ := laid_sentinel hE' gErr tErr Tryd.underlying48 rowES Tryd.underlying187 Tryd.underlying206 rfl rfl Tryd.underlying9 cES cStr
  have hT : Lib.Utf8Tabs 6 7 W := utf8Tabs_of_readsT (U8Types.of196 Tryd.lays196) ⟨by kernel_rfl, by kernel_rfl, by kernel_rfl, by kernel_rfl, by kernel_rfl, by kernel_rfl, by kernel_rfl⟩ (Lib.laidMet.reads hF' (.head _)) (Lib.laidMet.reads hA' (.head _))
  refine ⟨.pointer (some a1), a0, ⟨?_, ?_, hT⟩⟩
  · rw [World.var?_cell gErr hv0 0]; rfl
  · rw [World.var?_cell gSyn hv1 0]; rfl
end Go.Proofs.YtpnacioliccglaaDoor
