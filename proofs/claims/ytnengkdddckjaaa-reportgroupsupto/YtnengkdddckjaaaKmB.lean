/-
  Keys: texts, numbers, pairs of numbers; numberOf.
-/
import Derived.Test.YtnengkdddckjaaaKmA
import Derived.Test.YtnengkdddckjaaaSlX
namespace Go.Proofs.Ytnengkdddckjaaa
open Go.RowKit Go.Maps
set_option linter.unusedVariables false
theorem skey_inj25 {a b : ByteArray} (h : Value.string a = Value.string b) : a = b := by
  injection h
def yS : KY ByteArray where
  kt := 9
  law := string_keyed Try.underlying9
  val s := .string s
  key s := .string s.data.toList
  ok s := s.size ≤ maxLen
  kof s h := by
    exact Go.WideMaps.keyOf_string_mk Try.underlying9 h
  lit s := by trivial
  vinj a b h := skey_inj25 h
def yI : KY Int where
  kt := 3
  law := int_keyed Try.underlying3
  val x := .int .i64 x
  key x := .int .i64 x
  ok x := -9223372036854775808 ≤ x ∧ x ≤ 9223372036854775807
  kof x h := keyOf_int_mk Try.underlying3 (WalkArith.wf_i64 (by omega))
  lit x := by trivial
  vinj a b h := by injection h
theorem laidOutT : laidOutB Try.prog = true := by kernel_rfl
theorem rowP : (51 : TypeId) < Try.prog.types.size := of_decide_eq_true (by kernel_rfl)
theorem cellsP : Try.prog.cellsOf 51 = 2 := by kernel_rfl
theorem cellsT3 : Try.prog.cellsOf 3 = 1 := by kernel_rfl
theorem typeP : Try.prog.keyType 51 = true := by kernel_rfl
theorem lawP : Keyed Try.prog 51 := by
  refine Keyed.of_law (deep_law_laid laidOutT (m := 2) ?_ rowP ?_ ?_)
  · omega
  · kernel_rfl
  · rw [Try.underlying51]
theorem litsP (d : Nat) {a b : Int} (w1 : (Lit.int .i64 a).wf = true) (w2 : (Lit.int .i64 b).wf = true) : Try.prog.keyLits (d + 2) 51 [.int .i64 a, .int .i64 b] = some [.int .i64 a, .int .i64 b] := by
  simp [Program.keyLits, Try.underlying51, Try.underlying3, cellsP, cellsT3, w1, w2, show List.range 2 = [0, 1] from rfl]
def yP : KY (Int × Int) where
  kt := 51
  law := lawP
  val p := .agg #[.int .i64 p.1, .int .i64 p.2]
  key p := .string (keyBytes [.int .i64 p.1, .int .i64 p.2])
  ok p := (-9223372036854775808 ≤ p.1 ∧ p.1 ≤ 9223372036854775807) ∧ (-9223372036854775808 ≤ p.2 ∧ p.2 ≤ 9223372036854775807)
  kof p h := by
    have w1 : (Lit.int .i64 p.1).wf = true := WalkArith.wf_i64 (by omega)
    have w2 : (Lit.int .i64 p.2).wf = true := WalkArith.wf_i64 (by omega)
    have hf : (Value.agg #[.int .i64 p.1, .int .i64 p.2]).formed Try.prog 51 = true := by simp [Value.formed, Try.underlying51, cellsP]
    have hk : Try.prog.keyLits (Try.prog.types.size + 1) 51 (Value.agg #[.int .i64 p.1, .int .i64 p.2]).cells.toList = some [.int .i64 p.1, .int .i64 p.2] := by
      have hs : Try.prog.types.size + 1 = (Try.prog.types.size - 1) + 2 := by have : 0 < Try.prog.types.size := Nat.lt_of_le_of_lt (Nat.zero_le _) rowP; omega
      rw [hs]
      exact litsP _ w1 w2
    unfold keyOf
    rw [Try.underlying51, typeP, hf, hk]
    rfl
  lit p := by simp [WideAt.IsKeyLit]
  vinj a b h := by
    simp at h
    exact Prod.ext h.1 h.2
end Go.Proofs.Ytnengkdddckjaaa
