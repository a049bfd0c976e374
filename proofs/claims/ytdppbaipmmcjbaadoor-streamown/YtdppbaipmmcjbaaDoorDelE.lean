/-
  States and records that are compared; DeltaPuts.
-/
import Derived.Test.YtdppbaipmmcjbaaDoorDelD
namespace Go.Proofs.YtdppbaipmmcjbaaDoor
open Go.RowKit
theorem eql_st (w : World) (a b c d e f : Int) : (binOp .eql 69 (.agg #[.int .i64 a, .int .u64 b, .int .i64 c]) (.agg #[.int .i64 d, .int .u64 e, .int .i64 f])).run Tryd.prog w = .ok (.bool (a == d && (b == e && c == f))) w := by
  have hu : Tryd.prog.underlying 69 = some (.struct (Tryd.prog.fieldsOf 69)) := by simp [Program.fieldsOf, Tryd.underlying69]
  have hp : Tryd.prog.stoodInHeld 69 = false := by kernel_rfl
  rw [run_eql_struct, show (10000 : Nat) = 9998 + 1 + 1 from rfl, run_equalIn_struct w _ _ _ _ hu hp]
  simp only [Program.fieldsOf, Tryd.underlying69]
  by_cases h1 : a = d
  · by_cases h2 : b = e
    · by_cases h3 : c = f <;> simp [Op.eqFields, go_sem, Tryd.underlying3, Tryd.underlying46, h1, h2, h3]
    · simp [Op.eqFields, go_sem, Tryd.underlying3, Tryd.underlying46, h1, h2]
  · simp [Op.eqFields, go_sem, Tryd.underlying3, h1]
theorem eql_rc (w : World) (a b c d e f g h i j : Int) : (binOp .eql 48 (.agg #[.int .i64 a, .int .i64 b, .int .u64 c, .int .u64 d, .int .i64 e]) (.agg #[.int .i64 f, .int .i64 g, .int .u64 h, .int .u64 i, .int .i64 j])).run Tryd.prog w = .ok (.bool (a == f && (b == g && (c == h && (d == i && e == j))))) w := by
  have hu : Tryd.prog.underlying 48 = some (.struct (Tryd.prog.fieldsOf 48)) := by simp [Program.fieldsOf, Tryd.underlying48]
  have hp : Tryd.prog.stoodInHeld 48 = false := by kernel_rfl
  rw [run_eql_struct, show (10000 : Nat) = 9998 + 1 + 1 from rfl, run_equalIn_struct w _ _ _ _ hu hp]
  simp only [Program.fieldsOf, Tryd.underlying48]
  by_cases h1 : a = f
  · by_cases h2 : b = g
    · by_cases h3 : c = h
      · by_cases h4 : d = i
        · by_cases h5 : e = j <;> simp [Op.eqFields, go_sem, Tryd.underlying3, Tryd.underlying46, h1, h2, h3, h4, h5]
        · simp [Op.eqFields, go_sem, Tryd.underlying3, Tryd.underlying46, h1, h2, h3, h4]
      · simp [Op.eqFields, go_sem, Tryd.underlying3, Tryd.underlying46, h1, h2, h3]
    · simp [Op.eqFields, go_sem, Tryd.underlying3, h1, h2]
  · simp [Op.eqFields, go_sem, Tryd.underlying3, h1]
end Go.Proofs.YtdppbaipmmcjbaaDoor
