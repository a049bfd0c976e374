/-
  States and records that are compared; DeltaPuts.
-/
import Derived.Test.YtgecdnmgifcghaaDoorDelD
namespace Go.Proofs.YtgecdnmgifcghaaDoor
open Go.RowKit
theorem eql_st (w : World) (a b c d e f : Int) : (binOp .eql 26 (.agg #[.int .i64 a, .int .u64 b, .int .i64 c]) (.agg #[.int .i64 d, .int .u64 e, .int .i64 f])).run Tryd.prog w = .ok (.bool (a == d && (b == e && c == f))) w := by
  have hu : Tryd.prog.underlying 26 = some (.struct (Tryd.prog.fieldsOf 26)) := by simp [Program.fieldsOf, Tryd.underlying26]
  have hp : Tryd.prog.stoodInHeld 26 = false := by kernel_rfl
  rw [run_eql_struct, show (10000 : Nat) = 9998 + 1 + 1 from rfl, run_equalIn_struct w _ _ _ _ hu hp]
  simp only [Program.fieldsOf, Tryd.underlying26]
  by_cases h1 : a = d
  · by_cases h2 : b = e
    · by_cases h3 : c = f <;> simp [Op.eqFields, go_sem, Tryd.underlying3, Tryd.underlying23, h1, h2, h3]
    · simp [Op.eqFields, go_sem, Tryd.underlying3, Tryd.underlying23, h1, h2]
  · simp [Op.eqFields, go_sem, Tryd.underlying3, h1]
theorem eql_rc (w : World) (a b c d e f g h i j : Int) : (binOp .eql 32 (.agg #[.int .i64 a, .int .i64 b, .int .u64 c, .int .u64 d, .int .i64 e]) (.agg #[.int .i64 f, .int .i64 g, .int .u64 h, .int .u64 i, .int .i64 j])).run Tryd.prog w = .ok (.bool (a == f && (b == g && (c == h && (d == i && e == j))))) w := by
  have hu : Tryd.prog.underlying 32 = some (.struct (Tryd.prog.fieldsOf 32)) := by simp [Program.fieldsOf, Tryd.underlying32]
  have hp : Tryd.prog.stoodInHeld 32 = false := by kernel_rfl
  rw [run_eql_struct, show (10000 : Nat) = 9998 + 1 + 1 from rfl, run_equalIn_struct w _ _ _ _ hu hp]
  simp only [Program.fieldsOf, Tryd.underlying32]
  by_cases h1 : a = f
  · by_cases h2 : b = g
    · by_cases h3 : c = h
      · by_cases h4 : d = i
        · by_cases h5 : e = j <;> simp [Op.eqFields, go_sem, Tryd.underlying3, Tryd.underlying23, h1, h2, h3, h4, h5]
        · simp [Op.eqFields, go_sem, Tryd.underlying3, Tryd.underlying23, h1, h2, h3, h4]
      · simp [Op.eqFields, go_sem, Tryd.underlying3, Tryd.underlying23, h1, h2, h3]
    · simp [Op.eqFields, go_sem, Tryd.underlying3, h1, h2]
  · simp [Op.eqFields, go_sem, Tryd.underlying3, h1]
end Go.Proofs.YtgecdnmgifcghaaDoor
