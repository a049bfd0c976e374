/-
  The law's comparison of lists.
-/
import Derived.Test.YtdmlehbamdcjcaaHpAI
namespace Go.Proofs.Ytdmlehbamdcjcaa
open Go.RowKit
theorem neqI (w : World) (a0 a1 : Int) : (binOp .neq 27 (.agg #[.int .i64 a0, .int .i64 a1]) (.agg #[.int .i64 a0, .int .i64 a1])).run Try.prog w = .ok (.bool false) w := by
  have hu : Try.prog.underlying 27 = some (.struct (Try.prog.fieldsOf 27)) := by simp [Program.fieldsOf, Try.underlying27]
  have hp : Try.prog.stoodInHeld 27 = false := by kernel_rfl
  rw [run_neq_struct, show (10000 : Nat) = 9998 + 1 + 1 from rfl, run_equalIn_struct w _ _ _ _ hu hp]
  simp only [Program.fieldsOf, Try.underlying27]
  simp [Op.eqFields, go_sem, Try.underlying3]
theorem eqlI (w : World) (a0 a1 : Int) : (binOp .eql 27 (.agg #[.int .i64 a0, .int .i64 a1]) (.agg #[.int .i64 a0, .int .i64 a1])).run Try.prog w = .ok (.bool true) w := by
  have hu : Try.prog.underlying 27 = some (.struct (Try.prog.fieldsOf 27)) := by simp [Program.fieldsOf, Try.underlying27]
  have hp : Try.prog.stoodInHeld 27 = false := by kernel_rfl
  rw [run_eql_struct, show (10000 : Nat) = 9998 + 1 + 1 from rfl, run_equalIn_struct w _ _ _ _ hu hp]
  simp only [Program.fieldsOf, Try.underlying27]
  simp [Op.eqFields, go_sem, Try.underlying3]
set_option maxHeartbeats 800000 in
theorem sameI (a b : Option Addr) (n ca cb : Nat) (L : List It) (w : World) (hA : TRow layI w a n L) (hB : TRow layI w b n L) (hn : (n : Int) ≤ 9223372036854775000) :
    Calls Try.prog 12 #[.slice a n ca, .slice b n cb] w fun e w' => e = .returned (.bool true) ∧ Below w.heap.size w w' := by
  have hl := hA.len
  have H1 : Hid _ := hide hA
  have H2 : Hid _ := hide hB
  have HL : Hid _ := hide hl
  clear hA hB hl
  go_enter Try.func12, Try.ntmps12
  go_wp2
  go_loopw [5] (fun i wr => ∃ k : Nat, k ≤ n ∧ i = .int .i64 k ∧ Below w.heap.size w wr) (fun i _ => n - (intOf i).toNat)
  case atStart => exact ⟨0, Nat.zero_le _, rfl, Below.refl _ _⟩
  case round =>
    obtain ⟨k, hk, rfl, hw⟩ := hrel
    have A1 := H1.out.below hw
    have A2 := H2.out.below hw
    have HW : Hid _ := hide hw
    clear hw
    by_cases hlt : k < n
    · obtain ⟨x, hrk⟩ : ∃ r, L[k]? = some r := ⟨L[k]'(by rw [HL.out]; exact hlt), List.getElem?_eq_getElem _⟩
      obtain ⟨b1, o1, rfl, _, hc1⟩ := A1.at (by omega)
      obtain ⟨b2, o2, rfl, _, hc2⟩ := A2.at (by omega)
      have x0 := hc1 k x hrk 0 _ rfl; have y0 := hc2 k x hrk 0 _ rfl; have x1 := hc1 k x hrk 1 _ rfl; have y1 := hc2 k x hrk 1 _ rfl
      obtain ⟨a0, a1⟩ := x
      simp only [layI, Nat.add_zero] at x0 y0 x1 y1
      have hq : ∀ W' : World, (binOp .neq 27 (.agg #[.int .i64 a0, .int .i64 a1]) (.agg #[.int .i64 a0, .int .i64 a1])).run Try.prog W' = .ok (.bool false) W' := fun W' => neqI W' _ _
      have hltI : (k : Int) < (n : Int) := by omega
      clear A1 A2 hc1 hc2 hrk
      go_wp2
      go_quiet (fail)
      go_wp2
      exact ⟨⟨k + 1, by omega, by go_num, below_drewN HW.out _⟩, by simp [intOf]; omega⟩
    · clear A1 A2
      go_wp2
      go_ret
      exact ⟨rfl, HW.out⟩
end Go.Proofs.Ytdmlehbamdcjcaa
