/-
  The law's comparison of lists.
-/
import Derived.Test.YtdmlehbamdcjcaaHpAR
namespace Go.Proofs.Ytdmlehbamdcjcaa
open Go.RowKit
theorem neqR (w : World) (a0 a1 a2 a3 a4 : Int) : (binOp .neq 47 (.agg #[.int .i64 a0, .int .i64 a1, .int .u64 a2, .int .u64 a3, .int .i64 a4]) (.agg #[.int .i64 a0, .int .i64 a1, .int .u64 a2, .int .u64 a3, .int .i64 a4])).run Try.prog w = .ok (.bool false) w := by
  have hu : Try.prog.underlying 47 = some (.struct (Try.prog.fieldsOf 47)) := by simp [Program.fieldsOf, Try.underlying47]
  have hp : Try.prog.stoodInHeld 47 = false := by kernel_rfl
  rw [run_neq_struct, show (10000 : Nat) = 9998 + 1 + 1 from rfl, run_equalIn_struct w _ _ _ _ hu hp]
  simp only [Program.fieldsOf, Try.underlying47]
  simp [Op.eqFields, go_sem, Try.underlying3, Try.underlying45]
theorem eqlR (w : World) (a0 a1 a2 a3 a4 : Int) : (binOp .eql 47 (.agg #[.int .i64 a0, .int .i64 a1, .int .u64 a2, .int .u64 a3, .int .i64 a4]) (.agg #[.int .i64 a0, .int .i64 a1, .int .u64 a2, .int .u64 a3, .int .i64 a4])).run Try.prog w = .ok (.bool true) w := by
  have hu : Try.prog.underlying 47 = some (.struct (Try.prog.fieldsOf 47)) := by simp [Program.fieldsOf, Try.underlying47]
  have hp : Try.prog.stoodInHeld 47 = false := by kernel_rfl
  rw [run_eql_struct, show (10000 : Nat) = 9998 + 1 + 1 from rfl, run_equalIn_struct w _ _ _ _ hu hp]
  simp only [Program.fieldsOf, Try.underlying47]
  simp [Op.eqFields, go_sem, Try.underlying3, Try.underlying45]
set_option maxHeartbeats 800000 in
theorem sameR (a b : Option Addr) (n ca cb : Nat) (L : List Rc) (w : World) (hA : TRow layR w a n L) (hB : TRow layR w b n L) (hn : (n : Int) ≤ 9223372036854775000) :
    Calls Try.prog 19 #[.slice a n ca, .slice b n cb] w fun e w' => e = .returned (.bool true) ∧ Below w.heap.size w w' := by
  have hl := hA.len
  have H1 : Hid _ := hide hA
  have H2 : Hid _ := hide hB
  have HL : Hid _ := hide hl
  clear hA hB hl
  go_enter Try.func19, Try.ntmps19
  go_wp2
  go_loopw [5] (fun i wr => ∃ k : Nat, k ≤ n ∧ i = .int .i64 k ∧ Below w.heap.size w wr) (fun i _ => n - (intOf i).toNat)
  case atStart => exact ⟨0, Nat.zero_le _, rfl, Below.refl _ _⟩
  case round =>
    obtain ⟨k, hk, rfl, hw⟩ := hrel
    have A1 := H1.out.below hw
    have A2 := H2.out.below hw
    have HW : Hid _ := hide hw
    clear hw
    by_cases hlt : k < n
    · obtain ⟨x, hrk⟩ : ∃ r, L[k]? = some r := ⟨L[k]'(by rw [HL.out]; exact hlt), List.getElem?_eq_getElem _⟩
      obtain ⟨b1, o1, rfl, _, hc1⟩ := A1.at (by omega)
      obtain ⟨b2, o2, rfl, _, hc2⟩ := A2.at (by omega)
      have x0 := hc1 k x hrk 0 _ rfl; have y0 := hc2 k x hrk 0 _ rfl; have x1 := hc1 k x hrk 1 _ rfl; have y1 := hc2 k x hrk 1 _ rfl; have x2 := hc1 k x hrk 2 _ rfl; have y2 := hc2 k x hrk 2 _ rfl; have x3 := hc1 k x hrk 3 _ rfl; have y3 := hc2 k x hrk 3 _ rfl; have x4 := hc1 k x hrk 4 _ rfl; have y4 := hc2 k x hrk 4 _ rfl
      obtain ⟨a0, a1, a2, a3, a4⟩ := x
      simp only [layR, Nat.add_zero] at x0 y0 x1 y1 x2 y2 x3 y3 x4 y4
      have hq : ∀ W' : World, (binOp .neq 47 (.agg #[.int .i64 a0, .int .i64 a1, .int .u64 a2, .int .u64 a3, .int .i64 a4]) (.agg #[.int .i64 a0, .int .i64 a1, .int .u64 a2, .int .u64 a3, .int .i64 a4])).run Try.prog W' = .ok (.bool false) W' := fun W' => neqR W' _ _ _ _ _
      have hltI : (k : Int) < (n : Int) := by omega
      clear A1 A2 hc1 hc2 hrk
      go_wp2
      go_quiet (fail)
      go_wp2
      exact ⟨⟨k + 1, by omega, by go_num, below_drewN HW.out _⟩, by simp [intOf]; omega⟩
    · clear A1 A2
      go_wp2
      go_ret
      exact ⟨rfl, HW.out⟩
end Go.Proofs.Ytdmlehbamdcjcaa
