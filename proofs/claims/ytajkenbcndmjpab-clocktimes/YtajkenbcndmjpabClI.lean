/-
  The law's own same and num.
-/
import Derived.Test.YtajkenbcndmjpabClH
namespace Go.Proofs.Ytajkenbcndmjpab
open Go.RowKit
theorem neqT (w : World) (a b c d : Int) : (binOp .neq 43 (.agg #[.int .i64 a, .int .i64 b]) (.agg #[.int .i64 c, .int .i64 d])).run Try.prog w = .ok (.bool (!decide ((⟨a, b⟩ : Tk) = ⟨c, d⟩))) w := by
  have hu : Try.prog.underlying 43 = some (.struct (Try.prog.fieldsOf 43)) := by simp [Program.fieldsOf, Try.underlying43]
  have hp : Try.prog.stoodInHeld 43 = false := by kernel_rfl
  rw [run_neq_struct, show (10000 : Nat) = 9998 + 1 + 1 from rfl, run_equalIn_struct w _ _ _ _ hu hp]
  simp only [Program.fieldsOf, Try.underlying43]
  by_cases h1 : a = c
  · by_cases h2 : b = d
    · simp [Op.eqFields, go_sem, Try.underlying3, h1, h2]
    · simp [Op.eqFields, go_sem, Try.underlying3, h1, h2]
  · simp [Op.eqFields, go_sem, Try.underlying3, h1]
theorem num_any (e : Int) (w : World) : Calls Try.prog 16 #[.int .i64 e] w fun r w' => r = .returned (.int .i64 e) ∧ w' = w := by
  go_enter Try.func16, Try.ntmps16
  go_wp2
  go_ret
  exact ⟨rfl, rfl⟩
theorem take_next {α : Type} {A : List α} {k : Nat} {x : α} (h : A[k]? = some x) : A.take (k + 1) = A.take k ++ [x] := by
  rw [List.take_add_one, h]; rfl
set_option maxRecDepth 8000 in
set_option maxHeartbeats 800000 in
theorem same_any (a b : Option Addr) (na ca nb cb : Nat) (A B : List Tk) (w : World) (hA : TRow layT w a na A) (hB : TRow layT w b nb B) (hn : (na : Int) ≤ 9223372036854775000) :
    Calls Try.prog 12 #[.slice a na ca, .slice b nb cb] w fun e w' => e = .returned (.bool (decide (A = B))) ∧ Below w.heap.size w w' := by
  by_cases hne : na = nb
  · subst hne
    obtain ⟨R, hR⟩ : ∃ R, decide (A = B) = R := ⟨_, rfl⟩
    rw [hR]
    have H1 := hide hA
    have H2 := hide hB
    have HR := hide hR
    clear hA hB hR
    go_enter Try.func12, Try.ntmps12
    go_wp2
    go_loopw [5] (fun i wr => ∃ k : Nat, k ≤ na ∧ i = .int .i64 k ∧ Hid (Below w.heap.size w wr ∧ A.take k = B.take k)) (fun i _ => na - (intOf i).toNat)
    case atStart => exact ⟨0, Nat.zero_le _, rfl, hide ⟨Below.refl _ _, rfl⟩⟩
    case round =>
      obtain ⟨k, hk, rfl, HW⟩ := hrel
      by_cases hlt : k < na
      · obtain ⟨b1, o1, x, rfl, hx, _, x0, x1⟩ := (H1.out.below HW.out.1).some hlt
        obtain ⟨b2, o2, y, rfl, hy, _, y0, y1⟩ := (H2.out.below HW.out.1).some hlt
        have hltI : (k : Int) < (na : Int) := by omega
        have nq := fun W => neqT W x.g x.t y.g y.t
        have HX := hide (And.intro hx hy)
        by_cases hxy : x = y
        · have HE : Hid (A.take (k + 1) = B.take (k + 1)) := hide (by rw [take_next hx, take_next hy, HW.out.2, hxy])
          have e1 : (!decide ((⟨x.g, x.t⟩ : Tk) = ⟨y.g, y.t⟩)) = false := by rw [hxy]; simp
          rw [e1] at nq
          clear hx hy hxy e1
          go_wp2_with fail
          go_quiet (fail)
          go_wp2
          exact ⟨⟨k + 1, by omega, by go_num, hide ⟨below_drewN HW.out.1 _, HE.out⟩⟩, by simp [intOf]; omega⟩
        · have HE : Hid (R = false) := hide (by
            rw [← HR.out]
            apply decide_eq_false
            intro e
            rw [e, hy] at hx
            cases hx
            exact hxy rfl)
          have e1 : (!decide ((⟨x.g, x.t⟩ : Tk) = ⟨y.g, y.t⟩)) = true := by
            have : ¬ (⟨x.g, x.t⟩ : Tk) = ⟨y.g, y.t⟩ := hxy
            simp [this]
          rw [e1] at nq
          clear hx hy hxy e1
          go_wp2_with fail
          go_quiet (fail)
          go_wp2
          go_ret
          exact ⟨by rw [HE.out]; rfl, below_drewN HW.out.1 _⟩
      · have HE : Hid (R = true) := hide (by
          rw [← HR.out]
          apply decide_eq_true
          have h := HW.out.2
          rw [List.take_of_length_le (by rw [H1.out.len]; omega), List.take_of_length_le (by rw [H2.out.len]; omega)] at h
          exact h)
        go_wp2
        go_ret
        exact ⟨by rw [HE.out]; rfl, HW.out.1⟩
  · have hd : decide (A = B) = false := decide_eq_false (fun e => by rw [← hA.len, ← hB.len, e] at hne; exact hne rfl)
    rw [hd]
    have hneI : ((na : Int) != (nb : Int)) = true := by simp; omega
    clear hA hB hd
    go_enter Try.func12, Try.ntmps12
    go_wp2
    go_ret
    exact ⟨rfl, Below.refl _ _⟩
end Go.Proofs.Ytajkenbcndmjpab
