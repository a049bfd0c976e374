/-
  HeapOwn: regions in a row whose operations only read, over a frame that is known by its slots alone.
-/
import Derived.Test.YtdmlehbamdcjcabHpB
namespace Go.Proofs.Ytdmlehbamdcjcab
open Go.RowKit
structure Fit (A : Act) (ρ : Nat → Value) : Prop where
  size : A.tmps.size = 501
  at_ : ∀ t, t < 501 → A.tmps[t]? = some (ρ t)
  df : A.defers = []
def upv (ρ : Nat → Value) (d : Nat) (v : Value) : Nat → Value := fun t => if t = d then v else ρ t
theorem Fit.put {A : Act} {ρ : Nat → Value} (h : Fit A ρ) {d : Nat} (hd : d < 501) (v : Value) : Fit (A.put (some d) v) (upv ρ d v) := by
  refine ⟨by simp [Act.put, h.size], fun t ht => ?_, by simp [Act.put, h.df]⟩
  show (A.tmps.setIfInBounds d v)[t]? = some (upv ρ d v t)
  unfold upv
  by_cases e : t = d
  · subst e; rw [if_pos rfl]; simp [h.size, hd]
  · rw [if_neg e, ← h.at_ t ht]; simp [Ne.symm e]
theorem Fit.eval {A : Act} {ρ : Nat → Value} (h : Fit A ρ) {t : Nat} (ht : t < 501) : A.eval (.tmp t) = ρ t := by
  show A.tmps.getD t undef = ρ t
  rw [← Option.some_inj, ← h.at_ t ht]
  simp [h.size, ht]
/-- Any frame of that many slots. -/
theorem Fit.of (A : Act) (hs : A.tmps.size = 501) (hd : A.defers = []) : Fit A (fun t => A.tmps.getD t undef) :=
  ⟨hs, fun t ht => by simp [hs, ht], hd⟩
/-- One operation that is wanted. -/
theorem q_step {ops : Array Oper} {Q : Exit → Act → World → Prop} {o : Oper} {rest : List Oper} {A : Act} {ρ : Nat → Value} {w : World} {d : Nat} {v : Value} (hF : Fit A ρ) (hds : o.dst = some d) (hd : d < 501)
    (hw : o.guard = none ∨ ∃ j b dj, o.guard = some (j, b) ∧ (ops[j]?).bind (·.dst) = some dj ∧ dj < 501 ∧ ρ dj = .bool b)
    (hx : (execOp A.eval o).run Try.prog w = .ok (.value v) w) (h : ∀ A', Fit A' (upv ρ d v) → wpList Try.prog ops Q rest A' w) : wpList Try.prog ops Q (o :: rest) A w := by
  have hwant : Region.wanted o (yielded ops A.tmps) = true := by
    rcases hw with e | ⟨j, b, dj, e, e1, e2, e3⟩
    · simp [Region.wanted, e]
    · simp [Region.wanted, e, yielded, e1, hF.at_ dj e2, e3]
  unfold wpList
  rw [if_pos hwant]
  left
  unfold Oper.wp
  rw [hx, Oper.upon_value, hds]
  exact h _ (hF.put hd v)
section
variable {A : Act} {ρ : Nat → Value} {o : Oper} {w : World}
theorem x_move {t : Nat} {v : Value} (hF : Fit A ρ) (ho : o.op = .move (.tmp t)) (ht : t < 501) (hv : ρ t = v) : (execOp A.eval o).run Try.prog w = .ok (.value v) w := by
  simp [execOp, ho, hF.eval ht, hv]
theorem x_assign {t : Nat} {v : Value} (hF : Fit A ρ) (ho : o.op = .assign (.tmp t)) (ht : t < 501) (hv : ρ t = v) : (execOp A.eval o).run Try.prog w = .ok (.value v) w := by
  simp [execOp, ho, hF.eval ht, hv]
theorem x_assignC {v : Value} (_hF : Fit A ρ) (ho : o.op = .assign (.const v)) : (execOp A.eval o).run Try.prog w = .ok (.value v) w := by
  simp [execOp, ho, Act.eval]
theorem ev_const (A : Act) (v : Value) : A.eval (.const v) = v := rfl
theorem x_len {t : Nat} {a : Option Addr} {n c : Nat} (hF : Fit A ρ) (ho : o.op = .call { callee := .builtin .len, args := #[.tmp t], argTypes := #[24] }) (ht : t < 501) (hv : ρ t = .slice a n c) : (execOp A.eval o).run Try.prog w = .ok (.value (.int .i64 n)) w := by
  simp only [execOp, ho]
  simp [resolve, invoke, builtin, hF.eval ht, hv, Builtin.len_]
  rfl
theorem x_lenN {t : Nat} {a : Option Addr} {n c : Nat} (hF : Fit A ρ) (ho : o.op = .call { callee := .builtin .len, args := #[.tmp t], argTypes := #[22] }) (ht : t < 501) (hv : ρ t = .slice a n c) : (execOp A.eval o).run Try.prog w = .ok (.value (.int .i64 n)) w := by
  simp only [execOp, ho]
  simp [resolve, invoke, builtin, hF.eval ht, hv, Builtin.len_]
  rfl
theorem x_sub {t : Nat} {x k : Int} (hF : Fit A ρ) (ho : o.op = .binOp .sub 3 (.tmp t) (.const (.int .i64 k)) 3) (ht : t < 501) (hv : ρ t = .int .i64 x) : (execOp A.eval o).run Try.prog w = .ok (.value (.int .i64 (IntKind.i64.wrap (x - k)))) w := by
  simp only [execOp, ho, hF.eval ht, hv, ev_const]
  go_simp
theorem x_add {t u : Nat} {x y : Int} (hF : Fit A ρ) (ho : o.op = .binOp .add 3 (.tmp t) (.tmp u) 3) (ht : t < 501) (hu : u < 501) (hv : ρ t = .int .i64 x) (hy : ρ u = .int .i64 y) : (execOp A.eval o).run Try.prog w = .ok (.value (.int .i64 (IntKind.i64.wrap (x + y)))) w := by
  simp only [execOp, ho, hF.eval ht, hF.eval hu, hv, hy]
  go_simp
theorem x_addC {t : Nat} {x k : Int} (hF : Fit A ρ) (ho : o.op = .binOp .add 3 (.tmp t) (.const (.int .i64 k)) 3) (ht : t < 501) (hv : ρ t = .int .i64 x) : (execOp A.eval o).run Try.prog w = .ok (.value (.int .i64 (IntKind.i64.wrap (x + k)))) w := by
  simp only [execOp, ho, hF.eval ht, hv, ev_const]
  go_simp
theorem x_mul {t : Nat} {x k : Int} (hF : Fit A ρ) (ho : o.op = .binOp .mul 3 (.const (.int .i64 k)) (.tmp t) 3) (ht : t < 501) (hv : ρ t = .int .i64 x) : (execOp A.eval o).run Try.prog w = .ok (.value (.int .i64 (IntKind.i64.wrap (k * x)))) w := by
  simp only [execOp, ho, hF.eval ht, hv, ev_const]
  go_simp
theorem x_neg {t : Nat} {x : Int} (hF : Fit A ρ) (ho : o.op = .unOp .neg 3 (.tmp t)) (ht : t < 501) (hv : ρ t = .int .i64 x) : (execOp A.eval o).run Try.prog w = .ok (.value (.int .i64 (IntKind.i64.wrap (-x)))) w := by
  simp only [execOp, ho, hF.eval ht, hv]
  go_simp
theorem x_lss {t : Nat} {x k : Int} (hF : Fit A ρ) (ho : o.op = .binOp .lss 3 (.tmp t) (.const (.int .i64 k)) 3) (ht : t < 501) (hv : ρ t = .int .i64 x) : (execOp A.eval o).run Try.prog w = .ok (.value (.bool (decide (x < k)))) w := by
  simp only [execOp, ho, hF.eval ht, hv, ev_const]
  go_simp
theorem x_neq {t u : Nat} {x y : Int} (hF : Fit A ρ) (ho : o.op = .binOp .neq 3 (.tmp t) (.tmp u) 3) (ht : t < 501) (hu : u < 501) (hv : ρ t = .int .i64 x) (hy : ρ u = .int .i64 y) (he : x = y) : (execOp A.eval o).run Try.prog w = .ok (.value (.bool false)) w := by
  simp only [execOp, ho, hF.eval ht, hF.eval hu, hv, hy, he]
  go_simp
theorem x_pick {t u : Nat} {b : Bool} (hF : Fit A ρ) (ho : o.op = .pick (.tmp t) (.const (.bool true)) (.tmp u)) (ht : t < 501) (hu : u < 501) (hv : ρ t = .bool false) (hy : ρ u = .bool b) : (execOp A.eval o).run Try.prog w = .ok (.value (.bool b)) w := by
  simp only [execOp, ho, hF.eval ht, hF.eval hu, hv, hy, ev_const]
  go_simp
theorem x_idx {t u : Nat} {g n c j : Nat} (hF : Fit A ρ) (ho : o.op = .indexAddr 24 (.tmp t) (.tmp u)) (ht : t < 501) (hu : u < 501) (hv : ρ t = .slice (some ⟨g, 0, none⟩) n c) (hy : ρ u = .int .i64 j) (hj : (j : Int) < (n : Int)) : (execOp A.eval o).run Try.prog w = .ok (.value (.pointer (some ⟨g, j * 2, none⟩))) w := by
  simp only [execOp, ho, hF.eval ht, hF.eval hu, hv, hy]
  go_simp
theorem x_idxN {t u : Nat} {g n c j : Nat} (hF : Fit A ρ) (ho : o.op = .indexAddr 22 (.tmp t) (.tmp u)) (ht : t < 501) (hu : u < 501) (hv : ρ t = .slice (some ⟨g, 0, none⟩) n c) (hy : ρ u = .int .i64 j) (hj : (j : Int) < (n : Int)) : (execOp A.eval o).run Try.prog w = .ok (.value (.pointer (some ⟨g, j, none⟩))) w := by
  simp only [execOp, ho, hF.eval ht, hF.eval hu, hv, hy]
  go_simp
theorem x_fld {t f : Nat} {g i : Nat} (hF : Fit A ρ) (ho : o.op = .fieldAddr 28 (.tmp t) f) (ht : t < 501) (hf : f < 2) (hv : ρ t = .pointer (some ⟨g, i, none⟩)) : (execOp A.eval o).run Try.prog w = .ok (.value (.pointer (some ⟨g, i + f, none⟩))) w := by
  simp only [execOp, ho, hF.eval ht, hv]
  match f, hf with
  | 0, _ => go_simp
  | 1, _ => go_simp
theorem x_load {t : Nat} {g i : Nat} {x : Int} (hF : Fit A ρ) (ho : o.op = .load 3 (.tmp t)) (ht : t < 501) (hv : ρ t = .pointer (some ⟨g, i, none⟩)) (hc : w.cell? ⟨g, i, none⟩ = some (.int .i64 x)) : (execOp A.eval o).run Try.prog w = .ok (.value (.int .i64 x)) w := by
  simp only [execOp, ho, hF.eval ht, hv]
  go_simp
end
end Go.Proofs.Ytdmlehbamdcjcab
