/-
  HeapOwn: the loop in which the marks are looked at, and what stands behind it.
-/
import Derived.Test.YtdmlehbamdcjcabOwM
namespace Go.Proofs.Ytdmlehbamdcjcab
open Go.RowKit
/-- The body of the loop that holds a region. -/
def loopOf (n : Nat) : Code → Option Code
  | .loop c => if (reg? n c).isSome then some c else none
  | .seq a b => match loopOf n a with
    | some c => some c
    | none => loopOf n b
  | .cond _ a b => match loopOf n a with
    | some c => some c
    | none => loopOf n b
  | .block _ c => loopOf n c
  | .scope c => loopOf n c
  | _ => none
noncomputable def body6 : Code := ((Try.f5.body.bind (loopOf 54)).getD .skip)
noncomputable def reg58 : Code := ((Try.f5.body.bind (reg? 58)).getD .skip)
section
variable {A : Act} {ρ : Nat → Value} {o : Oper} {w : World}
theorem x_pickT {t u : Nat} {b : Bool} (hF : Fit A ρ) (ho : o.op = .pick (.tmp t) (.tmp u) (.const (.bool false))) (ht : t < 501) (hu : u < 501) (hv : ρ t = .bool true) (hy : ρ u = .bool b) : (execOp A.eval o).run Try.prog w = .ok (.value (.bool b)) w := by
  simp only [execOp, ho, hF.eval ht, hF.eval hu, hv, hy, ev_const]
  go_simp
theorem x_cut {t u : Nat} {g n c m : Nat} (hF : Fit A ρ) (ho : o.op = .slice 24 (.tmp t) none (some (.tmp u)) none) (ht : t < 501) (hu : u < 501) (hv : ρ t = .slice (some ⟨g, 0, none⟩) n c) (hy : ρ u = .int .i64 (m : Int)) (hm : (m : Int) ≤ (c : Int)) : (execOp A.eval o).run Try.prog w = .ok (.value (.slice (some ⟨g, 0, none⟩) m c)) w := by
  simp only [execOp, ho, hF.eval ht, hF.eval hu, hv, hy, Option.map]
  go_simp
theorem x_cutN {t u : Nat} {g n c m : Nat} (hF : Fit A ρ) (ho : o.op = .slice 22 (.tmp t) none (some (.tmp u)) none) (ht : t < 501) (hu : u < 501) (hv : ρ t = .slice (some ⟨g, 0, none⟩) n c) (hy : ρ u = .int .i64 (m : Int)) (hm : (m : Int) ≤ (c : Int)) : (execOp A.eval o).run Try.prog w = .ok (.value (.slice (some ⟨g, 0, none⟩) m c)) w := by
  simp only [execOp, ho, hF.eval ht, hF.eval hu, hv, hy, Option.map]
  go_simp
end
/-- A call that is wanted. -/
theorem q_call {ops : Array Oper} {Q : Exit → Act → World → Prop} {o : Oper} {rest : List Oper} {A : Act} {ρ : Nat → Value} {w : World} {d : Nat} {f : FuncId} {args : Array Value} {R : Value → World → Prop} (hF : Fit A ρ) (hds : o.dst = some d) (hd : d < 501)
    (hw : o.guard = none ∨ ∃ j b dj, o.guard = some (j, b) ∧ (ops[j]?).bind (·.dst) = some dj ∧ dj < 501 ∧ ρ dj = .bool b)
    (hx : (execOp A.eval o).run Try.prog w = .ok (.enter f args) w) (hc : Calls Try.prog f args w fun e w' => ∃ v, e = .returned v ∧ R v w')
    (h : ∀ A' ρ' v w', R v w' → Fit A' ρ' → ρ' d = v → (∀ t, t ≠ d → ρ' t = ρ t) → wpList Try.prog ops Q rest A' w') : wpList Try.prog ops Q (o :: rest) A w := by
  have hwant : Region.wanted o (yielded ops A.tmps) = true := by
    rcases hw with e | ⟨j, b, dj, e, e1, e2, e3⟩
    · simp [Region.wanted, e]
    · simp [Region.wanted, e, yielded, e1, hF.at_ dj e2, e3]
  unfold wpList
  rw [if_pos hwant]
  left
  unfold Oper.wp
  rw [hx, Oper.upon_enter, hds]
  refine hc.mono ?_
  rintro e w' ⟨v, rfl, hR⟩
  exact h _ _ v w' hR (hF.put hd v) (by simp [upv]) (fun t ht => by simp [upv, ht])
section
variable {A : Act} {ρ : Nat → Value} {o : Oper} {w : World}
theorem run_go {f : FuncId} {fn : Func} {args : Array Value} {w : World} (hfn : Try.prog.funcs[f]? = some fn) (hb : fn.body.isNone = false) (hn : (fn.name == "runtime.NumGoroutine") = false) : (callFunc f args).run Try.prog w = .ok (.enter f args) w := by
  have hb' : ¬ fn.body = none := fun e => by rw [e] at hb; cases hb
  have hn' : ¬ fn.name = "runtime.NumGoroutine" := fun e => by rw [e] at hn; simp at hn
  simp [callFunc, go_sem, hfn, hb', hn']
theorem x_call2 {t u f : Nat} {fn : Func} {tp : Array TypeId} {x y : Value} (hfn : Try.prog.funcs[f]? = some fn) (hb : fn.body.isNone = false) (hn : (fn.name == "runtime.NumGoroutine") = false) (hF : Fit A ρ) (ho : o.op = .call { callee := .value (.func f), args := #[.tmp t, .tmp u], argTypes := tp }) (ht : t < 501) (hu : u < 501) (hv : ρ t = x) (hy : ρ u = y) : (execOp A.eval o).run Try.prog w = .ok (.enter f #[x, y]) w := by
  obtain ⟨d1, op, ty, pos, af, gd⟩ := o
  simp only at ho
  subst ho
  rw [execOp_call_go]
  simp only [List.map_toArray, List.map_cons, List.map_nil, hF.eval ht, hF.eval hu, hv, hy, Array.empty_append, Array.append_empty]
  exact run_go hfn hb hn
theorem x_call1 {t f : Nat} {fn : Func} {tp : Array TypeId} {x : Value} (hfn : Try.prog.funcs[f]? = some fn) (hb : fn.body.isNone = false) (hn : (fn.name == "runtime.NumGoroutine") = false) (hF : Fit A ρ) (ho : o.op = .call { callee := .value (.func f), args := #[.tmp t], argTypes := tp }) (ht : t < 501) (hv : ρ t = x) : (execOp A.eval o).run Try.prog w = .ok (.enter f #[x]) w := by
  obtain ⟨d1, op, ty, pos, af, gd⟩ := o
  simp only at ho
  subst ho
  rw [execOp_call_go]
  simp only [List.map_toArray, List.map_cons, List.map_nil, hF.eval ht, hv, Array.empty_append, Array.append_empty]
  exact run_go hfn hb hn
end
set_option maxRecDepth 200000 in
set_option maxHeartbeats 8000000 in
theorem loop6_any {Q : Exit → Act → World → Prop} {A : Act} {ρ : Nat → Value} {w : World} (hF : Fit A ρ) (N M E : Nat) (ya ka yb kb yc kc yd kd ye ke yf kf ys ks yt kt yg kg yh kh : Nat) (bN : (N : Int) ≤ 100000000) (bM : (M : Int) ≤ 100000000) (bE : (E : Int) ≤ 200000000) (h31 : ρ 31 = .int .i64 0)
    (s9 : ρ 9 = .slice (some ⟨ya, 0, none⟩) (N + 70) ka)
    (s10 : ρ 10 = .slice (some ⟨yb, 0, none⟩) (N + 70) kb)
    (s11 : ρ 11 = .slice (some ⟨yc, 0, none⟩) (M + 70) kc)
    (s12 : ρ 12 = .slice (some ⟨yd, 0, none⟩) (M + 70) kd)
    (s13 : ρ 13 = .slice (some ⟨ye, 0, none⟩) (E + 70) ke)
    (s14 : ρ 14 = .slice (some ⟨yf, 0, none⟩) (N + 70) kf)
    (s19 : ρ 19 = .slice (some ⟨ys, 0, none⟩) (N + 70) ks)
    (s20 : ρ 20 = .slice (some ⟨yt, 0, none⟩) (N + 70) kt)
    (s15 : ρ 15 = .slice (some ⟨yg, 0, none⟩) (N + 70) kg)
    (s16 : ρ 16 = .slice (some ⟨yh, 0, none⟩) (N + 70) kh)
    (ca : ∀ r : Nat, r < 70 → w.cell? ⟨ya, (N + r) * 2 + 1, none⟩ = some (.int .i64 ((r : Int))))
    (cb : ∀ r : Nat, r < 70 → w.cell? ⟨yb, (N + r) * 2 + 1, none⟩ = some (.int .i64 (-(r : Int))))
    (cc : ∀ r : Nat, r < 70 → w.cell? ⟨yc, (M + r) * 2 + 0, none⟩ = some (.int .i64 ((r : Int))))
    (cd : ∀ r : Nat, r < 70 → w.cell? ⟨yd, (M + r) * 2 + 0, none⟩ = some (.int .i64 (-(r : Int))))
    (ce : ∀ r : Nat, r < 70 → w.cell? ⟨ye, (E + r) * 2 + 1, none⟩ = some (.int .i64 (2 * (r : Int))))
    (cf : ∀ r : Nat, r < 70 → w.cell? ⟨yf, (N + r) * 2 + 1, none⟩ = some (.int .i64 (3 * (r : Int))))
    (cs : ∀ r : Nat, r < 70 → w.cell? ⟨ys, (N + r) * 2 + 1, none⟩ = some (.int .i64 (4 * (r : Int))))
    (ct : ∀ r : Nat, r < 70 → w.cell? ⟨yt, (N + r) * 2 + 1, none⟩ = some (.int .i64 (5 * (r : Int))))
    (cg : ∀ r : Nat, r < 70 → w.cell? ⟨yg, N + r, none⟩ = some (.int .i64 ((r : Int))))
    (ch : ∀ r : Nat, r < 70 → w.cell? ⟨yh, N + r, none⟩ = some (.int .i64 (-(r : Int))))
    (HQ : ∀ A' ρ', Fit A' ρ' → (∀ t, t ≤ 30 → ρ' t = ρ t) → Q (.exit 10) A' w) : (Code.loop body6).wp Try.prog Q A w := by
  refine wp_loop (fun A' w' => w' = w ∧ ∃ (r : Nat) (ρ' : Nat → Value), r ≤ 70 ∧ Fit A' ρ' ∧ ρ' 31 = .int .i64 (r : Int) ∧ ∀ t, t ≤ 30 → ρ' t = ρ t) (fun A' _ => 70 - (intOf (A'.eval (.tmp 31))).toNat) ⟨rfl, 0, ρ, by decide, hF, h31, fun _ _ => rfl⟩ ?_
  rintro A1 w1 ⟨rfl, r, ρ1, hr, hF1, g31, ag⟩
  have hmu : (70 - (intOf (A1.eval (.tmp 31))).toNat) = 70 - r := by rw [hF1.eval (by decide), g31]; simp [intOf]
  conv => arg 2; whnf
  refine wp_seq (wp_seq (wp_region_list ?_))
  refine q_st (v := .int .i64 (r : Int)) (d := 320) hF1 rfl (by decide) (.inl rfl) (x_move hF1 rfl (by decide) g31) ?_
  intro A2 ρ2 hF2 e2 k2
  refine q_st (v := .bool (decide ((r : Int) < 70))) (d := 321) hF2 rfl (by decide) (.inl rfl) (x_lss hF2 rfl (by decide) e2) ?_
  intro A3 ρ3 hF3 e3 k3
  have h31' : ρ3 31 = .int .i64 (r : Int) := (k3 31 (by decide)).trans ((k2 31 (by decide)).trans g31)
  have ag3 : ∀ t, t ≤ 30 → ρ3 t = ρ t := fun t ht => (k3 t (by omega)).trans ((k2 t (by omega)).trans (ag t ht))
  by_cases hlt : r < 70
  · refine wp_cond_true (by rw [hF3.eval (by decide), e3, decide_eq_true (show (r : Int) < 70 by omega)]) (wp_skip ?_)
    refine wp_seq (wp_block (wp_seq ?_))
    refine reg56_any hF3 N M E r ya ka yb kb yc kc yd kd ye ke yf kf ys ks yt kt yg kg yh kh bN bM bE hlt h31' ((ag3 9 (by decide)).trans s9) ((ag3 10 (by decide)).trans s10) ((ag3 11 (by decide)).trans s11) ((ag3 12 (by decide)).trans s12) ((ag3 13 (by decide)).trans s13) ((ag3 14 (by decide)).trans s14) ((ag3 19 (by decide)).trans s19) ((ag3 20 (by decide)).trans s20) ((ag3 15 (by decide)).trans s15) ((ag3 16 (by decide)).trans s16) (ca r hlt) (cb r hlt) (cc r hlt) (cd r hlt) (ce r hlt) (cf r hlt) (cs r hlt) (ct r hlt) (cg r hlt) (ch r hlt) ?_
    intro A4 ρ4 hF4 ag4 e4
    refine wp_cond_false (by rw [hF4.eval (by decide), e4]) (wp_skip ?_)
    refine wp_region_list ?_
    refine q_st (v := .int .i64 (r : Int)) (d := 322) hF4 rfl (by decide) (.inl rfl) (x_move hF4 rfl (by decide) ((ag4 31 (by decide)).trans h31')) ?_
    intro A5 ρ5 hF5 e5 k5
    have wr1 : IntKind.i64.wrap ((r : Int) + 1) = ((r + 1 : Nat) : Int) := by rw [IntKind.wrap_i64]; omega
    refine q_st (v := .int .i64 ((r + 1 : Nat) : Int)) (d := 323) hF5 rfl (by decide) (.inl rfl) (by rw [← wr1]; exact x_addC hF5 rfl (by decide) e5) ?_
    intro A6 ρ6 hF6 e6 k6
    refine q_st (v := .int .i64 ((r + 1 : Nat) : Int)) (d := 31) hF6 rfl (by decide) (.inl rfl) (x_assign hF6 rfl (by decide) e6) ?_
    intro A7 ρ7 hF7 e7 k7
    refine ⟨⟨rfl, r + 1, ρ7, by omega, hF7, e7, fun t ht => (k7 t (by omega)).trans ((k6 t (by omega)).trans ((k5 t (by omega)).trans ((ag4 t (by omega)).trans (ag3 t ht))))⟩, ?_⟩
    show 70 - (intOf (A7.eval (.tmp 31))).toNat < 70 - (intOf (A1.eval (.tmp 31))).toNat
    rw [hmu, hF7.eval (by decide), e7]
    simp [intOf]
    omega
  · refine wp_cond_false (by rw [hF3.eval (by decide), e3, decide_eq_false (show ¬ (r : Int) < 70 by omega)]) (wp_exit ?_)
    exact HQ A3 ρ3 hF3 ag3
set_option maxRecDepth 200000 in
set_option maxHeartbeats 8000000 in
theorem end58_any {Q : Exit → Act → World → Prop} {A : Act} {ρ : Nat → Value} {w : World} (hF : Fit A ρ) (N M E : Nat) (ya ka yc kc ye ke ys ks yg kg : Nat) (ua uc ue us ug : Option Addr) (da dc de ds dg : Nat) (hx : Value)
    (s9 : ρ 9 = .slice (some ⟨ya, 0, none⟩) (N + 70) ka)
    (s11 : ρ 11 = .slice (some ⟨yc, 0, none⟩) (M + 70) kc)
    (s13 : ρ 13 = .slice (some ⟨ye, 0, none⟩) (E + 70) ke)
    (s19 : ρ 19 = .slice (some ⟨ys, 0, none⟩) (N + 70) ks)
    (s15 : ρ 15 = .slice (some ⟨yg, 0, none⟩) (N + 70) kg)
    (s21 : ρ 21 = .slice ua N da)
    (s22 : ρ 22 = .slice uc M dc)
    (s23 : ρ 23 = .slice ue E de)
    (s24 : ρ 24 = .slice us N ds)
    (s25 : ρ 25 = .slice ug N dg)
    (s17 : ρ 17 = hx)
    (la : (N : Int) ≤ (ka : Int))
    (lc : (M : Int) ≤ (kc : Int))
    (le : (E : Int) ≤ (ke : Int))
    (ls : (N : Int) ≤ (ks : Int))
    (lg : (N : Int) ≤ (kg : Int))
    (Ca : ∀ Y, Below w.heap.size w Y → Calls Try.prog 10 #[.slice (some ⟨ya, 0, none⟩) N ka, .slice ua N da] Y fun e w' => e = .returned (.bool true) ∧ Below Y.heap.size Y w')
    (Cc : ∀ Y, Below w.heap.size w Y → Calls Try.prog 10 #[.slice (some ⟨yc, 0, none⟩) M kc, .slice uc M dc] Y fun e w' => e = .returned (.bool true) ∧ Below Y.heap.size Y w')
    (Ce : ∀ Y, Below w.heap.size w Y → Calls Try.prog 10 #[.slice (some ⟨ye, 0, none⟩) E ke, .slice ue E de] Y fun e w' => e = .returned (.bool true) ∧ Below Y.heap.size Y w')
    (Cs : ∀ Y, Below w.heap.size w Y → Calls Try.prog 10 #[.slice (some ⟨ys, 0, none⟩) N ks, .slice us N ds] Y fun e w' => e = .returned (.bool true) ∧ Below Y.heap.size Y w')
    (Cg : ∀ Y, Below w.heap.size w Y → Calls Try.prog 22 #[.slice (some ⟨yg, 0, none⟩) N kg, .slice ug N dg] Y fun e w' => e = .returned (.bool true) ∧ Below Y.heap.size Y w')
    (Cx : ∀ Y, Below w.heap.size w Y → Calls Try.prog 14 #[hx] Y fun e w' => ∃ v, e = .returned v ∧ Below Y.heap.size Y w' ∧ Calls Try.prog 10 #[v, .slice us N ds] w' fun e w2 => e = .returned (.bool true) ∧ Below w'.heap.size w' w2)
    (HQ : ∀ A' ρ' w', Fit A' ρ' → ρ' 4 = .bool true → Below w.heap.size w w' → Q .ret A' w') : (Code.seq reg58 .ret).wp Try.prog Q A w := by
  refine wp_seq ?_
  conv => arg 2; whnf
  refine wp_region_list ?_
  have ag : ∀ t, t ≤ 31 → t ≠ 4 → ρ t = ρ t := fun _ _ _ => rfl
  have B0 : Below w.heap.size w w := Below.refl _ _
  refine q_st (v := .slice (some ⟨ya, 0, none⟩) (N + 70) ka) (d := 457) hF rfl (by decide) (.inl rfl) (x_move (v := .slice (some ⟨ya, 0, none⟩) (N + 70) ka) hF rfl (by decide) ((ag 9 (by decide) (by decide)).trans s9)) ?_
  clear hF
  intro A0 ρ0 hF e0 k0
  replace ag : ∀ t, t ≤ 31 → t ≠ 4 → ρ0 t = ρ t := fun t ht h4 => (k0 t (by omega)).trans (ag t ht h4)
  have f457 := e0
  clear e0 k0
  refine q_st (v := .slice ua N da) (d := 458) hF rfl (by decide) (.inl rfl) (x_move (v := .slice ua N da) hF rfl (by decide) ((ag 21 (by decide) (by decide)).trans s21)) ?_
  clear hF
  intro A1 ρ1 hF e1 k1
  replace ag : ∀ t, t ≤ 31 → t ≠ 4 → ρ1 t = ρ t := fun t ht h4 => (k1 t (by omega)).trans (ag t ht h4)
  replace f457 := (k1 457 (by decide)).trans f457
  have f458 := e1
  clear e1 k1
  refine q_st (v := .int .i64 (N : Int)) (d := 459) hF rfl (by decide) (.inl rfl) (x_len hF rfl (by decide) f458) ?_
  clear hF
  intro A2 ρ2 hF e2 k2
  replace ag : ∀ t, t ≤ 31 → t ≠ 4 → ρ2 t = ρ t := fun t ht h4 => (k2 t (by omega)).trans (ag t ht h4)
  replace f457 := (k2 457 (by decide)).trans f457
  clear f458
  have f459 := e2
  clear e2 k2
  refine q_st (v := .slice (some ⟨ya, 0, none⟩) N ka) (d := 460) hF rfl (by decide) (.inl rfl) (x_cut hF rfl (by decide) (by decide) f457 f459 la) ?_
  clear hF
  intro A3 ρ3 hF e3 k3
  replace ag : ∀ t, t ≤ 31 → t ≠ 4 → ρ3 t = ρ t := fun t ht h4 => (k3 t (by omega)).trans (ag t ht h4)
  clear f457 f459
  have f460 := e3
  clear e3 k3
  refine q_st (v := .slice ua N da) (d := 461) hF rfl (by decide) (.inl rfl) (x_move (v := .slice ua N da) hF rfl (by decide) ((ag 21 (by decide) (by decide)).trans s21)) ?_
  clear hF
  intro A4 ρ4 hF e4 k4
  replace ag : ∀ t, t ≤ 31 → t ≠ 4 → ρ4 t = ρ t := fun t ht h4 => (k4 t (by omega)).trans (ag t ht h4)
  replace f460 := (k4 460 (by decide)).trans f460
  have f461 := e4
  clear e4 k4
  refine q_call (R := fun v w2 => v = .bool true ∧ Below w.heap.size w w2) (d := 462) hF rfl (by decide) (.inl rfl) (x_call2 Try.func10 (by kernel_rfl) (by kernel_rfl) hF rfl (by decide) (by decide) f460 f461) ((Ca w B0).mono (fun e w2 h => ⟨_, h.1, rfl, h.2⟩)) ?_
  clear hF
  intro A5 ρ5 v5 W5 ⟨q5, b5⟩ hF e5 k5
  rw [q5] at e5
  replace B0 := B0.trans (b5.mono B0.size)
  replace ag : ∀ t, t ≤ 31 → t ≠ 4 → ρ5 t = ρ t := fun t ht h4 => (k5 t (by omega)).trans (ag t ht h4)
  clear f460 f461
  have f462 := e5
  clear e5 k5
  refine q_st (v := .bool true) (d := 463) hF rfl (by decide) (.inl rfl) (x_move (v := .bool true) hF rfl (by decide) f462) ?_
  clear hF
  intro A6 ρ6 hF e6 k6
  replace ag : ∀ t, t ≤ 31 → t ≠ 4 → ρ6 t = ρ t := fun t ht h4 => (k6 t (by omega)).trans (ag t ht h4)
  clear f462
  have f463 := e6
  clear e6 k6
  refine q_st (v := .slice (some ⟨yc, 0, none⟩) (M + 70) kc) (d := 464) hF rfl (by decide) (.inr ⟨6, true, 463, rfl, rfl, by decide, f463⟩) (x_move (v := .slice (some ⟨yc, 0, none⟩) (M + 70) kc) hF rfl (by decide) ((ag 11 (by decide) (by decide)).trans s11)) ?_
  clear hF
  intro A7 ρ7 hF e7 k7
  replace ag : ∀ t, t ≤ 31 → t ≠ 4 → ρ7 t = ρ t := fun t ht h4 => (k7 t (by omega)).trans (ag t ht h4)
  replace f463 := (k7 463 (by decide)).trans f463
  have f464 := e7
  clear e7 k7
  refine q_st (v := .slice uc M dc) (d := 465) hF rfl (by decide) (.inr ⟨6, true, 463, rfl, rfl, by decide, f463⟩) (x_move (v := .slice uc M dc) hF rfl (by decide) ((ag 22 (by decide) (by decide)).trans s22)) ?_
  clear hF
  intro A8 ρ8 hF e8 k8
  replace ag : ∀ t, t ≤ 31 → t ≠ 4 → ρ8 t = ρ t := fun t ht h4 => (k8 t (by omega)).trans (ag t ht h4)
  replace f463 := (k8 463 (by decide)).trans f463
  replace f464 := (k8 464 (by decide)).trans f464
  have f465 := e8
  clear e8 k8
  refine q_st (v := .int .i64 (M : Int)) (d := 466) hF rfl (by decide) (.inr ⟨6, true, 463, rfl, rfl, by decide, f463⟩) (x_len hF rfl (by decide) f465) ?_
  clear hF
  intro A9 ρ9 hF e9 k9
  replace ag : ∀ t, t ≤ 31 → t ≠ 4 → ρ9 t = ρ t := fun t ht h4 => (k9 t (by omega)).trans (ag t ht h4)
  replace f463 := (k9 463 (by decide)).trans f463
  replace f464 := (k9 464 (by decide)).trans f464
  clear f465
  have f466 := e9
  clear e9 k9
  refine q_st (v := .slice (some ⟨yc, 0, none⟩) M kc) (d := 467) hF rfl (by decide) (.inr ⟨6, true, 463, rfl, rfl, by decide, f463⟩) (x_cut hF rfl (by decide) (by decide) f464 f466 lc) ?_
  clear hF
  intro A10 ρ10 hF e10 k10
  replace ag : ∀ t, t ≤ 31 → t ≠ 4 → ρ10 t = ρ t := fun t ht h4 => (k10 t (by omega)).trans (ag t ht h4)
  replace f463 := (k10 463 (by decide)).trans f463
  clear f464 f466
  have f467 := e10
  clear e10 k10
  refine q_st (v := .slice uc M dc) (d := 468) hF rfl (by decide) (.inr ⟨6, true, 463, rfl, rfl, by decide, f463⟩) (x_move (v := .slice uc M dc) hF rfl (by decide) ((ag 22 (by decide) (by decide)).trans s22)) ?_
  clear hF
  intro A11 ρ11 hF e11 k11
  replace ag : ∀ t, t ≤ 31 → t ≠ 4 → ρ11 t = ρ t := fun t ht h4 => (k11 t (by omega)).trans (ag t ht h4)
  replace f463 := (k11 463 (by decide)).trans f463
  replace f467 := (k11 467 (by decide)).trans f467
  have f468 := e11
  clear e11 k11
  refine q_call (R := fun v w2 => v = .bool true ∧ Below W5.heap.size W5 w2) (d := 469) hF rfl (by decide) (.inr ⟨6, true, 463, rfl, rfl, by decide, f463⟩) (x_call2 Try.func10 (by kernel_rfl) (by kernel_rfl) hF rfl (by decide) (by decide) f467 f468) ((Cc W5 B0).mono (fun e w2 h => ⟨_, h.1, rfl, h.2⟩)) ?_
  clear hF
  intro A12 ρ12 v12 W12 ⟨q12, b12⟩ hF e12 k12
  rw [q12] at e12
  replace B0 := B0.trans (b12.mono B0.size)
  replace ag : ∀ t, t ≤ 31 → t ≠ 4 → ρ12 t = ρ t := fun t ht h4 => (k12 t (by omega)).trans (ag t ht h4)
  replace f463 := (k12 463 (by decide)).trans f463
  clear f467 f468
  have f469 := e12
  clear e12 k12
  refine q_st (v := .bool true) (d := 470) hF rfl (by decide) (.inl rfl) (x_pickT hF rfl (by decide) (by decide) f463 f469) ?_
  clear hF
  intro A13 ρ13 hF e13 k13
  replace ag : ∀ t, t ≤ 31 → t ≠ 4 → ρ13 t = ρ t := fun t ht h4 => (k13 t (by omega)).trans (ag t ht h4)
  clear f463 f469
  have f470 := e13
  clear e13 k13
  refine q_st (v := .bool true) (d := 471) hF rfl (by decide) (.inl rfl) (x_move (v := .bool true) hF rfl (by decide) f470) ?_
  clear hF
  intro A14 ρ14 hF e14 k14
  replace ag : ∀ t, t ≤ 31 → t ≠ 4 → ρ14 t = ρ t := fun t ht h4 => (k14 t (by omega)).trans (ag t ht h4)
  clear f470
  have f471 := e14
  clear e14 k14
  refine q_st (v := .slice (some ⟨ye, 0, none⟩) (E + 70) ke) (d := 472) hF rfl (by decide) (.inr ⟨14, true, 471, rfl, rfl, by decide, f471⟩) (x_move (v := .slice (some ⟨ye, 0, none⟩) (E + 70) ke) hF rfl (by decide) ((ag 13 (by decide) (by decide)).trans s13)) ?_
  clear hF
  intro A15 ρ15 hF e15 k15
  replace ag : ∀ t, t ≤ 31 → t ≠ 4 → ρ15 t = ρ t := fun t ht h4 => (k15 t (by omega)).trans (ag t ht h4)
  replace f471 := (k15 471 (by decide)).trans f471
  have f472 := e15
  clear e15 k15
  refine q_st (v := .slice ue E de) (d := 473) hF rfl (by decide) (.inr ⟨14, true, 471, rfl, rfl, by decide, f471⟩) (x_move (v := .slice ue E de) hF rfl (by decide) ((ag 23 (by decide) (by decide)).trans s23)) ?_
  clear hF
  intro A16 ρ16 hF e16 k16
  replace ag : ∀ t, t ≤ 31 → t ≠ 4 → ρ16 t = ρ t := fun t ht h4 => (k16 t (by omega)).trans (ag t ht h4)
  replace f471 := (k16 471 (by decide)).trans f471
  replace f472 := (k16 472 (by decide)).trans f472
  have f473 := e16
  clear e16 k16
  refine q_st (v := .int .i64 (E : Int)) (d := 474) hF rfl (by decide) (.inr ⟨14, true, 471, rfl, rfl, by decide, f471⟩) (x_len hF rfl (by decide) f473) ?_
  clear hF
  intro A17 ρ17 hF e17 k17
  replace ag : ∀ t, t ≤ 31 → t ≠ 4 → ρ17 t = ρ t := fun t ht h4 => (k17 t (by omega)).trans (ag t ht h4)
  replace f471 := (k17 471 (by decide)).trans f471
  replace f472 := (k17 472 (by decide)).trans f472
  clear f473
  have f474 := e17
  clear e17 k17
  refine q_st (v := .slice (some ⟨ye, 0, none⟩) E ke) (d := 475) hF rfl (by decide) (.inr ⟨14, true, 471, rfl, rfl, by decide, f471⟩) (x_cut hF rfl (by decide) (by decide) f472 f474 le) ?_
  clear hF
  intro A18 ρ18 hF e18 k18
  replace ag : ∀ t, t ≤ 31 → t ≠ 4 → ρ18 t = ρ t := fun t ht h4 => (k18 t (by omega)).trans (ag t ht h4)
  replace f471 := (k18 471 (by decide)).trans f471
  clear f472 f474
  have f475 := e18
  clear e18 k18
  refine q_st (v := .slice ue E de) (d := 476) hF rfl (by decide) (.inr ⟨14, true, 471, rfl, rfl, by decide, f471⟩) (x_move (v := .slice ue E de) hF rfl (by decide) ((ag 23 (by decide) (by decide)).trans s23)) ?_
  clear hF
  intro A19 ρ19 hF e19 k19
  replace ag : ∀ t, t ≤ 31 → t ≠ 4 → ρ19 t = ρ t := fun t ht h4 => (k19 t (by omega)).trans (ag t ht h4)
  replace f471 := (k19 471 (by decide)).trans f471
  replace f475 := (k19 475 (by decide)).trans f475
  have f476 := e19
  clear e19 k19
  refine q_call (R := fun v w2 => v = .bool true ∧ Below W12.heap.size W12 w2) (d := 477) hF rfl (by decide) (.inr ⟨14, true, 471, rfl, rfl, by decide, f471⟩) (x_call2 Try.func10 (by kernel_rfl) (by kernel_rfl) hF rfl (by decide) (by decide) f475 f476) ((Ce W12 B0).mono (fun e w2 h => ⟨_, h.1, rfl, h.2⟩)) ?_
  clear hF
  intro A20 ρ20 v20 W20 ⟨q20, b20⟩ hF e20 k20
  rw [q20] at e20
  replace B0 := B0.trans (b20.mono B0.size)
  replace ag : ∀ t, t ≤ 31 → t ≠ 4 → ρ20 t = ρ t := fun t ht h4 => (k20 t (by omega)).trans (ag t ht h4)
  replace f471 := (k20 471 (by decide)).trans f471
  clear f475 f476
  have f477 := e20
  clear e20 k20
  refine q_st (v := .bool true) (d := 478) hF rfl (by decide) (.inl rfl) (x_pickT hF rfl (by decide) (by decide) f471 f477) ?_
  clear hF
  intro A21 ρ21 hF e21 k21
  replace ag : ∀ t, t ≤ 31 → t ≠ 4 → ρ21 t = ρ t := fun t ht h4 => (k21 t (by omega)).trans (ag t ht h4)
  clear f471 f477
  have f478 := e21
  clear e21 k21
  refine q_st (v := .bool true) (d := 479) hF rfl (by decide) (.inl rfl) (x_move (v := .bool true) hF rfl (by decide) f478) ?_
  clear hF
  intro A22 ρ22 hF e22 k22
  replace ag : ∀ t, t ≤ 31 → t ≠ 4 → ρ22 t = ρ t := fun t ht h4 => (k22 t (by omega)).trans (ag t ht h4)
  clear f478
  have f479 := e22
  clear e22 k22
  refine q_st (v := .slice (some ⟨ys, 0, none⟩) (N + 70) ks) (d := 480) hF rfl (by decide) (.inr ⟨22, true, 479, rfl, rfl, by decide, f479⟩) (x_move (v := .slice (some ⟨ys, 0, none⟩) (N + 70) ks) hF rfl (by decide) ((ag 19 (by decide) (by decide)).trans s19)) ?_
  clear hF
  intro A23 ρ23 hF e23 k23
  replace ag : ∀ t, t ≤ 31 → t ≠ 4 → ρ23 t = ρ t := fun t ht h4 => (k23 t (by omega)).trans (ag t ht h4)
  replace f479 := (k23 479 (by decide)).trans f479
  have f480 := e23
  clear e23 k23
  refine q_st (v := .slice us N ds) (d := 481) hF rfl (by decide) (.inr ⟨22, true, 479, rfl, rfl, by decide, f479⟩) (x_move (v := .slice us N ds) hF rfl (by decide) ((ag 24 (by decide) (by decide)).trans s24)) ?_
  clear hF
  intro A24 ρ24 hF e24 k24
  replace ag : ∀ t, t ≤ 31 → t ≠ 4 → ρ24 t = ρ t := fun t ht h4 => (k24 t (by omega)).trans (ag t ht h4)
  replace f479 := (k24 479 (by decide)).trans f479
  replace f480 := (k24 480 (by decide)).trans f480
  have f481 := e24
  clear e24 k24
  refine q_st (v := .int .i64 (N : Int)) (d := 482) hF rfl (by decide) (.inr ⟨22, true, 479, rfl, rfl, by decide, f479⟩) (x_len hF rfl (by decide) f481) ?_
  clear hF
  intro A25 ρ25 hF e25 k25
  replace ag : ∀ t, t ≤ 31 → t ≠ 4 → ρ25 t = ρ t := fun t ht h4 => (k25 t (by omega)).trans (ag t ht h4)
  replace f479 := (k25 479 (by decide)).trans f479
  replace f480 := (k25 480 (by decide)).trans f480
  clear f481
  have f482 := e25
  clear e25 k25
  refine q_st (v := .slice (some ⟨ys, 0, none⟩) N ks) (d := 483) hF rfl (by decide) (.inr ⟨22, true, 479, rfl, rfl, by decide, f479⟩) (x_cut hF rfl (by decide) (by decide) f480 f482 ls) ?_
  clear hF
  intro A26 ρ26 hF e26 k26
  replace ag : ∀ t, t ≤ 31 → t ≠ 4 → ρ26 t = ρ t := fun t ht h4 => (k26 t (by omega)).trans (ag t ht h4)
  replace f479 := (k26 479 (by decide)).trans f479
  clear f480 f482
  have f483 := e26
  clear e26 k26
  refine q_st (v := .slice us N ds) (d := 484) hF rfl (by decide) (.inr ⟨22, true, 479, rfl, rfl, by decide, f479⟩) (x_move (v := .slice us N ds) hF rfl (by decide) ((ag 24 (by decide) (by decide)).trans s24)) ?_
  clear hF
  intro A27 ρ27 hF e27 k27
  replace ag : ∀ t, t ≤ 31 → t ≠ 4 → ρ27 t = ρ t := fun t ht h4 => (k27 t (by omega)).trans (ag t ht h4)
  replace f479 := (k27 479 (by decide)).trans f479
  replace f483 := (k27 483 (by decide)).trans f483
  have f484 := e27
  clear e27 k27
  refine q_call (R := fun v w2 => v = .bool true ∧ Below W20.heap.size W20 w2) (d := 485) hF rfl (by decide) (.inr ⟨22, true, 479, rfl, rfl, by decide, f479⟩) (x_call2 Try.func10 (by kernel_rfl) (by kernel_rfl) hF rfl (by decide) (by decide) f483 f484) ((Cs W20 B0).mono (fun e w2 h => ⟨_, h.1, rfl, h.2⟩)) ?_
  clear hF
  intro A28 ρ28 v28 W28 ⟨q28, b28⟩ hF e28 k28
  rw [q28] at e28
  replace B0 := B0.trans (b28.mono B0.size)
  replace ag : ∀ t, t ≤ 31 → t ≠ 4 → ρ28 t = ρ t := fun t ht h4 => (k28 t (by omega)).trans (ag t ht h4)
  replace f479 := (k28 479 (by decide)).trans f479
  clear f483 f484
  have f485 := e28
  clear e28 k28
  refine q_st (v := .bool true) (d := 486) hF rfl (by decide) (.inl rfl) (x_pickT hF rfl (by decide) (by decide) f479 f485) ?_
  clear hF
  intro A29 ρ29 hF e29 k29
  replace ag : ∀ t, t ≤ 31 → t ≠ 4 → ρ29 t = ρ t := fun t ht h4 => (k29 t (by omega)).trans (ag t ht h4)
  clear f479 f485
  have f486 := e29
  clear e29 k29
  refine q_st (v := .bool true) (d := 487) hF rfl (by decide) (.inl rfl) (x_move (v := .bool true) hF rfl (by decide) f486) ?_
  clear hF
  intro A30 ρ30 hF e30 k30
  replace ag : ∀ t, t ≤ 31 → t ≠ 4 → ρ30 t = ρ t := fun t ht h4 => (k30 t (by omega)).trans (ag t ht h4)
  clear f486
  have f487 := e30
  clear e30 k30
  refine q_st (v := .slice (some ⟨yg, 0, none⟩) (N + 70) kg) (d := 488) hF rfl (by decide) (.inr ⟨30, true, 487, rfl, rfl, by decide, f487⟩) (x_move (v := .slice (some ⟨yg, 0, none⟩) (N + 70) kg) hF rfl (by decide) ((ag 15 (by decide) (by decide)).trans s15)) ?_
  clear hF
  intro A31 ρ31 hF e31 k31
  replace ag : ∀ t, t ≤ 31 → t ≠ 4 → ρ31 t = ρ t := fun t ht h4 => (k31 t (by omega)).trans (ag t ht h4)
  replace f487 := (k31 487 (by decide)).trans f487
  have f488 := e31
  clear e31 k31
  refine q_st (v := .slice ug N dg) (d := 489) hF rfl (by decide) (.inr ⟨30, true, 487, rfl, rfl, by decide, f487⟩) (x_move (v := .slice ug N dg) hF rfl (by decide) ((ag 25 (by decide) (by decide)).trans s25)) ?_
  clear hF
  intro A32 ρ32 hF e32 k32
  replace ag : ∀ t, t ≤ 31 → t ≠ 4 → ρ32 t = ρ t := fun t ht h4 => (k32 t (by omega)).trans (ag t ht h4)
  replace f487 := (k32 487 (by decide)).trans f487
  replace f488 := (k32 488 (by decide)).trans f488
  have f489 := e32
  clear e32 k32
  refine q_st (v := .int .i64 (N : Int)) (d := 490) hF rfl (by decide) (.inr ⟨30, true, 487, rfl, rfl, by decide, f487⟩) (x_lenN hF rfl (by decide) f489) ?_
  clear hF
  intro A33 ρ33 hF e33 k33
  replace ag : ∀ t, t ≤ 31 → t ≠ 4 → ρ33 t = ρ t := fun t ht h4 => (k33 t (by omega)).trans (ag t ht h4)
  replace f487 := (k33 487 (by decide)).trans f487
  replace f488 := (k33 488 (by decide)).trans f488
  clear f489
  have f490 := e33
  clear e33 k33
  refine q_st (v := .slice (some ⟨yg, 0, none⟩) N kg) (d := 491) hF rfl (by decide) (.inr ⟨30, true, 487, rfl, rfl, by decide, f487⟩) (x_cutN hF rfl (by decide) (by decide) f488 f490 lg) ?_
  clear hF
  intro A34 ρ34 hF e34 k34
  replace ag : ∀ t, t ≤ 31 → t ≠ 4 → ρ34 t = ρ t := fun t ht h4 => (k34 t (by omega)).trans (ag t ht h4)
  replace f487 := (k34 487 (by decide)).trans f487
  clear f488 f490
  have f491 := e34
  clear e34 k34
  refine q_st (v := .slice ug N dg) (d := 492) hF rfl (by decide) (.inr ⟨30, true, 487, rfl, rfl, by decide, f487⟩) (x_move (v := .slice ug N dg) hF rfl (by decide) ((ag 25 (by decide) (by decide)).trans s25)) ?_
  clear hF
  intro A35 ρ35 hF e35 k35
  replace ag : ∀ t, t ≤ 31 → t ≠ 4 → ρ35 t = ρ t := fun t ht h4 => (k35 t (by omega)).trans (ag t ht h4)
  replace f487 := (k35 487 (by decide)).trans f487
  replace f491 := (k35 491 (by decide)).trans f491
  have f492 := e35
  clear e35 k35
  refine q_call (R := fun v w2 => v = .bool true ∧ Below W28.heap.size W28 w2) (d := 493) hF rfl (by decide) (.inr ⟨30, true, 487, rfl, rfl, by decide, f487⟩) (x_call2 Try.func22 (by kernel_rfl) (by kernel_rfl) hF rfl (by decide) (by decide) f491 f492) ((Cg W28 B0).mono (fun e w2 h => ⟨_, h.1, rfl, h.2⟩)) ?_
  clear hF
  intro A36 ρ36 v36 W36 ⟨q36, b36⟩ hF e36 k36
  rw [q36] at e36
  replace B0 := B0.trans (b36.mono B0.size)
  replace ag : ∀ t, t ≤ 31 → t ≠ 4 → ρ36 t = ρ t := fun t ht h4 => (k36 t (by omega)).trans (ag t ht h4)
  replace f487 := (k36 487 (by decide)).trans f487
  clear f491 f492
  have f493 := e36
  clear e36 k36
  refine q_st (v := .bool true) (d := 494) hF rfl (by decide) (.inl rfl) (x_pickT hF rfl (by decide) (by decide) f487 f493) ?_
  clear hF
  intro A37 ρ37 hF e37 k37
  replace ag : ∀ t, t ≤ 31 → t ≠ 4 → ρ37 t = ρ t := fun t ht h4 => (k37 t (by omega)).trans (ag t ht h4)
  clear f487 f493
  have f494 := e37
  clear e37 k37
  refine q_st (v := .bool true) (d := 495) hF rfl (by decide) (.inl rfl) (x_move (v := .bool true) hF rfl (by decide) f494) ?_
  clear hF
  intro A38 ρ38 hF e38 k38
  replace ag : ∀ t, t ≤ 31 → t ≠ 4 → ρ38 t = ρ t := fun t ht h4 => (k38 t (by omega)).trans (ag t ht h4)
  clear f494
  have f495 := e38
  clear e38 k38
  refine q_st (v := hx) (d := 496) hF rfl (by decide) (.inr ⟨38, true, 495, rfl, rfl, by decide, f495⟩) (x_move (v := hx) hF rfl (by decide) ((ag 17 (by decide) (by decide)).trans s17)) ?_
  clear hF
  intro A39 ρ39 hF e39 k39
  replace ag : ∀ t, t ≤ 31 → t ≠ 4 → ρ39 t = ρ t := fun t ht h4 => (k39 t (by omega)).trans (ag t ht h4)
  replace f495 := (k39 495 (by decide)).trans f495
  have f496 := e39
  clear e39 k39
  refine q_call (R := fun v w2 => Below W36.heap.size W36 w2 ∧ Calls Try.prog 10 #[v, .slice us N ds] w2 fun e w3 => e = .returned (.bool true) ∧ Below w2.heap.size w2 w3) (d := 497) hF rfl (by decide) (.inr ⟨38, true, 495, rfl, rfl, by decide, f495⟩) (x_call1 Try.func14 (by kernel_rfl) (by kernel_rfl) hF rfl (by decide) f496) (Cx W36 B0) ?_
  clear hF
  intro A40 ρ40 vx W40 ⟨b40, Cv⟩ hF e40 k40
  replace B0 := B0.trans (b40.mono B0.size)
  replace ag : ∀ t, t ≤ 31 → t ≠ 4 → ρ40 t = ρ t := fun t ht h4 => (k40 t (by omega)).trans (ag t ht h4)
  replace f495 := (k40 495 (by decide)).trans f495
  clear f496
  have f497 := e40
  clear e40 k40
  refine q_st (v := .slice us N ds) (d := 498) hF rfl (by decide) (.inr ⟨38, true, 495, rfl, rfl, by decide, f495⟩) (x_move (v := .slice us N ds) hF rfl (by decide) ((ag 24 (by decide) (by decide)).trans s24)) ?_
  clear hF
  intro A41 ρ41 hF e41 k41
  replace ag : ∀ t, t ≤ 31 → t ≠ 4 → ρ41 t = ρ t := fun t ht h4 => (k41 t (by omega)).trans (ag t ht h4)
  replace f495 := (k41 495 (by decide)).trans f495
  replace f497 := (k41 497 (by decide)).trans f497
  have f498 := e41
  clear e41 k41
  refine q_call (R := fun v w2 => v = .bool true ∧ Below W40.heap.size W40 w2) (d := 499) hF rfl (by decide) (.inr ⟨38, true, 495, rfl, rfl, by decide, f495⟩) (x_call2 Try.func10 (by kernel_rfl) (by kernel_rfl) hF rfl (by decide) (by decide) f497 f498) (Cv.mono (fun e w2 h => ⟨_, h.1, rfl, h.2⟩)) ?_
  clear hF
  intro A42 ρ42 v42 W42 ⟨q42, b42⟩ hF e42 k42
  rw [q42] at e42
  replace B0 := B0.trans (b42.mono B0.size)
  replace ag : ∀ t, t ≤ 31 → t ≠ 4 → ρ42 t = ρ t := fun t ht h4 => (k42 t (by omega)).trans (ag t ht h4)
  replace f495 := (k42 495 (by decide)).trans f495
  clear f497 f498
  have f499 := e42
  clear e42 k42
  refine q_st (v := .bool true) (d := 500) hF rfl (by decide) (.inl rfl) (x_pickT hF rfl (by decide) (by decide) f495 f499) ?_
  clear hF
  intro A43 ρ43 hF e43 k43
  replace ag : ∀ t, t ≤ 31 → t ≠ 4 → ρ43 t = ρ t := fun t ht h4 => (k43 t (by omega)).trans (ag t ht h4)
  clear f495 f499
  have f500 := e43
  clear e43 k43
  refine q_st (v := .bool true) (d := 4) hF rfl (by decide) (.inl rfl) (x_assign (v := .bool true) hF rfl (by decide) f500) ?_
  clear hF
  intro A44 ρ44 hF e44 k44
  replace ag : ∀ t, t ≤ 31 → t ≠ 4 → ρ44 t = ρ t := fun t ht h4 => (k44 t (by omega)).trans (ag t ht h4)
  clear f500
  have f4 := e44
  clear e44 k44
  exact wp_ret (HQ _ _ _ hF f4 B0)
end Go.Proofs.Ytdmlehbamdcjcab
