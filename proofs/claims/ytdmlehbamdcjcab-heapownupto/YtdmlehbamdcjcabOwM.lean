/-
  HeapOwn: the loop in which the marks are looked at.
-/
import Derived.Test.YtdmlehbamdcjcabOwL
namespace Go.Proofs.Ytdmlehbamdcjcab
open Go.RowKit
/-- One operation that is wanted: the frame behind it. -/
theorem q_st {ops : Array Oper} {Q : Exit → Act → World → Prop} {o : Oper} {rest : List Oper} {A : Act} {ρ : Nat → Value} {w : World} {d : Nat} {v : Value} (hF : Fit A ρ) (hds : o.dst = some d) (hd : d < 501)
    (hw : o.guard = none ∨ ∃ j b dj, o.guard = some (j, b) ∧ (ops[j]?).bind (·.dst) = some dj ∧ dj < 501 ∧ ρ dj = .bool b)
    (hx : (execOp A.eval o).run Try.prog w = .ok (.value v) w) (h : ∀ A' ρ', Fit A' ρ' → ρ' d = v → (∀ t, t ≠ d → ρ' t = ρ t) → wpList Try.prog ops Q rest A' w) : wpList Try.prog ops Q (o :: rest) A w :=
  q_step hF hds hd hw hx (fun A' hA' => h A' _ hA' (by simp [upv]) (fun t ht => by simp [upv, ht]))
section
variable {A : Act} {ρ : Nat → Value} {o : Oper} {w : World}
theorem x_addE {t u : Nat} {x y z : Int} (hF : Fit A ρ) (ho : o.op = .binOp .add 3 (.tmp t) (.tmp u) 3) (ht : t < 501) (hu : u < 501) (hv : ρ t = .int .i64 x) (hy : ρ u = .int .i64 y) (he : IntKind.i64.wrap (x + y) = z) : (execOp A.eval o).run Try.prog w = .ok (.value (.int .i64 z)) w := by
  rw [← he]; exact x_add hF ho ht hu hv hy
theorem x_mulE {t : Nat} {x k z : Int} (hF : Fit A ρ) (ho : o.op = .binOp .mul 3 (.const (.int .i64 k)) (.tmp t) 3) (ht : t < 501) (hv : ρ t = .int .i64 x) (he : IntKind.i64.wrap (k * x) = z) : (execOp A.eval o).run Try.prog w = .ok (.value (.int .i64 z)) w := by
  rw [← he]; exact x_mul hF ho ht hv
theorem x_negE {t : Nat} {x z : Int} (hF : Fit A ρ) (ho : o.op = .unOp .neg 3 (.tmp t)) (ht : t < 501) (hv : ρ t = .int .i64 x) (he : IntKind.i64.wrap (-x) = z) : (execOp A.eval o).run Try.prog w = .ok (.value (.int .i64 z)) w := by
  rw [← he]; exact x_neg hF ho ht hv
end
/-- A region of a code, by its number. -/
def reg? (n : Nat) : Code → Option Code
  | .region i ops b => if i = n then some (.region i ops b) else none
  | .seq a b => match reg? n a with
    | some c => some c
    | none => reg? n b
  | .cond _ a b => match reg? n a with
    | some c => some c
    | none => reg? n b
  | .loop c => reg? n c
  | .block _ c => reg? n c
  | .scope c => reg? n c
  | _ => none
noncomputable def reg56 : Code := ((Try.f5.body.bind (reg? 56)).getD .skip)
set_option maxRecDepth 200000 in
set_option maxHeartbeats 8000000 in
theorem reg56_any {Q : Exit → Act → World → Prop} {A : Act} {ρ : Nat → Value} {w : World} (hF : Fit A ρ) (N M E r : Nat) (ya ka yb kb yc kc yd kd ye ke yf kf ys ks yt kt yg kg yh kh : Nat) (bN : (N : Int) ≤ 100000000) (bM : (M : Int) ≤ 100000000) (bE : (E : Int) ≤ 200000000) (hr : r < 70) (h31 : ρ 31 = .int .i64 (r : Int))
    (s9 : ρ 9 = .slice (some ⟨ya, 0, none⟩) (N + 70) ka)
    (s10 : ρ 10 = .slice (some ⟨yb, 0, none⟩) (N + 70) kb)
    (s11 : ρ 11 = .slice (some ⟨yc, 0, none⟩) (M + 70) kc)
    (s12 : ρ 12 = .slice (some ⟨yd, 0, none⟩) (M + 70) kd)
    (s13 : ρ 13 = .slice (some ⟨ye, 0, none⟩) (E + 70) ke)
    (s14 : ρ 14 = .slice (some ⟨yf, 0, none⟩) (N + 70) kf)
    (s19 : ρ 19 = .slice (some ⟨ys, 0, none⟩) (N + 70) ks)
    (s20 : ρ 20 = .slice (some ⟨yt, 0, none⟩) (N + 70) kt)
    (s15 : ρ 15 = .slice (some ⟨yg, 0, none⟩) (N + 70) kg)
    (s16 : ρ 16 = .slice (some ⟨yh, 0, none⟩) (N + 70) kh)
    (ca : w.cell? ⟨ya, (N + r) * 2 + 1, none⟩ = some (.int .i64 ((r : Int))))
    (cb : w.cell? ⟨yb, (N + r) * 2 + 1, none⟩ = some (.int .i64 (-(r : Int))))
    (cc : w.cell? ⟨yc, (M + r) * 2 + 0, none⟩ = some (.int .i64 ((r : Int))))
    (cd : w.cell? ⟨yd, (M + r) * 2 + 0, none⟩ = some (.int .i64 (-(r : Int))))
    (ce : w.cell? ⟨ye, (E + r) * 2 + 1, none⟩ = some (.int .i64 (2 * (r : Int))))
    (cf : w.cell? ⟨yf, (N + r) * 2 + 1, none⟩ = some (.int .i64 (3 * (r : Int))))
    (cs : w.cell? ⟨ys, (N + r) * 2 + 1, none⟩ = some (.int .i64 (4 * (r : Int))))
    (ct : w.cell? ⟨yt, (N + r) * 2 + 1, none⟩ = some (.int .i64 (5 * (r : Int))))
    (cg : w.cell? ⟨yg, N + r, none⟩ = some (.int .i64 ((r : Int))))
    (ch : w.cell? ⟨yh, N + r, none⟩ = some (.int .i64 (-(r : Int))))
    (HQ : ∀ A' ρ', Fit A' ρ' → (∀ t, t ≤ 31 → ρ' t = ρ t) → ρ' 456 = .bool false → Q .normal A' w) : reg56.wp Try.prog Q A w := by
  conv => arg 2; whnf
  refine wp_region_list ?_
  have ixN : IntKind.i64.wrap (IntKind.i64.wrap (((N + 70 : Nat) : Int) - 70) + (r : Int)) = ((N + r : Nat) : Int) := by rw [IntKind.wrap_i64, IntKind.wrap_i64]; omega
  have jxN : ((N + r : Nat) : Int) < ((N + 70 : Nat) : Int) := by omega
  have ixM : IntKind.i64.wrap (IntKind.i64.wrap (((M + 70 : Nat) : Int) - 70) + (r : Int)) = ((M + r : Nat) : Int) := by rw [IntKind.wrap_i64, IntKind.wrap_i64]; omega
  have jxM : ((M + r : Nat) : Int) < ((M + 70 : Nat) : Int) := by omega
  have ixE : IntKind.i64.wrap (IntKind.i64.wrap (((E + 70 : Nat) : Int) - 70) + (r : Int)) = ((E + r : Nat) : Int) := by rw [IntKind.wrap_i64, IntKind.wrap_i64]; omega
  have jxE : ((E + r : Nat) : Int) < ((E + 70 : Nat) : Int) := by omega
  have wn : IntKind.i64.wrap (-(r : Int)) = -(r : Int) := by rw [IntKind.wrap_i64]; omega
  have w2 : IntKind.i64.wrap (2 * (r : Int)) = 2 * (r : Int) := by rw [IntKind.wrap_i64]; omega
  have w3 : IntKind.i64.wrap (3 * (r : Int)) = 3 * (r : Int) := by rw [IntKind.wrap_i64]; omega
  have w4 : IntKind.i64.wrap (4 * (r : Int)) = 4 * (r : Int) := by rw [IntKind.wrap_i64]; omega
  have w5 : IntKind.i64.wrap (5 * (r : Int)) = 5 * (r : Int) := by rw [IntKind.wrap_i64]; omega
  have ag : ∀ t, t ≤ 31 → ρ t = ρ t := fun _ _ => rfl
  refine q_st (v := .slice (some ⟨ya, 0, none⟩) (N + 70) ka) (d := 324) hF rfl (by decide) (.inl rfl) (x_move (v := .slice (some ⟨ya, 0, none⟩) (N + 70) ka) hF rfl (by decide) ((ag 9 (by decide)).trans s9)) ?_
  clear hF
  intro A0 ρ0 hF e0 k0
  replace ag : ∀ t, t ≤ 31 → ρ0 t = ρ t := fun t ht => (k0 t (by omega)).trans (ag t ht)
  have f324 := e0
  clear e0 k0
  refine q_st (v := .slice (some ⟨ya, 0, none⟩) (N + 70) ka) (d := 325) hF rfl (by decide) (.inl rfl) (x_move (v := .slice (some ⟨ya, 0, none⟩) (N + 70) ka) hF rfl (by decide) ((ag 9 (by decide)).trans s9)) ?_
  clear hF
  intro A1 ρ1 hF e1 k1
  replace ag : ∀ t, t ≤ 31 → ρ1 t = ρ t := fun t ht => (k1 t (by omega)).trans (ag t ht)
  replace f324 := (k1 324 (by decide)).trans f324
  have f325 := e1
  clear e1 k1
  refine q_st (v := .int .i64 ((N + 70 : Nat) : Int)) (d := 326) hF rfl (by decide) (.inl rfl) (x_len hF rfl (by decide) f325) ?_
  clear hF
  intro A2 ρ2 hF e2 k2
  replace ag : ∀ t, t ≤ 31 → ρ2 t = ρ t := fun t ht => (k2 t (by omega)).trans (ag t ht)
  replace f324 := (k2 324 (by decide)).trans f324
  clear f325
  have f326 := e2
  clear e2 k2
  refine q_st (v := .int .i64 (IntKind.i64.wrap (((N + 70 : Nat) : Int) - 70))) (d := 327) hF rfl (by decide) (.inl rfl) (x_sub hF rfl (by decide) f326) ?_
  clear hF
  intro A3 ρ3 hF e3 k3
  replace ag : ∀ t, t ≤ 31 → ρ3 t = ρ t := fun t ht => (k3 t (by omega)).trans (ag t ht)
  replace f324 := (k3 324 (by decide)).trans f324
  clear f326
  have f327 := e3
  clear e3 k3
  refine q_st (v := .int .i64 (r : Int)) (d := 328) hF rfl (by decide) (.inl rfl) (x_move (v := .int .i64 (r : Int)) hF rfl (by decide) ((ag 31 (by decide)).trans h31)) ?_
  clear hF
  intro A4 ρ4 hF e4 k4
  replace ag : ∀ t, t ≤ 31 → ρ4 t = ρ t := fun t ht => (k4 t (by omega)).trans (ag t ht)
  replace f324 := (k4 324 (by decide)).trans f324
  replace f327 := (k4 327 (by decide)).trans f327
  have f328 := e4
  clear e4 k4
  refine q_st (v := .int .i64 ((N + r : Nat) : Int)) (d := 329) hF rfl (by decide) (.inl rfl) (x_addE hF rfl (by decide) (by decide) f327 f328 ixN) ?_
  clear hF
  intro A5 ρ5 hF e5 k5
  replace ag : ∀ t, t ≤ 31 → ρ5 t = ρ t := fun t ht => (k5 t (by omega)).trans (ag t ht)
  replace f324 := (k5 324 (by decide)).trans f324
  clear f327 f328
  have f329 := e5
  clear e5 k5
  refine q_st (v := .pointer (some ⟨ya, (N + r) * 2, none⟩)) (d := 330) hF rfl (by decide) (.inl rfl) (x_idx hF rfl (by decide) (by decide) f324 f329 jxN) ?_
  clear hF
  intro A6 ρ6 hF e6 k6
  replace ag : ∀ t, t ≤ 31 → ρ6 t = ρ t := fun t ht => (k6 t (by omega)).trans (ag t ht)
  clear f324 f329
  have f330 := e6
  clear e6 k6
  refine q_st (v := .pointer (some ⟨ya, (N + r) * 2 + 1, none⟩)) (d := 331) hF rfl (by decide) (.inl rfl) (x_fld hF rfl (by decide) (by decide) f330) ?_
  clear hF
  intro A7 ρ7 hF e7 k7
  replace ag : ∀ t, t ≤ 31 → ρ7 t = ρ t := fun t ht => (k7 t (by omega)).trans (ag t ht)
  clear f330
  have f331 := e7
  clear e7 k7
  refine q_st (v := .int .i64 ((r : Int))) (d := 332) hF rfl (by decide) (.inl rfl) (x_load hF rfl (by decide) f331 ca) ?_
  clear hF
  intro A8 ρ8 hF e8 k8
  replace ag : ∀ t, t ≤ 31 → ρ8 t = ρ t := fun t ht => (k8 t (by omega)).trans (ag t ht)
  clear f331
  have f332 := e8
  clear e8 k8
  refine q_st (v := .int .i64 (r : Int)) (d := 333) hF rfl (by decide) (.inl rfl) (x_move (v := .int .i64 (r : Int)) hF rfl (by decide) ((ag 31 (by decide)).trans h31)) ?_
  clear hF
  intro A9 ρ9 hF e9 k9
  replace ag : ∀ t, t ≤ 31 → ρ9 t = ρ t := fun t ht => (k9 t (by omega)).trans (ag t ht)
  replace f332 := (k9 332 (by decide)).trans f332
  have f333 := e9
  clear e9 k9
  refine q_st (v := .bool false) (d := 334) hF rfl (by decide) (.inl rfl) (x_neq hF rfl (by decide) (by decide) f332 f333 rfl) ?_
  clear hF
  intro A10 ρ10 hF e10 k10
  replace ag : ∀ t, t ≤ 31 → ρ10 t = ρ t := fun t ht => (k10 t (by omega)).trans (ag t ht)
  clear f332 f333
  have f334 := e10
  clear e10 k10
  refine q_st (v := .bool false) (d := 335) hF rfl (by decide) (.inl rfl) (x_move (v := .bool false) hF rfl (by decide) f334) ?_
  clear hF
  intro A11 ρ11 hF e11 k11
  replace ag : ∀ t, t ≤ 31 → ρ11 t = ρ t := fun t ht => (k11 t (by omega)).trans (ag t ht)
  clear f334
  have f335 := e11
  clear e11 k11
  refine q_st (v := .slice (some ⟨yb, 0, none⟩) (N + 70) kb) (d := 336) hF rfl (by decide) (.inr ⟨11, false, 335, rfl, rfl, by decide, f335⟩) (x_move (v := .slice (some ⟨yb, 0, none⟩) (N + 70) kb) hF rfl (by decide) ((ag 10 (by decide)).trans s10)) ?_
  clear hF
  intro A12 ρ12 hF e12 k12
  replace ag : ∀ t, t ≤ 31 → ρ12 t = ρ t := fun t ht => (k12 t (by omega)).trans (ag t ht)
  replace f335 := (k12 335 (by decide)).trans f335
  have f336 := e12
  clear e12 k12
  refine q_st (v := .slice (some ⟨yb, 0, none⟩) (N + 70) kb) (d := 337) hF rfl (by decide) (.inr ⟨11, false, 335, rfl, rfl, by decide, f335⟩) (x_move (v := .slice (some ⟨yb, 0, none⟩) (N + 70) kb) hF rfl (by decide) ((ag 10 (by decide)).trans s10)) ?_
  clear hF
  intro A13 ρ13 hF e13 k13
  replace ag : ∀ t, t ≤ 31 → ρ13 t = ρ t := fun t ht => (k13 t (by omega)).trans (ag t ht)
  replace f335 := (k13 335 (by decide)).trans f335
  replace f336 := (k13 336 (by decide)).trans f336
  have f337 := e13
  clear e13 k13
  refine q_st (v := .int .i64 ((N + 70 : Nat) : Int)) (d := 338) hF rfl (by decide) (.inr ⟨11, false, 335, rfl, rfl, by decide, f335⟩) (x_len hF rfl (by decide) f337) ?_
  clear hF
  intro A14 ρ14 hF e14 k14
  replace ag : ∀ t, t ≤ 31 → ρ14 t = ρ t := fun t ht => (k14 t (by omega)).trans (ag t ht)
  replace f335 := (k14 335 (by decide)).trans f335
  replace f336 := (k14 336 (by decide)).trans f336
  clear f337
  have f338 := e14
  clear e14 k14
  refine q_st (v := .int .i64 (IntKind.i64.wrap (((N + 70 : Nat) : Int) - 70))) (d := 339) hF rfl (by decide) (.inr ⟨11, false, 335, rfl, rfl, by decide, f335⟩) (x_sub hF rfl (by decide) f338) ?_
  clear hF
  intro A15 ρ15 hF e15 k15
  replace ag : ∀ t, t ≤ 31 → ρ15 t = ρ t := fun t ht => (k15 t (by omega)).trans (ag t ht)
  replace f335 := (k15 335 (by decide)).trans f335
  replace f336 := (k15 336 (by decide)).trans f336
  clear f338
  have f339 := e15
  clear e15 k15
  refine q_st (v := .int .i64 (r : Int)) (d := 340) hF rfl (by decide) (.inr ⟨11, false, 335, rfl, rfl, by decide, f335⟩) (x_move (v := .int .i64 (r : Int)) hF rfl (by decide) ((ag 31 (by decide)).trans h31)) ?_
  clear hF
  intro A16 ρ16 hF e16 k16
  replace ag : ∀ t, t ≤ 31 → ρ16 t = ρ t := fun t ht => (k16 t (by omega)).trans (ag t ht)
  replace f335 := (k16 335 (by decide)).trans f335
  replace f336 := (k16 336 (by decide)).trans f336
  replace f339 := (k16 339 (by decide)).trans f339
  have f340 := e16
  clear e16 k16
  refine q_st (v := .int .i64 ((N + r : Nat) : Int)) (d := 341) hF rfl (by decide) (.inr ⟨11, false, 335, rfl, rfl, by decide, f335⟩) (x_addE hF rfl (by decide) (by decide) f339 f340 ixN) ?_
  clear hF
  intro A17 ρ17 hF e17 k17
  replace ag : ∀ t, t ≤ 31 → ρ17 t = ρ t := fun t ht => (k17 t (by omega)).trans (ag t ht)
  replace f335 := (k17 335 (by decide)).trans f335
  replace f336 := (k17 336 (by decide)).trans f336
  clear f339 f340
  have f341 := e17
  clear e17 k17
  refine q_st (v := .pointer (some ⟨yb, (N + r) * 2, none⟩)) (d := 342) hF rfl (by decide) (.inr ⟨11, false, 335, rfl, rfl, by decide, f335⟩) (x_idx hF rfl (by decide) (by decide) f336 f341 jxN) ?_
  clear hF
  intro A18 ρ18 hF e18 k18
  replace ag : ∀ t, t ≤ 31 → ρ18 t = ρ t := fun t ht => (k18 t (by omega)).trans (ag t ht)
  replace f335 := (k18 335 (by decide)).trans f335
  clear f336 f341
  have f342 := e18
  clear e18 k18
  refine q_st (v := .pointer (some ⟨yb, (N + r) * 2 + 1, none⟩)) (d := 343) hF rfl (by decide) (.inr ⟨11, false, 335, rfl, rfl, by decide, f335⟩) (x_fld hF rfl (by decide) (by decide) f342) ?_
  clear hF
  intro A19 ρ19 hF e19 k19
  replace ag : ∀ t, t ≤ 31 → ρ19 t = ρ t := fun t ht => (k19 t (by omega)).trans (ag t ht)
  replace f335 := (k19 335 (by decide)).trans f335
  clear f342
  have f343 := e19
  clear e19 k19
  refine q_st (v := .int .i64 (-(r : Int))) (d := 344) hF rfl (by decide) (.inr ⟨11, false, 335, rfl, rfl, by decide, f335⟩) (x_load hF rfl (by decide) f343 cb) ?_
  clear hF
  intro A20 ρ20 hF e20 k20
  replace ag : ∀ t, t ≤ 31 → ρ20 t = ρ t := fun t ht => (k20 t (by omega)).trans (ag t ht)
  replace f335 := (k20 335 (by decide)).trans f335
  clear f343
  have f344 := e20
  clear e20 k20
  refine q_st (v := .int .i64 (r : Int)) (d := 345) hF rfl (by decide) (.inr ⟨11, false, 335, rfl, rfl, by decide, f335⟩) (x_move (v := .int .i64 (r : Int)) hF rfl (by decide) ((ag 31 (by decide)).trans h31)) ?_
  clear hF
  intro A21 ρ21 hF e21 k21
  replace ag : ∀ t, t ≤ 31 → ρ21 t = ρ t := fun t ht => (k21 t (by omega)).trans (ag t ht)
  replace f335 := (k21 335 (by decide)).trans f335
  replace f344 := (k21 344 (by decide)).trans f344
  have f345 := e21
  clear e21 k21
  refine q_st (v := .int .i64 (-(r : Int))) (d := 346) hF rfl (by decide) (.inr ⟨11, false, 335, rfl, rfl, by decide, f335⟩) (x_negE hF rfl (by decide) f345 wn) ?_
  clear hF
  intro A22 ρ22 hF e22 k22
  replace ag : ∀ t, t ≤ 31 → ρ22 t = ρ t := fun t ht => (k22 t (by omega)).trans (ag t ht)
  replace f335 := (k22 335 (by decide)).trans f335
  replace f344 := (k22 344 (by decide)).trans f344
  clear f345
  have f346 := e22
  clear e22 k22
  refine q_st (v := .bool false) (d := 347) hF rfl (by decide) (.inr ⟨11, false, 335, rfl, rfl, by decide, f335⟩) (x_neq hF rfl (by decide) (by decide) f344 f346 rfl) ?_
  clear hF
  intro A23 ρ23 hF e23 k23
  replace ag : ∀ t, t ≤ 31 → ρ23 t = ρ t := fun t ht => (k23 t (by omega)).trans (ag t ht)
  replace f335 := (k23 335 (by decide)).trans f335
  clear f344 f346
  have f347 := e23
  clear e23 k23
  refine q_st (v := .bool false) (d := 348) hF rfl (by decide) (.inl rfl) (x_pick hF rfl (by decide) (by decide) f335 f347) ?_
  clear hF
  intro A24 ρ24 hF e24 k24
  replace ag : ∀ t, t ≤ 31 → ρ24 t = ρ t := fun t ht => (k24 t (by omega)).trans (ag t ht)
  clear f335 f347
  have f348 := e24
  clear e24 k24
  refine q_st (v := .bool false) (d := 349) hF rfl (by decide) (.inl rfl) (x_move (v := .bool false) hF rfl (by decide) f348) ?_
  clear hF
  intro A25 ρ25 hF e25 k25
  replace ag : ∀ t, t ≤ 31 → ρ25 t = ρ t := fun t ht => (k25 t (by omega)).trans (ag t ht)
  clear f348
  have f349 := e25
  clear e25 k25
  refine q_st (v := .slice (some ⟨yc, 0, none⟩) (M + 70) kc) (d := 350) hF rfl (by decide) (.inr ⟨25, false, 349, rfl, rfl, by decide, f349⟩) (x_move (v := .slice (some ⟨yc, 0, none⟩) (M + 70) kc) hF rfl (by decide) ((ag 11 (by decide)).trans s11)) ?_
  clear hF
  intro A26 ρ26 hF e26 k26
  replace ag : ∀ t, t ≤ 31 → ρ26 t = ρ t := fun t ht => (k26 t (by omega)).trans (ag t ht)
  replace f349 := (k26 349 (by decide)).trans f349
  have f350 := e26
  clear e26 k26
  refine q_st (v := .slice (some ⟨yc, 0, none⟩) (M + 70) kc) (d := 351) hF rfl (by decide) (.inr ⟨25, false, 349, rfl, rfl, by decide, f349⟩) (x_move (v := .slice (some ⟨yc, 0, none⟩) (M + 70) kc) hF rfl (by decide) ((ag 11 (by decide)).trans s11)) ?_
  clear hF
  intro A27 ρ27 hF e27 k27
  replace ag : ∀ t, t ≤ 31 → ρ27 t = ρ t := fun t ht => (k27 t (by omega)).trans (ag t ht)
  replace f349 := (k27 349 (by decide)).trans f349
  replace f350 := (k27 350 (by decide)).trans f350
  have f351 := e27
  clear e27 k27
  refine q_st (v := .int .i64 ((M + 70 : Nat) : Int)) (d := 352) hF rfl (by decide) (.inr ⟨25, false, 349, rfl, rfl, by decide, f349⟩) (x_len hF rfl (by decide) f351) ?_
  clear hF
  intro A28 ρ28 hF e28 k28
  replace ag : ∀ t, t ≤ 31 → ρ28 t = ρ t := fun t ht => (k28 t (by omega)).trans (ag t ht)
  replace f349 := (k28 349 (by decide)).trans f349
  replace f350 := (k28 350 (by decide)).trans f350
  clear f351
  have f352 := e28
  clear e28 k28
  refine q_st (v := .int .i64 (IntKind.i64.wrap (((M + 70 : Nat) : Int) - 70))) (d := 353) hF rfl (by decide) (.inr ⟨25, false, 349, rfl, rfl, by decide, f349⟩) (x_sub hF rfl (by decide) f352) ?_
  clear hF
  intro A29 ρ29 hF e29 k29
  replace ag : ∀ t, t ≤ 31 → ρ29 t = ρ t := fun t ht => (k29 t (by omega)).trans (ag t ht)
  replace f349 := (k29 349 (by decide)).trans f349
  replace f350 := (k29 350 (by decide)).trans f350
  clear f352
  have f353 := e29
  clear e29 k29
  refine q_st (v := .int .i64 (r : Int)) (d := 354) hF rfl (by decide) (.inr ⟨25, false, 349, rfl, rfl, by decide, f349⟩) (x_move (v := .int .i64 (r : Int)) hF rfl (by decide) ((ag 31 (by decide)).trans h31)) ?_
  clear hF
  intro A30 ρ30 hF e30 k30
  replace ag : ∀ t, t ≤ 31 → ρ30 t = ρ t := fun t ht => (k30 t (by omega)).trans (ag t ht)
  replace f349 := (k30 349 (by decide)).trans f349
  replace f350 := (k30 350 (by decide)).trans f350
  replace f353 := (k30 353 (by decide)).trans f353
  have f354 := e30
  clear e30 k30
  refine q_st (v := .int .i64 ((M + r : Nat) : Int)) (d := 355) hF rfl (by decide) (.inr ⟨25, false, 349, rfl, rfl, by decide, f349⟩) (x_addE hF rfl (by decide) (by decide) f353 f354 ixM) ?_
  clear hF
  intro A31 ρ31 hF e31 k31
  replace ag : ∀ t, t ≤ 31 → ρ31 t = ρ t := fun t ht => (k31 t (by omega)).trans (ag t ht)
  replace f349 := (k31 349 (by decide)).trans f349
  replace f350 := (k31 350 (by decide)).trans f350
  clear f353 f354
  have f355 := e31
  clear e31 k31
  refine q_st (v := .pointer (some ⟨yc, (M + r) * 2, none⟩)) (d := 356) hF rfl (by decide) (.inr ⟨25, false, 349, rfl, rfl, by decide, f349⟩) (x_idx hF rfl (by decide) (by decide) f350 f355 jxM) ?_
  clear hF
  intro A32 ρ32 hF e32 k32
  replace ag : ∀ t, t ≤ 31 → ρ32 t = ρ t := fun t ht => (k32 t (by omega)).trans (ag t ht)
  replace f349 := (k32 349 (by decide)).trans f349
  clear f350 f355
  have f356 := e32
  clear e32 k32
  refine q_st (v := .pointer (some ⟨yc, (M + r) * 2 + 0, none⟩)) (d := 357) hF rfl (by decide) (.inr ⟨25, false, 349, rfl, rfl, by decide, f349⟩) (x_fld hF rfl (by decide) (by decide) f356) ?_
  clear hF
  intro A33 ρ33 hF e33 k33
  replace ag : ∀ t, t ≤ 31 → ρ33 t = ρ t := fun t ht => (k33 t (by omega)).trans (ag t ht)
  replace f349 := (k33 349 (by decide)).trans f349
  clear f356
  have f357 := e33
  clear e33 k33
  refine q_st (v := .int .i64 ((r : Int))) (d := 358) hF rfl (by decide) (.inr ⟨25, false, 349, rfl, rfl, by decide, f349⟩) (x_load hF rfl (by decide) f357 cc) ?_
  clear hF
  intro A34 ρ34 hF e34 k34
  replace ag : ∀ t, t ≤ 31 → ρ34 t = ρ t := fun t ht => (k34 t (by omega)).trans (ag t ht)
  replace f349 := (k34 349 (by decide)).trans f349
  clear f357
  have f358 := e34
  clear e34 k34
  refine q_st (v := .int .i64 (r : Int)) (d := 359) hF rfl (by decide) (.inr ⟨25, false, 349, rfl, rfl, by decide, f349⟩) (x_move (v := .int .i64 (r : Int)) hF rfl (by decide) ((ag 31 (by decide)).trans h31)) ?_
  clear hF
  intro A35 ρ35 hF e35 k35
  replace ag : ∀ t, t ≤ 31 → ρ35 t = ρ t := fun t ht => (k35 t (by omega)).trans (ag t ht)
  replace f349 := (k35 349 (by decide)).trans f349
  replace f358 := (k35 358 (by decide)).trans f358
  have f359 := e35
  clear e35 k35
  refine q_st (v := .bool false) (d := 360) hF rfl (by decide) (.inr ⟨25, false, 349, rfl, rfl, by decide, f349⟩) (x_neq hF rfl (by decide) (by decide) f358 f359 rfl) ?_
  clear hF
  intro A36 ρ36 hF e36 k36
  replace ag : ∀ t, t ≤ 31 → ρ36 t = ρ t := fun t ht => (k36 t (by omega)).trans (ag t ht)
  replace f349 := (k36 349 (by decide)).trans f349
  clear f358 f359
  have f360 := e36
  clear e36 k36
  refine q_st (v := .bool false) (d := 361) hF rfl (by decide) (.inl rfl) (x_pick hF rfl (by decide) (by decide) f349 f360) ?_
  clear hF
  intro A37 ρ37 hF e37 k37
  replace ag : ∀ t, t ≤ 31 → ρ37 t = ρ t := fun t ht => (k37 t (by omega)).trans (ag t ht)
  clear f349 f360
  have f361 := e37
  clear e37 k37
  refine q_st (v := .bool false) (d := 362) hF rfl (by decide) (.inl rfl) (x_move (v := .bool false) hF rfl (by decide) f361) ?_
  clear hF
  intro A38 ρ38 hF e38 k38
  replace ag : ∀ t, t ≤ 31 → ρ38 t = ρ t := fun t ht => (k38 t (by omega)).trans (ag t ht)
  clear f361
  have f362 := e38
  clear e38 k38
  refine q_st (v := .slice (some ⟨yd, 0, none⟩) (M + 70) kd) (d := 363) hF rfl (by decide) (.inr ⟨38, false, 362, rfl, rfl, by decide, f362⟩) (x_move (v := .slice (some ⟨yd, 0, none⟩) (M + 70) kd) hF rfl (by decide) ((ag 12 (by decide)).trans s12)) ?_
  clear hF
  intro A39 ρ39 hF e39 k39
  replace ag : ∀ t, t ≤ 31 → ρ39 t = ρ t := fun t ht => (k39 t (by omega)).trans (ag t ht)
  replace f362 := (k39 362 (by decide)).trans f362
  have f363 := e39
  clear e39 k39
  refine q_st (v := .slice (some ⟨yd, 0, none⟩) (M + 70) kd) (d := 364) hF rfl (by decide) (.inr ⟨38, false, 362, rfl, rfl, by decide, f362⟩) (x_move (v := .slice (some ⟨yd, 0, none⟩) (M + 70) kd) hF rfl (by decide) ((ag 12 (by decide)).trans s12)) ?_
  clear hF
  intro A40 ρ40 hF e40 k40
  replace ag : ∀ t, t ≤ 31 → ρ40 t = ρ t := fun t ht => (k40 t (by omega)).trans (ag t ht)
  replace f362 := (k40 362 (by decide)).trans f362
  replace f363 := (k40 363 (by decide)).trans f363
  have f364 := e40
  clear e40 k40
  refine q_st (v := .int .i64 ((M + 70 : Nat) : Int)) (d := 365) hF rfl (by decide) (.inr ⟨38, false, 362, rfl, rfl, by decide, f362⟩) (x_len hF rfl (by decide) f364) ?_
  clear hF
  intro A41 ρ41 hF e41 k41
  replace ag : ∀ t, t ≤ 31 → ρ41 t = ρ t := fun t ht => (k41 t (by omega)).trans (ag t ht)
  replace f362 := (k41 362 (by decide)).trans f362
  replace f363 := (k41 363 (by decide)).trans f363
  clear f364
  have f365 := e41
  clear e41 k41
  refine q_st (v := .int .i64 (IntKind.i64.wrap (((M + 70 : Nat) : Int) - 70))) (d := 366) hF rfl (by decide) (.inr ⟨38, false, 362, rfl, rfl, by decide, f362⟩) (x_sub hF rfl (by decide) f365) ?_
  clear hF
  intro A42 ρ42 hF e42 k42
  replace ag : ∀ t, t ≤ 31 → ρ42 t = ρ t := fun t ht => (k42 t (by omega)).trans (ag t ht)
  replace f362 := (k42 362 (by decide)).trans f362
  replace f363 := (k42 363 (by decide)).trans f363
  clear f365
  have f366 := e42
  clear e42 k42
  refine q_st (v := .int .i64 (r : Int)) (d := 367) hF rfl (by decide) (.inr ⟨38, false, 362, rfl, rfl, by decide, f362⟩) (x_move (v := .int .i64 (r : Int)) hF rfl (by decide) ((ag 31 (by decide)).trans h31)) ?_
  clear hF
  intro A43 ρ43 hF e43 k43
  replace ag : ∀ t, t ≤ 31 → ρ43 t = ρ t := fun t ht => (k43 t (by omega)).trans (ag t ht)
  replace f362 := (k43 362 (by decide)).trans f362
  replace f363 := (k43 363 (by decide)).trans f363
  replace f366 := (k43 366 (by decide)).trans f366
  have f367 := e43
  clear e43 k43
  refine q_st (v := .int .i64 ((M + r : Nat) : Int)) (d := 368) hF rfl (by decide) (.inr ⟨38, false, 362, rfl, rfl, by decide, f362⟩) (x_addE hF rfl (by decide) (by decide) f366 f367 ixM) ?_
  clear hF
  intro A44 ρ44 hF e44 k44
  replace ag : ∀ t, t ≤ 31 → ρ44 t = ρ t := fun t ht => (k44 t (by omega)).trans (ag t ht)
  replace f362 := (k44 362 (by decide)).trans f362
  replace f363 := (k44 363 (by decide)).trans f363
  clear f366 f367
  have f368 := e44
  clear e44 k44
  refine q_st (v := .pointer (some ⟨yd, (M + r) * 2, none⟩)) (d := 369) hF rfl (by decide) (.inr ⟨38, false, 362, rfl, rfl, by decide, f362⟩) (x_idx hF rfl (by decide) (by decide) f363 f368 jxM) ?_
  clear hF
  intro A45 ρ45 hF e45 k45
  replace ag : ∀ t, t ≤ 31 → ρ45 t = ρ t := fun t ht => (k45 t (by omega)).trans (ag t ht)
  replace f362 := (k45 362 (by decide)).trans f362
  clear f363 f368
  have f369 := e45
  clear e45 k45
  refine q_st (v := .pointer (some ⟨yd, (M + r) * 2 + 0, none⟩)) (d := 370) hF rfl (by decide) (.inr ⟨38, false, 362, rfl, rfl, by decide, f362⟩) (x_fld hF rfl (by decide) (by decide) f369) ?_
  clear hF
  intro A46 ρ46 hF e46 k46
  replace ag : ∀ t, t ≤ 31 → ρ46 t = ρ t := fun t ht => (k46 t (by omega)).trans (ag t ht)
  replace f362 := (k46 362 (by decide)).trans f362
  clear f369
  have f370 := e46
  clear e46 k46
  refine q_st (v := .int .i64 (-(r : Int))) (d := 371) hF rfl (by decide) (.inr ⟨38, false, 362, rfl, rfl, by decide, f362⟩) (x_load hF rfl (by decide) f370 cd) ?_
  clear hF
  intro A47 ρ47 hF e47 k47
  replace ag : ∀ t, t ≤ 31 → ρ47 t = ρ t := fun t ht => (k47 t (by omega)).trans (ag t ht)
  replace f362 := (k47 362 (by decide)).trans f362
  clear f370
  have f371 := e47
  clear e47 k47
  refine q_st (v := .int .i64 (r : Int)) (d := 372) hF rfl (by decide) (.inr ⟨38, false, 362, rfl, rfl, by decide, f362⟩) (x_move (v := .int .i64 (r : Int)) hF rfl (by decide) ((ag 31 (by decide)).trans h31)) ?_
  clear hF
  intro A48 ρ48 hF e48 k48
  replace ag : ∀ t, t ≤ 31 → ρ48 t = ρ t := fun t ht => (k48 t (by omega)).trans (ag t ht)
  replace f362 := (k48 362 (by decide)).trans f362
  replace f371 := (k48 371 (by decide)).trans f371
  have f372 := e48
  clear e48 k48
  refine q_st (v := .int .i64 (-(r : Int))) (d := 373) hF rfl (by decide) (.inr ⟨38, false, 362, rfl, rfl, by decide, f362⟩) (x_negE hF rfl (by decide) f372 wn) ?_
  clear hF
  intro A49 ρ49 hF e49 k49
  replace ag : ∀ t, t ≤ 31 → ρ49 t = ρ t := fun t ht => (k49 t (by omega)).trans (ag t ht)
  replace f362 := (k49 362 (by decide)).trans f362
  replace f371 := (k49 371 (by decide)).trans f371
  clear f372
  have f373 := e49
  clear e49 k49
  refine q_st (v := .bool false) (d := 374) hF rfl (by decide) (.inr ⟨38, false, 362, rfl, rfl, by decide, f362⟩) (x_neq hF rfl (by decide) (by decide) f371 f373 rfl) ?_
  clear hF
  intro A50 ρ50 hF e50 k50
  replace ag : ∀ t, t ≤ 31 → ρ50 t = ρ t := fun t ht => (k50 t (by omega)).trans (ag t ht)
  replace f362 := (k50 362 (by decide)).trans f362
  clear f371 f373
  have f374 := e50
  clear e50 k50
  refine q_st (v := .bool false) (d := 375) hF rfl (by decide) (.inl rfl) (x_pick hF rfl (by decide) (by decide) f362 f374) ?_
  clear hF
  intro A51 ρ51 hF e51 k51
  replace ag : ∀ t, t ≤ 31 → ρ51 t = ρ t := fun t ht => (k51 t (by omega)).trans (ag t ht)
  clear f362 f374
  have f375 := e51
  clear e51 k51
  refine q_st (v := .bool false) (d := 376) hF rfl (by decide) (.inl rfl) (x_move (v := .bool false) hF rfl (by decide) f375) ?_
  clear hF
  intro A52 ρ52 hF e52 k52
  replace ag : ∀ t, t ≤ 31 → ρ52 t = ρ t := fun t ht => (k52 t (by omega)).trans (ag t ht)
  clear f375
  have f376 := e52
  clear e52 k52
  refine q_st (v := .slice (some ⟨ye, 0, none⟩) (E + 70) ke) (d := 377) hF rfl (by decide) (.inr ⟨52, false, 376, rfl, rfl, by decide, f376⟩) (x_move (v := .slice (some ⟨ye, 0, none⟩) (E + 70) ke) hF rfl (by decide) ((ag 13 (by decide)).trans s13)) ?_
  clear hF
  intro A53 ρ53 hF e53 k53
  replace ag : ∀ t, t ≤ 31 → ρ53 t = ρ t := fun t ht => (k53 t (by omega)).trans (ag t ht)
  replace f376 := (k53 376 (by decide)).trans f376
  have f377 := e53
  clear e53 k53
  refine q_st (v := .slice (some ⟨ye, 0, none⟩) (E + 70) ke) (d := 378) hF rfl (by decide) (.inr ⟨52, false, 376, rfl, rfl, by decide, f376⟩) (x_move (v := .slice (some ⟨ye, 0, none⟩) (E + 70) ke) hF rfl (by decide) ((ag 13 (by decide)).trans s13)) ?_
  clear hF
  intro A54 ρ54 hF e54 k54
  replace ag : ∀ t, t ≤ 31 → ρ54 t = ρ t := fun t ht => (k54 t (by omega)).trans (ag t ht)
  replace f376 := (k54 376 (by decide)).trans f376
  replace f377 := (k54 377 (by decide)).trans f377
  have f378 := e54
  clear e54 k54
  refine q_st (v := .int .i64 ((E + 70 : Nat) : Int)) (d := 379) hF rfl (by decide) (.inr ⟨52, false, 376, rfl, rfl, by decide, f376⟩) (x_len hF rfl (by decide) f378) ?_
  clear hF
  intro A55 ρ55 hF e55 k55
  replace ag : ∀ t, t ≤ 31 → ρ55 t = ρ t := fun t ht => (k55 t (by omega)).trans (ag t ht)
  replace f376 := (k55 376 (by decide)).trans f376
  replace f377 := (k55 377 (by decide)).trans f377
  clear f378
  have f379 := e55
  clear e55 k55
  refine q_st (v := .int .i64 (IntKind.i64.wrap (((E + 70 : Nat) : Int) - 70))) (d := 380) hF rfl (by decide) (.inr ⟨52, false, 376, rfl, rfl, by decide, f376⟩) (x_sub hF rfl (by decide) f379) ?_
  clear hF
  intro A56 ρ56 hF e56 k56
  replace ag : ∀ t, t ≤ 31 → ρ56 t = ρ t := fun t ht => (k56 t (by omega)).trans (ag t ht)
  replace f376 := (k56 376 (by decide)).trans f376
  replace f377 := (k56 377 (by decide)).trans f377
  clear f379
  have f380 := e56
  clear e56 k56
  refine q_st (v := .int .i64 (r : Int)) (d := 381) hF rfl (by decide) (.inr ⟨52, false, 376, rfl, rfl, by decide, f376⟩) (x_move (v := .int .i64 (r : Int)) hF rfl (by decide) ((ag 31 (by decide)).trans h31)) ?_
  clear hF
  intro A57 ρ57 hF e57 k57
  replace ag : ∀ t, t ≤ 31 → ρ57 t = ρ t := fun t ht => (k57 t (by omega)).trans (ag t ht)
  replace f376 := (k57 376 (by decide)).trans f376
  replace f377 := (k57 377 (by decide)).trans f377
  replace f380 := (k57 380 (by decide)).trans f380
  have f381 := e57
  clear e57 k57
  refine q_st (v := .int .i64 ((E + r : Nat) : Int)) (d := 382) hF rfl (by decide) (.inr ⟨52, false, 376, rfl, rfl, by decide, f376⟩) (x_addE hF rfl (by decide) (by decide) f380 f381 ixE) ?_
  clear hF
  intro A58 ρ58 hF e58 k58
  replace ag : ∀ t, t ≤ 31 → ρ58 t = ρ t := fun t ht => (k58 t (by omega)).trans (ag t ht)
  replace f376 := (k58 376 (by decide)).trans f376
  replace f377 := (k58 377 (by decide)).trans f377
  clear f380 f381
  have f382 := e58
  clear e58 k58
  refine q_st (v := .pointer (some ⟨ye, (E + r) * 2, none⟩)) (d := 383) hF rfl (by decide) (.inr ⟨52, false, 376, rfl, rfl, by decide, f376⟩) (x_idx hF rfl (by decide) (by decide) f377 f382 jxE) ?_
  clear hF
  intro A59 ρ59 hF e59 k59
  replace ag : ∀ t, t ≤ 31 → ρ59 t = ρ t := fun t ht => (k59 t (by omega)).trans (ag t ht)
  replace f376 := (k59 376 (by decide)).trans f376
  clear f377 f382
  have f383 := e59
  clear e59 k59
  refine q_st (v := .pointer (some ⟨ye, (E + r) * 2 + 1, none⟩)) (d := 384) hF rfl (by decide) (.inr ⟨52, false, 376, rfl, rfl, by decide, f376⟩) (x_fld hF rfl (by decide) (by decide) f383) ?_
  clear hF
  intro A60 ρ60 hF e60 k60
  replace ag : ∀ t, t ≤ 31 → ρ60 t = ρ t := fun t ht => (k60 t (by omega)).trans (ag t ht)
  replace f376 := (k60 376 (by decide)).trans f376
  clear f383
  have f384 := e60
  clear e60 k60
  refine q_st (v := .int .i64 (2 * (r : Int))) (d := 385) hF rfl (by decide) (.inr ⟨52, false, 376, rfl, rfl, by decide, f376⟩) (x_load hF rfl (by decide) f384 ce) ?_
  clear hF
  intro A61 ρ61 hF e61 k61
  replace ag : ∀ t, t ≤ 31 → ρ61 t = ρ t := fun t ht => (k61 t (by omega)).trans (ag t ht)
  replace f376 := (k61 376 (by decide)).trans f376
  clear f384
  have f385 := e61
  clear e61 k61
  refine q_st (v := .int .i64 (r : Int)) (d := 386) hF rfl (by decide) (.inr ⟨52, false, 376, rfl, rfl, by decide, f376⟩) (x_move (v := .int .i64 (r : Int)) hF rfl (by decide) ((ag 31 (by decide)).trans h31)) ?_
  clear hF
  intro A62 ρ62 hF e62 k62
  replace ag : ∀ t, t ≤ 31 → ρ62 t = ρ t := fun t ht => (k62 t (by omega)).trans (ag t ht)
  replace f376 := (k62 376 (by decide)).trans f376
  replace f385 := (k62 385 (by decide)).trans f385
  have f386 := e62
  clear e62 k62
  refine q_st (v := .int .i64 (2 * (r : Int))) (d := 387) hF rfl (by decide) (.inr ⟨52, false, 376, rfl, rfl, by decide, f376⟩) (x_mulE hF rfl (by decide) f386 w2) ?_
  clear hF
  intro A63 ρ63 hF e63 k63
  replace ag : ∀ t, t ≤ 31 → ρ63 t = ρ t := fun t ht => (k63 t (by omega)).trans (ag t ht)
  replace f376 := (k63 376 (by decide)).trans f376
  replace f385 := (k63 385 (by decide)).trans f385
  clear f386
  have f387 := e63
  clear e63 k63
  refine q_st (v := .bool false) (d := 388) hF rfl (by decide) (.inr ⟨52, false, 376, rfl, rfl, by decide, f376⟩) (x_neq hF rfl (by decide) (by decide) f385 f387 rfl) ?_
  clear hF
  intro A64 ρ64 hF e64 k64
  replace ag : ∀ t, t ≤ 31 → ρ64 t = ρ t := fun t ht => (k64 t (by omega)).trans (ag t ht)
  replace f376 := (k64 376 (by decide)).trans f376
  clear f385 f387
  have f388 := e64
  clear e64 k64
  refine q_st (v := .bool false) (d := 389) hF rfl (by decide) (.inl rfl) (x_pick hF rfl (by decide) (by decide) f376 f388) ?_
  clear hF
  intro A65 ρ65 hF e65 k65
  replace ag : ∀ t, t ≤ 31 → ρ65 t = ρ t := fun t ht => (k65 t (by omega)).trans (ag t ht)
  clear f376 f388
  have f389 := e65
  clear e65 k65
  refine q_st (v := .bool false) (d := 390) hF rfl (by decide) (.inl rfl) (x_move (v := .bool false) hF rfl (by decide) f389) ?_
  clear hF
  intro A66 ρ66 hF e66 k66
  replace ag : ∀ t, t ≤ 31 → ρ66 t = ρ t := fun t ht => (k66 t (by omega)).trans (ag t ht)
  clear f389
  have f390 := e66
  clear e66 k66
  refine q_st (v := .slice (some ⟨yf, 0, none⟩) (N + 70) kf) (d := 391) hF rfl (by decide) (.inr ⟨66, false, 390, rfl, rfl, by decide, f390⟩) (x_move (v := .slice (some ⟨yf, 0, none⟩) (N + 70) kf) hF rfl (by decide) ((ag 14 (by decide)).trans s14)) ?_
  clear hF
  intro A67 ρ67 hF e67 k67
  replace ag : ∀ t, t ≤ 31 → ρ67 t = ρ t := fun t ht => (k67 t (by omega)).trans (ag t ht)
  replace f390 := (k67 390 (by decide)).trans f390
  have f391 := e67
  clear e67 k67
  refine q_st (v := .slice (some ⟨yf, 0, none⟩) (N + 70) kf) (d := 392) hF rfl (by decide) (.inr ⟨66, false, 390, rfl, rfl, by decide, f390⟩) (x_move (v := .slice (some ⟨yf, 0, none⟩) (N + 70) kf) hF rfl (by decide) ((ag 14 (by decide)).trans s14)) ?_
  clear hF
  intro A68 ρ68 hF e68 k68
  replace ag : ∀ t, t ≤ 31 → ρ68 t = ρ t := fun t ht => (k68 t (by omega)).trans (ag t ht)
  replace f390 := (k68 390 (by decide)).trans f390
  replace f391 := (k68 391 (by decide)).trans f391
  have f392 := e68
  clear e68 k68
  refine q_st (v := .int .i64 ((N + 70 : Nat) : Int)) (d := 393) hF rfl (by decide) (.inr ⟨66, false, 390, rfl, rfl, by decide, f390⟩) (x_len hF rfl (by decide) f392) ?_
  clear hF
  intro A69 ρ69 hF e69 k69
  replace ag : ∀ t, t ≤ 31 → ρ69 t = ρ t := fun t ht => (k69 t (by omega)).trans (ag t ht)
  replace f390 := (k69 390 (by decide)).trans f390
  replace f391 := (k69 391 (by decide)).trans f391
  clear f392
  have f393 := e69
  clear e69 k69
  refine q_st (v := .int .i64 (IntKind.i64.wrap (((N + 70 : Nat) : Int) - 70))) (d := 394) hF rfl (by decide) (.inr ⟨66, false, 390, rfl, rfl, by decide, f390⟩) (x_sub hF rfl (by decide) f393) ?_
  clear hF
  intro A70 ρ70 hF e70 k70
  replace ag : ∀ t, t ≤ 31 → ρ70 t = ρ t := fun t ht => (k70 t (by omega)).trans (ag t ht)
  replace f390 := (k70 390 (by decide)).trans f390
  replace f391 := (k70 391 (by decide)).trans f391
  clear f393
  have f394 := e70
  clear e70 k70
  refine q_st (v := .int .i64 (r : Int)) (d := 395) hF rfl (by decide) (.inr ⟨66, false, 390, rfl, rfl, by decide, f390⟩) (x_move (v := .int .i64 (r : Int)) hF rfl (by decide) ((ag 31 (by decide)).trans h31)) ?_
  clear hF
  intro A71 ρ71 hF e71 k71
  replace ag : ∀ t, t ≤ 31 → ρ71 t = ρ t := fun t ht => (k71 t (by omega)).trans (ag t ht)
  replace f390 := (k71 390 (by decide)).trans f390
  replace f391 := (k71 391 (by decide)).trans f391
  replace f394 := (k71 394 (by decide)).trans f394
  have f395 := e71
  clear e71 k71
  refine q_st (v := .int .i64 ((N + r : Nat) : Int)) (d := 396) hF rfl (by decide) (.inr ⟨66, false, 390, rfl, rfl, by decide, f390⟩) (x_addE hF rfl (by decide) (by decide) f394 f395 ixN) ?_
  clear hF
  intro A72 ρ72 hF e72 k72
  replace ag : ∀ t, t ≤ 31 → ρ72 t = ρ t := fun t ht => (k72 t (by omega)).trans (ag t ht)
  replace f390 := (k72 390 (by decide)).trans f390
  replace f391 := (k72 391 (by decide)).trans f391
  clear f394 f395
  have f396 := e72
  clear e72 k72
  refine q_st (v := .pointer (some ⟨yf, (N + r) * 2, none⟩)) (d := 397) hF rfl (by decide) (.inr ⟨66, false, 390, rfl, rfl, by decide, f390⟩) (x_idx hF rfl (by decide) (by decide) f391 f396 jxN) ?_
  clear hF
  intro A73 ρ73 hF e73 k73
  replace ag : ∀ t, t ≤ 31 → ρ73 t = ρ t := fun t ht => (k73 t (by omega)).trans (ag t ht)
  replace f390 := (k73 390 (by decide)).trans f390
  clear f391 f396
  have f397 := e73
  clear e73 k73
  refine q_st (v := .pointer (some ⟨yf, (N + r) * 2 + 1, none⟩)) (d := 398) hF rfl (by decide) (.inr ⟨66, false, 390, rfl, rfl, by decide, f390⟩) (x_fld hF rfl (by decide) (by decide) f397) ?_
  clear hF
  intro A74 ρ74 hF e74 k74
  replace ag : ∀ t, t ≤ 31 → ρ74 t = ρ t := fun t ht => (k74 t (by omega)).trans (ag t ht)
  replace f390 := (k74 390 (by decide)).trans f390
  clear f397
  have f398 := e74
  clear e74 k74
  refine q_st (v := .int .i64 (3 * (r : Int))) (d := 399) hF rfl (by decide) (.inr ⟨66, false, 390, rfl, rfl, by decide, f390⟩) (x_load hF rfl (by decide) f398 cf) ?_
  clear hF
  intro A75 ρ75 hF e75 k75
  replace ag : ∀ t, t ≤ 31 → ρ75 t = ρ t := fun t ht => (k75 t (by omega)).trans (ag t ht)
  replace f390 := (k75 390 (by decide)).trans f390
  clear f398
  have f399 := e75
  clear e75 k75
  refine q_st (v := .int .i64 (r : Int)) (d := 400) hF rfl (by decide) (.inr ⟨66, false, 390, rfl, rfl, by decide, f390⟩) (x_move (v := .int .i64 (r : Int)) hF rfl (by decide) ((ag 31 (by decide)).trans h31)) ?_
  clear hF
  intro A76 ρ76 hF e76 k76
  replace ag : ∀ t, t ≤ 31 → ρ76 t = ρ t := fun t ht => (k76 t (by omega)).trans (ag t ht)
  replace f390 := (k76 390 (by decide)).trans f390
  replace f399 := (k76 399 (by decide)).trans f399
  have f400 := e76
  clear e76 k76
  refine q_st (v := .int .i64 (3 * (r : Int))) (d := 401) hF rfl (by decide) (.inr ⟨66, false, 390, rfl, rfl, by decide, f390⟩) (x_mulE hF rfl (by decide) f400 w3) ?_
  clear hF
  intro A77 ρ77 hF e77 k77
  replace ag : ∀ t, t ≤ 31 → ρ77 t = ρ t := fun t ht => (k77 t (by omega)).trans (ag t ht)
  replace f390 := (k77 390 (by decide)).trans f390
  replace f399 := (k77 399 (by decide)).trans f399
  clear f400
  have f401 := e77
  clear e77 k77
  refine q_st (v := .bool false) (d := 402) hF rfl (by decide) (.inr ⟨66, false, 390, rfl, rfl, by decide, f390⟩) (x_neq hF rfl (by decide) (by decide) f399 f401 rfl) ?_
  clear hF
  intro A78 ρ78 hF e78 k78
  replace ag : ∀ t, t ≤ 31 → ρ78 t = ρ t := fun t ht => (k78 t (by omega)).trans (ag t ht)
  replace f390 := (k78 390 (by decide)).trans f390
  clear f399 f401
  have f402 := e78
  clear e78 k78
  refine q_st (v := .bool false) (d := 403) hF rfl (by decide) (.inl rfl) (x_pick hF rfl (by decide) (by decide) f390 f402) ?_
  clear hF
  intro A79 ρ79 hF e79 k79
  replace ag : ∀ t, t ≤ 31 → ρ79 t = ρ t := fun t ht => (k79 t (by omega)).trans (ag t ht)
  clear f390 f402
  have f403 := e79
  clear e79 k79
  refine q_st (v := .bool false) (d := 404) hF rfl (by decide) (.inl rfl) (x_move (v := .bool false) hF rfl (by decide) f403) ?_
  clear hF
  intro A80 ρ80 hF e80 k80
  replace ag : ∀ t, t ≤ 31 → ρ80 t = ρ t := fun t ht => (k80 t (by omega)).trans (ag t ht)
  clear f403
  have f404 := e80
  clear e80 k80
  refine q_st (v := .slice (some ⟨ys, 0, none⟩) (N + 70) ks) (d := 405) hF rfl (by decide) (.inr ⟨80, false, 404, rfl, rfl, by decide, f404⟩) (x_move (v := .slice (some ⟨ys, 0, none⟩) (N + 70) ks) hF rfl (by decide) ((ag 19 (by decide)).trans s19)) ?_
  clear hF
  intro A81 ρ81 hF e81 k81
  replace ag : ∀ t, t ≤ 31 → ρ81 t = ρ t := fun t ht => (k81 t (by omega)).trans (ag t ht)
  replace f404 := (k81 404 (by decide)).trans f404
  have f405 := e81
  clear e81 k81
  refine q_st (v := .slice (some ⟨ys, 0, none⟩) (N + 70) ks) (d := 406) hF rfl (by decide) (.inr ⟨80, false, 404, rfl, rfl, by decide, f404⟩) (x_move (v := .slice (some ⟨ys, 0, none⟩) (N + 70) ks) hF rfl (by decide) ((ag 19 (by decide)).trans s19)) ?_
  clear hF
  intro A82 ρ82 hF e82 k82
  replace ag : ∀ t, t ≤ 31 → ρ82 t = ρ t := fun t ht => (k82 t (by omega)).trans (ag t ht)
  replace f404 := (k82 404 (by decide)).trans f404
  replace f405 := (k82 405 (by decide)).trans f405
  have f406 := e82
  clear e82 k82
  refine q_st (v := .int .i64 ((N + 70 : Nat) : Int)) (d := 407) hF rfl (by decide) (.inr ⟨80, false, 404, rfl, rfl, by decide, f404⟩) (x_len hF rfl (by decide) f406) ?_
  clear hF
  intro A83 ρ83 hF e83 k83
  replace ag : ∀ t, t ≤ 31 → ρ83 t = ρ t := fun t ht => (k83 t (by omega)).trans (ag t ht)
  replace f404 := (k83 404 (by decide)).trans f404
  replace f405 := (k83 405 (by decide)).trans f405
  clear f406
  have f407 := e83
  clear e83 k83
  refine q_st (v := .int .i64 (IntKind.i64.wrap (((N + 70 : Nat) : Int) - 70))) (d := 408) hF rfl (by decide) (.inr ⟨80, false, 404, rfl, rfl, by decide, f404⟩) (x_sub hF rfl (by decide) f407) ?_
  clear hF
  intro A84 ρ84 hF e84 k84
  replace ag : ∀ t, t ≤ 31 → ρ84 t = ρ t := fun t ht => (k84 t (by omega)).trans (ag t ht)
  replace f404 := (k84 404 (by decide)).trans f404
  replace f405 := (k84 405 (by decide)).trans f405
  clear f407
  have f408 := e84
  clear e84 k84
  refine q_st (v := .int .i64 (r : Int)) (d := 409) hF rfl (by decide) (.inr ⟨80, false, 404, rfl, rfl, by decide, f404⟩) (x_move (v := .int .i64 (r : Int)) hF rfl (by decide) ((ag 31 (by decide)).trans h31)) ?_
  clear hF
  intro A85 ρ85 hF e85 k85
  replace ag : ∀ t, t ≤ 31 → ρ85 t = ρ t := fun t ht => (k85 t (by omega)).trans (ag t ht)
  replace f404 := (k85 404 (by decide)).trans f404
  replace f405 := (k85 405 (by decide)).trans f405
  replace f408 := (k85 408 (by decide)).trans f408
  have f409 := e85
  clear e85 k85
  refine q_st (v := .int .i64 ((N + r : Nat) : Int)) (d := 410) hF rfl (by decide) (.inr ⟨80, false, 404, rfl, rfl, by decide, f404⟩) (x_addE hF rfl (by decide) (by decide) f408 f409 ixN) ?_
  clear hF
  intro A86 ρ86 hF e86 k86
  replace ag : ∀ t, t ≤ 31 → ρ86 t = ρ t := fun t ht => (k86 t (by omega)).trans (ag t ht)
  replace f404 := (k86 404 (by decide)).trans f404
  replace f405 := (k86 405 (by decide)).trans f405
  clear f408 f409
  have f410 := e86
  clear e86 k86
  refine q_st (v := .pointer (some ⟨ys, (N + r) * 2, none⟩)) (d := 411) hF rfl (by decide) (.inr ⟨80, false, 404, rfl, rfl, by decide, f404⟩) (x_idx hF rfl (by decide) (by decide) f405 f410 jxN) ?_
  clear hF
  intro A87 ρ87 hF e87 k87
  replace ag : ∀ t, t ≤ 31 → ρ87 t = ρ t := fun t ht => (k87 t (by omega)).trans (ag t ht)
  replace f404 := (k87 404 (by decide)).trans f404
  clear f405 f410
  have f411 := e87
  clear e87 k87
  refine q_st (v := .pointer (some ⟨ys, (N + r) * 2 + 1, none⟩)) (d := 412) hF rfl (by decide) (.inr ⟨80, false, 404, rfl, rfl, by decide, f404⟩) (x_fld hF rfl (by decide) (by decide) f411) ?_
  clear hF
  intro A88 ρ88 hF e88 k88
  replace ag : ∀ t, t ≤ 31 → ρ88 t = ρ t := fun t ht => (k88 t (by omega)).trans (ag t ht)
  replace f404 := (k88 404 (by decide)).trans f404
  clear f411
  have f412 := e88
  clear e88 k88
  refine q_st (v := .int .i64 (4 * (r : Int))) (d := 413) hF rfl (by decide) (.inr ⟨80, false, 404, rfl, rfl, by decide, f404⟩) (x_load hF rfl (by decide) f412 cs) ?_
  clear hF
  intro A89 ρ89 hF e89 k89
  replace ag : ∀ t, t ≤ 31 → ρ89 t = ρ t := fun t ht => (k89 t (by omega)).trans (ag t ht)
  replace f404 := (k89 404 (by decide)).trans f404
  clear f412
  have f413 := e89
  clear e89 k89
  refine q_st (v := .int .i64 (r : Int)) (d := 414) hF rfl (by decide) (.inr ⟨80, false, 404, rfl, rfl, by decide, f404⟩) (x_move (v := .int .i64 (r : Int)) hF rfl (by decide) ((ag 31 (by decide)).trans h31)) ?_
  clear hF
  intro A90 ρ90 hF e90 k90
  replace ag : ∀ t, t ≤ 31 → ρ90 t = ρ t := fun t ht => (k90 t (by omega)).trans (ag t ht)
  replace f404 := (k90 404 (by decide)).trans f404
  replace f413 := (k90 413 (by decide)).trans f413
  have f414 := e90
  clear e90 k90
  refine q_st (v := .int .i64 (4 * (r : Int))) (d := 415) hF rfl (by decide) (.inr ⟨80, false, 404, rfl, rfl, by decide, f404⟩) (x_mulE hF rfl (by decide) f414 w4) ?_
  clear hF
  intro A91 ρ91 hF e91 k91
  replace ag : ∀ t, t ≤ 31 → ρ91 t = ρ t := fun t ht => (k91 t (by omega)).trans (ag t ht)
  replace f404 := (k91 404 (by decide)).trans f404
  replace f413 := (k91 413 (by decide)).trans f413
  clear f414
  have f415 := e91
  clear e91 k91
  refine q_st (v := .bool false) (d := 416) hF rfl (by decide) (.inr ⟨80, false, 404, rfl, rfl, by decide, f404⟩) (x_neq hF rfl (by decide) (by decide) f413 f415 rfl) ?_
  clear hF
  intro A92 ρ92 hF e92 k92
  replace ag : ∀ t, t ≤ 31 → ρ92 t = ρ t := fun t ht => (k92 t (by omega)).trans (ag t ht)
  replace f404 := (k92 404 (by decide)).trans f404
  clear f413 f415
  have f416 := e92
  clear e92 k92
  refine q_st (v := .bool false) (d := 417) hF rfl (by decide) (.inl rfl) (x_pick hF rfl (by decide) (by decide) f404 f416) ?_
  clear hF
  intro A93 ρ93 hF e93 k93
  replace ag : ∀ t, t ≤ 31 → ρ93 t = ρ t := fun t ht => (k93 t (by omega)).trans (ag t ht)
  clear f404 f416
  have f417 := e93
  clear e93 k93
  refine q_st (v := .bool false) (d := 418) hF rfl (by decide) (.inl rfl) (x_move (v := .bool false) hF rfl (by decide) f417) ?_
  clear hF
  intro A94 ρ94 hF e94 k94
  replace ag : ∀ t, t ≤ 31 → ρ94 t = ρ t := fun t ht => (k94 t (by omega)).trans (ag t ht)
  clear f417
  have f418 := e94
  clear e94 k94
  refine q_st (v := .slice (some ⟨yt, 0, none⟩) (N + 70) kt) (d := 419) hF rfl (by decide) (.inr ⟨94, false, 418, rfl, rfl, by decide, f418⟩) (x_move (v := .slice (some ⟨yt, 0, none⟩) (N + 70) kt) hF rfl (by decide) ((ag 20 (by decide)).trans s20)) ?_
  clear hF
  intro A95 ρ95 hF e95 k95
  replace ag : ∀ t, t ≤ 31 → ρ95 t = ρ t := fun t ht => (k95 t (by omega)).trans (ag t ht)
  replace f418 := (k95 418 (by decide)).trans f418
  have f419 := e95
  clear e95 k95
  refine q_st (v := .slice (some ⟨yt, 0, none⟩) (N + 70) kt) (d := 420) hF rfl (by decide) (.inr ⟨94, false, 418, rfl, rfl, by decide, f418⟩) (x_move (v := .slice (some ⟨yt, 0, none⟩) (N + 70) kt) hF rfl (by decide) ((ag 20 (by decide)).trans s20)) ?_
  clear hF
  intro A96 ρ96 hF e96 k96
  replace ag : ∀ t, t ≤ 31 → ρ96 t = ρ t := fun t ht => (k96 t (by omega)).trans (ag t ht)
  replace f418 := (k96 418 (by decide)).trans f418
  replace f419 := (k96 419 (by decide)).trans f419
  have f420 := e96
  clear e96 k96
  refine q_st (v := .int .i64 ((N + 70 : Nat) : Int)) (d := 421) hF rfl (by decide) (.inr ⟨94, false, 418, rfl, rfl, by decide, f418⟩) (x_len hF rfl (by decide) f420) ?_
  clear hF
  intro A97 ρ97 hF e97 k97
  replace ag : ∀ t, t ≤ 31 → ρ97 t = ρ t := fun t ht => (k97 t (by omega)).trans (ag t ht)
  replace f418 := (k97 418 (by decide)).trans f418
  replace f419 := (k97 419 (by decide)).trans f419
  clear f420
  have f421 := e97
  clear e97 k97
  refine q_st (v := .int .i64 (IntKind.i64.wrap (((N + 70 : Nat) : Int) - 70))) (d := 422) hF rfl (by decide) (.inr ⟨94, false, 418, rfl, rfl, by decide, f418⟩) (x_sub hF rfl (by decide) f421) ?_
  clear hF
  intro A98 ρ98 hF e98 k98
  replace ag : ∀ t, t ≤ 31 → ρ98 t = ρ t := fun t ht => (k98 t (by omega)).trans (ag t ht)
  replace f418 := (k98 418 (by decide)).trans f418
  replace f419 := (k98 419 (by decide)).trans f419
  clear f421
  have f422 := e98
  clear e98 k98
  refine q_st (v := .int .i64 (r : Int)) (d := 423) hF rfl (by decide) (.inr ⟨94, false, 418, rfl, rfl, by decide, f418⟩) (x_move (v := .int .i64 (r : Int)) hF rfl (by decide) ((ag 31 (by decide)).trans h31)) ?_
  clear hF
  intro A99 ρ99 hF e99 k99
  replace ag : ∀ t, t ≤ 31 → ρ99 t = ρ t := fun t ht => (k99 t (by omega)).trans (ag t ht)
  replace f418 := (k99 418 (by decide)).trans f418
  replace f419 := (k99 419 (by decide)).trans f419
  replace f422 := (k99 422 (by decide)).trans f422
  have f423 := e99
  clear e99 k99
  refine q_st (v := .int .i64 ((N + r : Nat) : Int)) (d := 424) hF rfl (by decide) (.inr ⟨94, false, 418, rfl, rfl, by decide, f418⟩) (x_addE hF rfl (by decide) (by decide) f422 f423 ixN) ?_
  clear hF
  intro A100 ρ100 hF e100 k100
  replace ag : ∀ t, t ≤ 31 → ρ100 t = ρ t := fun t ht => (k100 t (by omega)).trans (ag t ht)
  replace f418 := (k100 418 (by decide)).trans f418
  replace f419 := (k100 419 (by decide)).trans f419
  clear f422 f423
  have f424 := e100
  clear e100 k100
  refine q_st (v := .pointer (some ⟨yt, (N + r) * 2, none⟩)) (d := 425) hF rfl (by decide) (.inr ⟨94, false, 418, rfl, rfl, by decide, f418⟩) (x_idx hF rfl (by decide) (by decide) f419 f424 jxN) ?_
  clear hF
  intro A101 ρ101 hF e101 k101
  replace ag : ∀ t, t ≤ 31 → ρ101 t = ρ t := fun t ht => (k101 t (by omega)).trans (ag t ht)
  replace f418 := (k101 418 (by decide)).trans f418
  clear f419 f424
  have f425 := e101
  clear e101 k101
  refine q_st (v := .pointer (some ⟨yt, (N + r) * 2 + 1, none⟩)) (d := 426) hF rfl (by decide) (.inr ⟨94, false, 418, rfl, rfl, by decide, f418⟩) (x_fld hF rfl (by decide) (by decide) f425) ?_
  clear hF
  intro A102 ρ102 hF e102 k102
  replace ag : ∀ t, t ≤ 31 → ρ102 t = ρ t := fun t ht => (k102 t (by omega)).trans (ag t ht)
  replace f418 := (k102 418 (by decide)).trans f418
  clear f425
  have f426 := e102
  clear e102 k102
  refine q_st (v := .int .i64 (5 * (r : Int))) (d := 427) hF rfl (by decide) (.inr ⟨94, false, 418, rfl, rfl, by decide, f418⟩) (x_load hF rfl (by decide) f426 ct) ?_
  clear hF
  intro A103 ρ103 hF e103 k103
  replace ag : ∀ t, t ≤ 31 → ρ103 t = ρ t := fun t ht => (k103 t (by omega)).trans (ag t ht)
  replace f418 := (k103 418 (by decide)).trans f418
  clear f426
  have f427 := e103
  clear e103 k103
  refine q_st (v := .int .i64 (r : Int)) (d := 428) hF rfl (by decide) (.inr ⟨94, false, 418, rfl, rfl, by decide, f418⟩) (x_move (v := .int .i64 (r : Int)) hF rfl (by decide) ((ag 31 (by decide)).trans h31)) ?_
  clear hF
  intro A104 ρ104 hF e104 k104
  replace ag : ∀ t, t ≤ 31 → ρ104 t = ρ t := fun t ht => (k104 t (by omega)).trans (ag t ht)
  replace f418 := (k104 418 (by decide)).trans f418
  replace f427 := (k104 427 (by decide)).trans f427
  have f428 := e104
  clear e104 k104
  refine q_st (v := .int .i64 (5 * (r : Int))) (d := 429) hF rfl (by decide) (.inr ⟨94, false, 418, rfl, rfl, by decide, f418⟩) (x_mulE hF rfl (by decide) f428 w5) ?_
  clear hF
  intro A105 ρ105 hF e105 k105
  replace ag : ∀ t, t ≤ 31 → ρ105 t = ρ t := fun t ht => (k105 t (by omega)).trans (ag t ht)
  replace f418 := (k105 418 (by decide)).trans f418
  replace f427 := (k105 427 (by decide)).trans f427
  clear f428
  have f429 := e105
  clear e105 k105
  refine q_st (v := .bool false) (d := 430) hF rfl (by decide) (.inr ⟨94, false, 418, rfl, rfl, by decide, f418⟩) (x_neq hF rfl (by decide) (by decide) f427 f429 rfl) ?_
  clear hF
  intro A106 ρ106 hF e106 k106
  replace ag : ∀ t, t ≤ 31 → ρ106 t = ρ t := fun t ht => (k106 t (by omega)).trans (ag t ht)
  replace f418 := (k106 418 (by decide)).trans f418
  clear f427 f429
  have f430 := e106
  clear e106 k106
  refine q_st (v := .bool false) (d := 431) hF rfl (by decide) (.inl rfl) (x_pick hF rfl (by decide) (by decide) f418 f430) ?_
  clear hF
  intro A107 ρ107 hF e107 k107
  replace ag : ∀ t, t ≤ 31 → ρ107 t = ρ t := fun t ht => (k107 t (by omega)).trans (ag t ht)
  clear f418 f430
  have f431 := e107
  clear e107 k107
  refine q_st (v := .bool false) (d := 432) hF rfl (by decide) (.inl rfl) (x_move (v := .bool false) hF rfl (by decide) f431) ?_
  clear hF
  intro A108 ρ108 hF e108 k108
  replace ag : ∀ t, t ≤ 31 → ρ108 t = ρ t := fun t ht => (k108 t (by omega)).trans (ag t ht)
  clear f431
  have f432 := e108
  clear e108 k108
  refine q_st (v := .slice (some ⟨yg, 0, none⟩) (N + 70) kg) (d := 433) hF rfl (by decide) (.inr ⟨108, false, 432, rfl, rfl, by decide, f432⟩) (x_move (v := .slice (some ⟨yg, 0, none⟩) (N + 70) kg) hF rfl (by decide) ((ag 15 (by decide)).trans s15)) ?_
  clear hF
  intro A109 ρ109 hF e109 k109
  replace ag : ∀ t, t ≤ 31 → ρ109 t = ρ t := fun t ht => (k109 t (by omega)).trans (ag t ht)
  replace f432 := (k109 432 (by decide)).trans f432
  have f433 := e109
  clear e109 k109
  refine q_st (v := .slice (some ⟨yg, 0, none⟩) (N + 70) kg) (d := 434) hF rfl (by decide) (.inr ⟨108, false, 432, rfl, rfl, by decide, f432⟩) (x_move (v := .slice (some ⟨yg, 0, none⟩) (N + 70) kg) hF rfl (by decide) ((ag 15 (by decide)).trans s15)) ?_
  clear hF
  intro A110 ρ110 hF e110 k110
  replace ag : ∀ t, t ≤ 31 → ρ110 t = ρ t := fun t ht => (k110 t (by omega)).trans (ag t ht)
  replace f432 := (k110 432 (by decide)).trans f432
  replace f433 := (k110 433 (by decide)).trans f433
  have f434 := e110
  clear e110 k110
  refine q_st (v := .int .i64 ((N + 70 : Nat) : Int)) (d := 435) hF rfl (by decide) (.inr ⟨108, false, 432, rfl, rfl, by decide, f432⟩) (x_lenN hF rfl (by decide) f434) ?_
  clear hF
  intro A111 ρ111 hF e111 k111
  replace ag : ∀ t, t ≤ 31 → ρ111 t = ρ t := fun t ht => (k111 t (by omega)).trans (ag t ht)
  replace f432 := (k111 432 (by decide)).trans f432
  replace f433 := (k111 433 (by decide)).trans f433
  clear f434
  have f435 := e111
  clear e111 k111
  refine q_st (v := .int .i64 (IntKind.i64.wrap (((N + 70 : Nat) : Int) - 70))) (d := 436) hF rfl (by decide) (.inr ⟨108, false, 432, rfl, rfl, by decide, f432⟩) (x_sub hF rfl (by decide) f435) ?_
  clear hF
  intro A112 ρ112 hF e112 k112
  replace ag : ∀ t, t ≤ 31 → ρ112 t = ρ t := fun t ht => (k112 t (by omega)).trans (ag t ht)
  replace f432 := (k112 432 (by decide)).trans f432
  replace f433 := (k112 433 (by decide)).trans f433
  clear f435
  have f436 := e112
  clear e112 k112
  refine q_st (v := .int .i64 (r : Int)) (d := 437) hF rfl (by decide) (.inr ⟨108, false, 432, rfl, rfl, by decide, f432⟩) (x_move (v := .int .i64 (r : Int)) hF rfl (by decide) ((ag 31 (by decide)).trans h31)) ?_
  clear hF
  intro A113 ρ113 hF e113 k113
  replace ag : ∀ t, t ≤ 31 → ρ113 t = ρ t := fun t ht => (k113 t (by omega)).trans (ag t ht)
  replace f432 := (k113 432 (by decide)).trans f432
  replace f433 := (k113 433 (by decide)).trans f433
  replace f436 := (k113 436 (by decide)).trans f436
  have f437 := e113
  clear e113 k113
  refine q_st (v := .int .i64 ((N + r : Nat) : Int)) (d := 438) hF rfl (by decide) (.inr ⟨108, false, 432, rfl, rfl, by decide, f432⟩) (x_addE hF rfl (by decide) (by decide) f436 f437 ixN) ?_
  clear hF
  intro A114 ρ114 hF e114 k114
  replace ag : ∀ t, t ≤ 31 → ρ114 t = ρ t := fun t ht => (k114 t (by omega)).trans (ag t ht)
  replace f432 := (k114 432 (by decide)).trans f432
  replace f433 := (k114 433 (by decide)).trans f433
  clear f436 f437
  have f438 := e114
  clear e114 k114
  refine q_st (v := .pointer (some ⟨yg, N + r, none⟩)) (d := 439) hF rfl (by decide) (.inr ⟨108, false, 432, rfl, rfl, by decide, f432⟩) (x_idxN hF rfl (by decide) (by decide) f433 f438 jxN) ?_
  clear hF
  intro A115 ρ115 hF e115 k115
  replace ag : ∀ t, t ≤ 31 → ρ115 t = ρ t := fun t ht => (k115 t (by omega)).trans (ag t ht)
  replace f432 := (k115 432 (by decide)).trans f432
  clear f433 f438
  have f439 := e115
  clear e115 k115
  refine q_st (v := .int .i64 ((r : Int))) (d := 440) hF rfl (by decide) (.inr ⟨108, false, 432, rfl, rfl, by decide, f432⟩) (x_load hF rfl (by decide) f439 cg) ?_
  clear hF
  intro A116 ρ116 hF e116 k116
  replace ag : ∀ t, t ≤ 31 → ρ116 t = ρ t := fun t ht => (k116 t (by omega)).trans (ag t ht)
  replace f432 := (k116 432 (by decide)).trans f432
  clear f439
  have f440 := e116
  clear e116 k116
  refine q_st (v := .int .i64 (r : Int)) (d := 441) hF rfl (by decide) (.inr ⟨108, false, 432, rfl, rfl, by decide, f432⟩) (x_move (v := .int .i64 (r : Int)) hF rfl (by decide) ((ag 31 (by decide)).trans h31)) ?_
  clear hF
  intro A117 ρ117 hF e117 k117
  replace ag : ∀ t, t ≤ 31 → ρ117 t = ρ t := fun t ht => (k117 t (by omega)).trans (ag t ht)
  replace f432 := (k117 432 (by decide)).trans f432
  replace f440 := (k117 440 (by decide)).trans f440
  have f441 := e117
  clear e117 k117
  refine q_st (v := .bool false) (d := 442) hF rfl (by decide) (.inr ⟨108, false, 432, rfl, rfl, by decide, f432⟩) (x_neq hF rfl (by decide) (by decide) f440 f441 rfl) ?_
  clear hF
  intro A118 ρ118 hF e118 k118
  replace ag : ∀ t, t ≤ 31 → ρ118 t = ρ t := fun t ht => (k118 t (by omega)).trans (ag t ht)
  replace f432 := (k118 432 (by decide)).trans f432
  clear f440 f441
  have f442 := e118
  clear e118 k118
  refine q_st (v := .bool false) (d := 443) hF rfl (by decide) (.inl rfl) (x_pick hF rfl (by decide) (by decide) f432 f442) ?_
  clear hF
  intro A119 ρ119 hF e119 k119
  replace ag : ∀ t, t ≤ 31 → ρ119 t = ρ t := fun t ht => (k119 t (by omega)).trans (ag t ht)
  clear f432 f442
  have f443 := e119
  clear e119 k119
  refine q_st (v := .bool false) (d := 444) hF rfl (by decide) (.inl rfl) (x_move (v := .bool false) hF rfl (by decide) f443) ?_
  clear hF
  intro A120 ρ120 hF e120 k120
  replace ag : ∀ t, t ≤ 31 → ρ120 t = ρ t := fun t ht => (k120 t (by omega)).trans (ag t ht)
  clear f443
  have f444 := e120
  clear e120 k120
  refine q_st (v := .slice (some ⟨yh, 0, none⟩) (N + 70) kh) (d := 445) hF rfl (by decide) (.inr ⟨120, false, 444, rfl, rfl, by decide, f444⟩) (x_move (v := .slice (some ⟨yh, 0, none⟩) (N + 70) kh) hF rfl (by decide) ((ag 16 (by decide)).trans s16)) ?_
  clear hF
  intro A121 ρ121 hF e121 k121
  replace ag : ∀ t, t ≤ 31 → ρ121 t = ρ t := fun t ht => (k121 t (by omega)).trans (ag t ht)
  replace f444 := (k121 444 (by decide)).trans f444
  have f445 := e121
  clear e121 k121
  refine q_st (v := .slice (some ⟨yh, 0, none⟩) (N + 70) kh) (d := 446) hF rfl (by decide) (.inr ⟨120, false, 444, rfl, rfl, by decide, f444⟩) (x_move (v := .slice (some ⟨yh, 0, none⟩) (N + 70) kh) hF rfl (by decide) ((ag 16 (by decide)).trans s16)) ?_
  clear hF
  intro A122 ρ122 hF e122 k122
  replace ag : ∀ t, t ≤ 31 → ρ122 t = ρ t := fun t ht => (k122 t (by omega)).trans (ag t ht)
  replace f444 := (k122 444 (by decide)).trans f444
  replace f445 := (k122 445 (by decide)).trans f445
  have f446 := e122
  clear e122 k122
  refine q_st (v := .int .i64 ((N + 70 : Nat) : Int)) (d := 447) hF rfl (by decide) (.inr ⟨120, false, 444, rfl, rfl, by decide, f444⟩) (x_lenN hF rfl (by decide) f446) ?_
  clear hF
  intro A123 ρ123 hF e123 k123
  replace ag : ∀ t, t ≤ 31 → ρ123 t = ρ t := fun t ht => (k123 t (by omega)).trans (ag t ht)
  replace f444 := (k123 444 (by decide)).trans f444
  replace f445 := (k123 445 (by decide)).trans f445
  clear f446
  have f447 := e123
  clear e123 k123
  refine q_st (v := .int .i64 (IntKind.i64.wrap (((N + 70 : Nat) : Int) - 70))) (d := 448) hF rfl (by decide) (.inr ⟨120, false, 444, rfl, rfl, by decide, f444⟩) (x_sub hF rfl (by decide) f447) ?_
  clear hF
  intro A124 ρ124 hF e124 k124
  replace ag : ∀ t, t ≤ 31 → ρ124 t = ρ t := fun t ht => (k124 t (by omega)).trans (ag t ht)
  replace f444 := (k124 444 (by decide)).trans f444
  replace f445 := (k124 445 (by decide)).trans f445
  clear f447
  have f448 := e124
  clear e124 k124
  refine q_st (v := .int .i64 (r : Int)) (d := 449) hF rfl (by decide) (.inr ⟨120, false, 444, rfl, rfl, by decide, f444⟩) (x_move (v := .int .i64 (r : Int)) hF rfl (by decide) ((ag 31 (by decide)).trans h31)) ?_
  clear hF
  intro A125 ρ125 hF e125 k125
  replace ag : ∀ t, t ≤ 31 → ρ125 t = ρ t := fun t ht => (k125 t (by omega)).trans (ag t ht)
  replace f444 := (k125 444 (by decide)).trans f444
  replace f445 := (k125 445 (by decide)).trans f445
  replace f448 := (k125 448 (by decide)).trans f448
  have f449 := e125
  clear e125 k125
  refine q_st (v := .int .i64 ((N + r : Nat) : Int)) (d := 450) hF rfl (by decide) (.inr ⟨120, false, 444, rfl, rfl, by decide, f444⟩) (x_addE hF rfl (by decide) (by decide) f448 f449 ixN) ?_
  clear hF
  intro A126 ρ126 hF e126 k126
  replace ag : ∀ t, t ≤ 31 → ρ126 t = ρ t := fun t ht => (k126 t (by omega)).trans (ag t ht)
  replace f444 := (k126 444 (by decide)).trans f444
  replace f445 := (k126 445 (by decide)).trans f445
  clear f448 f449
  have f450 := e126
  clear e126 k126
  refine q_st (v := .pointer (some ⟨yh, N + r, none⟩)) (d := 451) hF rfl (by decide) (.inr ⟨120, false, 444, rfl, rfl, by decide, f444⟩) (x_idxN hF rfl (by decide) (by decide) f445 f450 jxN) ?_
  clear hF
  intro A127 ρ127 hF e127 k127
  replace ag : ∀ t, t ≤ 31 → ρ127 t = ρ t := fun t ht => (k127 t (by omega)).trans (ag t ht)
  replace f444 := (k127 444 (by decide)).trans f444
  clear f445 f450
  have f451 := e127
  clear e127 k127
  refine q_st (v := .int .i64 (-(r : Int))) (d := 452) hF rfl (by decide) (.inr ⟨120, false, 444, rfl, rfl, by decide, f444⟩) (x_load hF rfl (by decide) f451 ch) ?_
  clear hF
  intro A128 ρ128 hF e128 k128
  replace ag : ∀ t, t ≤ 31 → ρ128 t = ρ t := fun t ht => (k128 t (by omega)).trans (ag t ht)
  replace f444 := (k128 444 (by decide)).trans f444
  clear f451
  have f452 := e128
  clear e128 k128
  refine q_st (v := .int .i64 (r : Int)) (d := 453) hF rfl (by decide) (.inr ⟨120, false, 444, rfl, rfl, by decide, f444⟩) (x_move (v := .int .i64 (r : Int)) hF rfl (by decide) ((ag 31 (by decide)).trans h31)) ?_
  clear hF
  intro A129 ρ129 hF e129 k129
  replace ag : ∀ t, t ≤ 31 → ρ129 t = ρ t := fun t ht => (k129 t (by omega)).trans (ag t ht)
  replace f444 := (k129 444 (by decide)).trans f444
  replace f452 := (k129 452 (by decide)).trans f452
  have f453 := e129
  clear e129 k129
  refine q_st (v := .int .i64 (-(r : Int))) (d := 454) hF rfl (by decide) (.inr ⟨120, false, 444, rfl, rfl, by decide, f444⟩) (x_negE hF rfl (by decide) f453 wn) ?_
  clear hF
  intro A130 ρ130 hF e130 k130
  replace ag : ∀ t, t ≤ 31 → ρ130 t = ρ t := fun t ht => (k130 t (by omega)).trans (ag t ht)
  replace f444 := (k130 444 (by decide)).trans f444
  replace f452 := (k130 452 (by decide)).trans f452
  clear f453
  have f454 := e130
  clear e130 k130
  refine q_st (v := .bool false) (d := 455) hF rfl (by decide) (.inr ⟨120, false, 444, rfl, rfl, by decide, f444⟩) (x_neq hF rfl (by decide) (by decide) f452 f454 rfl) ?_
  clear hF
  intro A131 ρ131 hF e131 k131
  replace ag : ∀ t, t ≤ 31 → ρ131 t = ρ t := fun t ht => (k131 t (by omega)).trans (ag t ht)
  replace f444 := (k131 444 (by decide)).trans f444
  clear f452 f454
  have f455 := e131
  clear e131 k131
  refine q_st (v := .bool false) (d := 456) hF rfl (by decide) (.inl rfl) (x_pick hF rfl (by decide) (by decide) f444 f455) ?_
  clear hF
  intro A132 ρ132 hF e132 k132
  replace ag : ∀ t, t ≤ 31 → ρ132 t = ρ t := fun t ht => (k132 t (by omega)).trans (ag t ht)
  clear f444 f455
  have f456 := e132
  clear e132 k132
  exact HQ _ _ hF ag f456
end Go.Proofs.Ytdmlehbamdcjcab
