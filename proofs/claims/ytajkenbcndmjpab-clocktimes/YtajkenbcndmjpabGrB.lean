/-
  What lies in memory while clocks are gone on with; its steps.
-/
import Derived.Test.YtajkenbcndmjpabGrA
namespace Go.Proofs.Ytajkenbcndmjpab
open Go.RowKit
/-- Marks of the i-th. -/
def mks (l k : Nat) : List Tk := List.replicate k ⟨-1 - (l : Int), -1⟩
theorem mk_len (l k : Nat) : (mks l k).length = k := List.length_replicate
theorem mk_next (l k : Nat) : mks l k ++ [⟨-1 - (l : Int), -1⟩] = mks l (k + 1) := by unfold mks; rw [List.replicate_succ']
theorem mk_at {l k i : Nat} (h : i < k) : (mks l k)[i]? = some ⟨-1 - (l : Int), -1⟩ := by unfold mks; rw [List.getElem?_replicate, if_pos h]
section
variable {P : List (Sl × List Tk)} {U M : List Sl} {w w' W W' : World} {b : Nat}
/-- The clocks, from one on. -/
def fA (P : List (Sl × List Tk)) (lo : Nat) (v : Value) (L : List Tk) (l : Nat) : Prop := lo ≤ l ∧ ∃ s, P[l]? = some (s, L) ∧ v = s.val
/-- Their copies. -/
def fU (P : List (Sl × List Tk)) (U : List Sl) (v : Value) (L : List Tk) (l : Nat) : Prop := l = 1000 ∧ ∃ (j : Nat) (s s' : Sl), U[j]? = some s ∧ P[j]? = some (s', L) ∧ v = s.val
/-- What they were gone on with. -/
def fM (P : List (Sl × List Tk)) (M : List Sl) (v : Value) (L : List Tk) (l : Nat) : Prop := ∃ (s s' : Sl) (L' : List Tk), M[l]? = some s ∧ P[l]? = some (s', L') ∧ v = s.val ∧ L = L' ++ mks l 70
/-- The table of the clocks. -/
def Tb (P : List (Sl × List Tk)) (B : Nat) (W : World) : Prop := W.heap[B]? = some (.cells (layS.fl (P.map Prod.fst)).toArray 22 (0, 0))
theorem Tb.row {B : Nat} (h : Tb P B W) : TRow layS W (some ⟨B, 0, none⟩) P.length (P.map Prod.fst) := by
  refine ⟨List.length_map .., .inr ⟨B, 0, rfl, fun i x hx t u hu => ?_⟩⟩
  have ht : t < layS.z := by rw [← layS.len x]; exact get_lt hu
  rw [Nat.zero_add]
  refine cell_at h ?_
  rw [List.getElem?_toArray, layS.fl_get hx ht]
  exact hu
theorem Tb.cell {B i : Nat} {s : Sl} {L : List Tk} (h : Tb P B W) (hi : P[i]? = some (s, L)) : W.cell? ⟨B, i, none⟩ = some s.val := by
  have h1 : (P.map Prod.fst)[i]? = some s := by rw [List.getElem?_map, hi]; rfl
  obtain ⟨b', off, e, _, hc⟩ := h.row.at (by have := get_lt hi; omega)
  cases e
  have := hc i s h1 0 _ rfl
  simpa [layS] using this
theorem Tb.below {B : Nat} (h : Tb P B W) (hb : Below W.heap.size W W') : Tb P B W' := (hb.block _ (get_lt' h)).trans h
/-- A change of a row of entries does not touch it. -/
theorem Tb.pastT {B : Nat} (h : Tb P B W) {v : Value} {L : List Tk} {b2 : Nat} (ho : OwnT W b2 v L) (hb : But (fun q => v.ownBlock = some q) W W') : Tb P B W' :=
  (hb.block _ (get_lt' h) (fun e => own_ne_cells ho h (by decide) e)).trans h
theorem own_pastT {u : Value} {C : List Sl} {b1 b2 : Nat} (h : Own layS 22 W b1 u C) {v : Value} {L : List Tk} (ho : OwnT W b2 v L) (hb : But (fun q => v.ownBlock = some q) W W') : Own layS 22 W' b1 u C :=
  h.but hb (fun q hq e => by
    obtain ⟨c1, h1⟩ := own_ty h hq
    obtain ⟨c2, h2⟩ := own_ty ho e
    rw [h1] at h2
    simp at h2)
theorem layS_inj {M N : List Sl} (h : layS.fl M = layS.fl N) : M = N := by
  induction M generalizing N with
  | nil =>
    cases N with
    | nil => rfl
    | cons x N => have := congrArg List.length h; rw [layS.fl_len, layS.fl_len] at this; simp [layS] at this
  | cons x M ih =>
    cases N with
    | nil => have := congrArg List.length h; rw [layS.fl_len, layS.fl_len] at this; simp [layS] at this
    | cons y N =>
      rw [layS.fl_cons, layS.fl_cons] at h
      have h1 : Value.slice x.a x.n x.c :: layS.fl M = Value.slice y.a y.n y.c :: layS.fl N := h
      injection h1 with h2 h3
      injection h2 with e1 e2 e3
      have : x = y := by cases x; cases y; simp at e1 e2 e3; subst e1; subst e2; subst e3; rfl
      rw [this, ih h3]
theorem own_uniqS {u : Value} {b1 : Nat} {M N : List Sl} (h : Own layS 22 W b1 u M) (k : Own layS 22 W b1 u N) (hl : M.length = N.length) : M = N := by
  apply layS_inj
  unfold Own at h k
  rcases h.2 with ⟨_, e⟩ | ⟨g, c, cur, rfl, _, hh, _, _, _, ht⟩
  · have e2 := List.length_eq_zero_iff.1 e
    have e3 := List.length_eq_zero_iff.1 (hl ▸ e)
    rw [e2, e3]
  · rcases k.2 with ⟨e, _⟩ | ⟨g2, c2, cur2, e2, _, hh2, _, _, _, ht2⟩
    · cases e
    · injection e2 with e3 _ _
      injection e3 with e3
      injection e3 with e3
      subst e3
      rw [hh] at hh2
      simp at hh2
      subst hh2
      rw [← ht, ← ht2, hl]
/-- While the copies are made. -/
structure G1 (P : List (Sl × List Tk)) (b B : Nat) (w W : World) (vw : Value) (k : Nat) : Prop where
  ex : ∃ U : List Sl, U.length = k ∧ Own layS 22 W w.heap.size vw U ∧ Fm W b (fun v L l => fA P 0 v L l ∨ fU P U v L l)
  tb : Tb P B W
  lt : B < w.heap.size
  bel : Below w.heap.size w W
theorem G1.start {B : Nat} (hF : Fm w b (fA P 0)) (ht : Tb P B w) : G1 P b B w w (.slice none 0 0) 0 :=
  ⟨⟨[], rfl, Own.nil _ _ _ _, hF.mono (fun v L l h => by
    rcases h with h | ⟨_, j, s, s', h1, _⟩
    · exact h
    · simp at h1)⟩, ht, get_lt' ht, Below.refl _ _⟩
theorem G1.step {B : Nat} {vw vw' c : Value} {k : Nat} {s : Sl} {L : List Tk} {W2 : World} (h : G1 P b B w W vw k) (hk : P[k]? = some (s, L)) (hb : b ≤ w.heap.size) (hB1 : Below W.heap.size W W') (hc : OwnT W' W.heap.size c L) {sc : Sl} (hsc : c = sc.val)
    {U0 : List Sl} (hO0 : Own layS 22 W w.heap.size vw U0) (hU0 : U0.length = k) (hw : Own layS 22 W2 w.heap.size vw' (U0 ++ [sc])) (hg : But (fun q => vw.ownBlock = some q) W' W2) : G1 P b B w W2 vw' (k + 1) := by
  obtain ⟨U, hU, hO, hF⟩ := h.ex
  obtain rfl := own_uniqS hO0 hO (by omega)
  have hO' := hO.below hB1
  have hF1 := hF.add hB1 1000 hc (Nat.le_trans hb h.bel.size)
  have hF2 := hF1.past hO' hg (by decide)
  refine ⟨⟨U0 ++ [sc], by rw [List.length_append, hU]; rfl, hw, hF2.mono (fun v L' l h1 => ?_)⟩, ?_, h.lt, ?_⟩
  · rcases h1 with h1 | ⟨rfl, j, s1, s2, h1, h2, h3⟩
    · exact .inl (.inl h1)
    · by_cases hj : j < U0.length
      · rw [List.getElem?_append_left hj] at h1
        exact .inl (.inr ⟨rfl, j, s1, s2, h1, h2, h3⟩)
      · have hj2 := get_lt h1
        rw [List.length_append] at hj2
        simp at hj2
        obtain rfl : j = k := by omega
        rw [List.getElem?_append_right (by omega), hU, Nat.sub_self] at h1
        simp at h1
        subst h1
        rw [hk] at h2
        cases h2
        exact .inr ⟨by rw [h3, hsc], rfl, rfl⟩
  · have t1 := h.tb.below hB1
    refine (hg.block _ (get_lt' t1) (fun e => ?_)).trans t1
    have g1 := (hO'.lt _ e).1
    have := h.lt
    omega
  · have hb1 := Below.on h.bel hB1
    exact hb1.trans (hg.below hb1.size (fun q hq => (hO'.lt q hq).1))
/-- While they are gone on with. -/
structure GX (P : List (Sl × List Tk)) (b B : Nat) (w w1 W : World) (vw vm : Value) (k : Nat) (X : Value → List Tk → Nat → Prop) : Prop where
  ex : ∃ U M : List Sl, U.length = P.length ∧ M.length = k ∧ Own layS 22 W w.heap.size vw U ∧ Own layS 22 W w1.heap.size vm M ∧ Fm W b (fun v L l => fA P 0 v L l ∨ fU P U v L l ∨ fM P M v L l ∨ X v L l)
  tb : Tb P B W
  lt : B < w.heap.size
  wl : ∀ q, vw.ownBlock = some q → q < w1.heap.size
  hw1 : w.heap.size ≤ w1.heap.size
  sz : w1.heap.size ≤ W.heap.size
  bel : Below b w W
  bb : b ≤ w.heap.size
variable {w1 : World} {B k : Nat} {vw vm : Value} {X : Value → List Tk → Nat → Prop}
theorem GX.start (h : G1 P b B w W vw P.length) (hb : b ≤ w.heap.size) : GX P b B w W W vw (.slice none 0 0) 0 (fun _ _ _ => False) := by
  obtain ⟨U, hU, hO, hF⟩ := h.ex
  refine ⟨⟨U, [], hU, rfl, hO, Own.nil _ _ _ _, hF.mono (fun v L l h1 => ?_)⟩, h.tb, h.lt, fun q hq => (hO.lt q hq).2, h.bel.size, Nat.le_refl _, h.bel.mono hb, hb⟩
  rcases h1 with h1 | h1 | ⟨s, s', L', h1, _⟩ | h1
  · exact .inl h1
  · exact .inr h1
  · simp at h1
  · exact h1.elim
theorem GX.below (h : GX P b B w w1 W vw vm k X) (hb : Below W.heap.size W W') : GX P b B w w1 W' vw vm k X := by
  obtain ⟨U, M, h1, h2, h3, h4, h5⟩ := h.ex
  exact ⟨⟨U, M, h1, h2, h3.below hb, h4.below hb, h5.below hb⟩, h.tb.below hb, h.lt, h.wl, h.hw1, Nat.le_trans h.sz hb.size, h.bel.trans (hb.mono (Nat.le_trans h.bb h.bel.size)), h.bb⟩
theorem GX.old (h : GX P b B w w1 W vw vm k X) {i : Nat} {s : Sl} {L : List Tk} (hi : P[i]? = some (s, L)) : OwnT W b s.val L := by
  obtain ⟨U, M, _, _, _, _, h5⟩ := h.ex
  exact h5.own _ _ i (.inl ⟨Nat.zero_le _, s, hi, rfl⟩)
theorem GX.cur (h : GX P b B w w1 W vw vm k X) {v : Value} {L : List Tk} {l : Nat} (hx : X v L l) : OwnT W b v L := by
  obtain ⟨U, M, _, _, _, _, h5⟩ := h.ex
  exact h5.own _ _ l (.inr (.inr (.inr hx)))
theorem GX.grow (h : GX P b B w w1 W vw vm k X) {s : Sl} {Lk L0 L1 : List Tk} {v0 v1 : Value} (hk : P[k]? = some (s, Lk)) (h1000 : k < 1000) (hX : ∀ v L l, X v L l → l = k ∧ L.length ≤ L0.length) (h0 : (v0 = s.val ∧ L0 = Lk) ∨ X v0 L0 k) (hlen : Lk.length ≤ L0.length)
    (ho : OwnT W' b v1 L1) (hkp : OwnT W' b v0 L0) (hb : But (fun q => v0.ownBlock = some q) W W') (hv : ∀ q, v1.ownBlock = some q → v0.ownBlock = some q ∨ W.heap.size ≤ q) : GX P b B w w1 W' vw vm k (fun v L l => v = v1 ∧ L = L1 ∧ l = k) := by
  obtain ⟨U, M, h1, h2, h3, h4, h5⟩ := h.ex
  have hin : fA P 0 v0 L0 k ∨ fU P U v0 L0 k ∨ fM P M v0 L0 k ∨ X v0 L0 k := by
    rcases h0 with ⟨rfl, rfl⟩ | h0
    · exact .inl ⟨Nat.zero_le _, s, hk, rfl⟩
    · exact .inr (.inr (.inr h0))
  have hO0 := h5.own _ _ _ hin
  have hF := h5.grow hin ho hkp (fun v L hv => by
    rcases hv with ⟨_, s', e1, _⟩ | ⟨e1, _⟩ | ⟨s', _, _, e1, _⟩ | e1
    · rw [hk] at e1; cases e1; exact hlen
    · omega
    · rw [List.getElem?_eq_none (by omega)] at e1; cases e1
    · exact (hX _ _ _ e1).2) hb hv
  refine ⟨⟨U, M, h1, h2, own_pastT h3 hO0 hb, own_pastT h4 hO0 hb, hF.mono (fun v L l e => ?_)⟩, h.tb.pastT hO0 hb, h.lt, h.wl, h.hw1, Nat.le_trans h.sz hb.size, ?_, h.bb⟩
  · rcases e with e | e | e | e
    · exact .inl (.inl e)
    · exact .inl (.inr (.inl e))
    · exact .inl (.inr (.inr (.inl e)))
    · exact .inr e
  · exact h.bel.trans (hb.below (Nat.le_trans h.bb h.bel.size) (fun q hq => (hO0.lt q hq).1))
/-- One more in the table. -/
theorem GX.push {s sm : Sl} {Lk : List Tk} {vm' : Value} (h : GX P b B w w1 W vw vm k (fun v L l => v = sm.val ∧ L = Lk ++ mks k 70 ∧ l = k)) (hk : P[k]? = some (s, Lk))
    {M0 : List Sl} (hO0 : Own layS 22 W w1.heap.size vm M0) (hM0 : M0.length = k) (hw : Own layS 22 W' w1.heap.size vm' (M0 ++ [sm])) (hg : But (fun q => vm.ownBlock = some q) W W') : GX P b B w w1 W' vw vm' (k + 1) (fun _ _ _ => False) := by
  obtain ⟨U, M, h1, h2, h3, h4, h5⟩ := h.ex
  obtain rfl := own_uniqS hO0 h4 (by omega)
  have hF := h5.past h4 hg (by decide)
  refine ⟨⟨U, M0 ++ [sm], h1, by rw [List.length_append, h2]; rfl, h3.but hg (fun q hq e => ?_), hw, hF.mono (fun v L l e => ?_)⟩, ?_, h.lt, h.wl, h.hw1, Nat.le_trans h.sz hg.size, ?_, h.bb⟩
  · have g1 := h.wl q hq
    have g2 := (h4.lt q e).1
    omega
  · rcases e with e | e | ⟨s1, s2, L', e1, e2, e3, e4⟩ | e
    · exact .inl e
    · exact .inr (.inl e)
    · by_cases hl : l < M0.length
      · rw [List.getElem?_append_left hl] at e1
        exact .inr (.inr (.inl ⟨s1, s2, L', e1, e2, e3, e4⟩))
      · have hj2 := get_lt e1
        rw [List.length_append] at hj2
        simp at hj2
        obtain rfl : l = k := by omega
        rw [List.getElem?_append_right (by omega), h2, Nat.sub_self] at e1
        simp at e1
        subst e1
        rw [hk] at e2
        cases e2
        exact .inr (.inr (.inr ⟨e3, e4, rfl⟩))
    · exact e.elim
  · refine (hg.block _ (get_lt' h.tb) (fun e => ?_)).trans h.tb
    have g1 := (h4.lt _ e).1
    have := h.lt
    have := h.hw1
    omega
  · refine h.bel.trans (hg.below (Nat.le_trans h.bb h.bel.size) (fun q hq => ?_))
    have g1 := (h4.lt q hq).1
    have := h.hw1
    have := h.bb
    omega
/-- What is read of it. -/
theorem GX.read (h : GX P b B w w1 W vw vm P.length X) {i : Nat} {s : Sl} {L : List Tk} (hi : P[i]? = some (s, L)) : ∃ gm cm g c, vm = .slice (some ⟨gm, 0, none⟩) P.length cm ∧ W.cell? ⟨B, i, none⟩ = some s.val ∧ s.n = L.length ∧ W.cell? ⟨gm, i, none⟩ = some (.slice (some ⟨g, 0, none⟩) (L.length + 70) c) ∧ ∀ t, t < 70 → W.cell? ⟨g, (L.length + t) * 2, none⟩ = some (.int .i64 (-1 - (i : Int))) := by
  obtain ⟨U, M, h1, h2, h3, h4, h5⟩ := h.ex
  have hil := get_lt hi
  obtain ⟨gm, cm, hv, _, _, _⟩ := h4.frm (by omega)
  rw [h2] at hv
  obtain ⟨sm, hsm⟩ := get_ex (L := M) (i := i) (by omega)
  have ho := h5.own _ _ i (.inr (.inr (.inl ⟨sm, s, L, hsm, hi, rfl, rfl⟩)))
  have hl : (L ++ mks i 70).length = L.length + 70 := by rw [List.length_append, mk_len]
  obtain ⟨g, c, hv2, _, _, _⟩ := ho.frm (by omega)
  rw [hl] at hv2
  have hos := h5.own _ _ i (.inl ⟨Nat.zero_le _, s, hi, rfl⟩)
  obtain ⟨_, _, hv3, _, _⟩ := own_form hos
  refine ⟨gm, cm, g, c, hv, h.tb.cell hi, by injection hv3, ?_, fun t ht => ?_⟩
  · subst hv
    have := h4.cell hsm 0 (u := sm.val) rfl
    rw [hv2] at this
    simpa [layS] using this
  · have hx : (L ++ mks i 70)[L.length + t]? = some ⟨-1 - (i : Int), -1⟩ := by
      rw [List.getElem?_append_right (by omega), Nat.add_sub_cancel_left]
      exact mk_at ht
    rw [hv2] at ho
    exact ho.cell hx 0 rfl
/-- While they are compared and written over. -/
structure G6 (P : List (Sl × List Tk)) (b B : Nat) (w W : World) (vw : Value) (i : Nat) : Prop where
  ex : ∃ U : List Sl, U.length = P.length ∧ Own layS 22 W w.heap.size vw U ∧ Fm W b (fun v L l => fA P i v L l ∨ fU P U v L l)
  tb : Tb P B W
  bel : Below b w W
  bb : b ≤ w.heap.size
theorem G6.start (h : GX P b B w w1 W vw vm k X) : G6 P b B w W vw 0 := by
  obtain ⟨U, M, h1, h2, h3, h4, h5⟩ := h.ex
  refine ⟨⟨U, h1, h3, h5.mono (fun v L l e => ?_)⟩, h.tb, h.bel, h.bb⟩
  rcases e with e | e
  · exact .inl e
  · exact .inr (.inl e)
theorem G6.below {i : Nat} (h : G6 P b B w W vw i) (hb : Below W.heap.size W W') : G6 P b B w W' vw i := by
  obtain ⟨U, h1, h3, h5⟩ := h.ex
  exact ⟨⟨U, h1, h3.below hb, h5.below hb⟩, h.tb.below hb, h.bel.trans (hb.mono (Nat.le_trans h.bb h.bel.size)), h.bb⟩
theorem G6.read {i : Nat} (h : G6 P b B w W vw i) {s : Sl} {L : List Tk} (hi : P[i]? = some (s, L)) : ∃ (gw cw : Nat) (su : Sl), vw = .slice (some ⟨gw, 0, none⟩) P.length cw ∧ W.cell? ⟨B, i, none⟩ = some s.val ∧ W.cell? ⟨gw, i, none⟩ = some su.val ∧ OwnT W b s.val L ∧ OwnT W b su.val L := by
  obtain ⟨U, h1, h3, h5⟩ := h.ex
  have hil := get_lt hi
  obtain ⟨gw, cw, hv, _, _, _⟩ := h3.frm (by omega)
  rw [h1] at hv
  obtain ⟨su, hsu⟩ := get_ex (L := U) (i := i) (by omega)
  refine ⟨gw, cw, su, hv, h.tb.cell hi, ?_, h5.own _ _ i (.inl ⟨Nat.le_refl _, s, hi, rfl⟩), h5.own _ _ 1000 (.inr ⟨rfl, i, su, s, hsu, hi, rfl⟩)⟩
  subst hv
  have := h3.cell hsu 0 (u := su.val) rfl
  simpa [layS] using this
/-- One is being written over. -/
structure G7 (P : List (Sl × List Tk)) (b B : Nat) (w W : World) (vw : Value) (i : Nat) (s : Sl) : Prop where
  ex : ∃ U : List Sl, U.length = P.length ∧ Own layS 22 W w.heap.size vw U ∧ Fm W b (fun v L l => fA P (i + 1) v L l ∨ fU P U v L l) ∧ ∀ v L l, (fA P (i + 1) v L l ∨ fU P U v L l) → ∀ q, s.val.ownBlock = some q → v.ownBlock ≠ some q
  own : ∃ L', L'.length = s.n ∧ OwnT W b s.val L'
  tb : Tb P B W
  bel : Below b w W
  bb : b ≤ w.heap.size
theorem G7.start {i : Nat} (h : G6 P b B w W vw i) {s : Sl} {L : List Tk} (hi : P[i]? = some (s, L)) (h1000 : i < 1000) : G7 P b B w W vw i s := by
  obtain ⟨U, h1, h3, h5⟩ := h.ex
  have ho := h5.own _ _ i (.inl ⟨Nat.le_refl _, s, hi, rfl⟩)
  obtain ⟨_, _, hv3, _, _⟩ := own_form ho
  refine ⟨⟨U, h1, h3, h5.mono (fun v L l e => ?_), fun v L l e q hq => ?_⟩, ⟨L, by injection hv3 with _ e2; exact e2.symm, ho⟩, h.tb, h.bel, h.bb⟩
  · rcases e with ⟨e1, e2⟩ | e
    · exact .inl ⟨by omega, e2⟩
    · exact .inr e
  · rcases e with ⟨e1, e2⟩ | e
    · exact h5.ap _ _ i _ _ l (.inl ⟨Nat.le_refl _, s, hi, rfl⟩) (.inl ⟨by omega, e2⟩) (by omega) q hq
    · have := e.1
      exact h5.ap _ _ i _ _ l (.inl ⟨Nat.le_refl _, s, hi, rfl⟩) (.inr e) (by omega) q hq
theorem G7.done {i : Nat} {s : Sl} (h : G7 P b B w W vw i s) : G6 P b B w W vw (i + 1) := by
  obtain ⟨U, h1, h3, h5, _⟩ := h.ex
  exact ⟨⟨U, h1, h3, h5⟩, h.tb, h.bel, h.bb⟩
theorem G7.form {i : Nat} {s : Sl} (h : G7 P b B w W vw i s) {k : Nat} (hk : k < s.n) : ∃ g u v, s.a = some ⟨g, 0, none⟩ ∧ W.cell? ⟨g, k * 2, none⟩ = some u ∧ W.cell? ⟨g, k * 2 + 1, none⟩ = some v ∧ W.frozen? ⟨g, k * 2, none⟩ = false ∧ W.frozen? ⟨g, k * 2 + 1, none⟩ = false := by
  obtain ⟨L', hl, ho⟩ := h.own
  obtain ⟨g, c, hv, _, _, _⟩ := ho.frm (by omega)
  injection hv with e1 e2 e3
  obtain ⟨x, hx⟩ := get_ex (L := L') (i := k) (by omega)
  have ho2 : OwnT W b (.slice (some ⟨g, 0, none⟩) s.n s.c) L' := by rw [← e1]; exact ho
  exact ⟨g, _, _, e1, ho2.cell hx 0 rfl, ho2.cell hx 1 rfl, ho2.frozen _, ho2.frozen _⟩
theorem G7.set {i : Nat} {s : Sl} {g k : Nat} (h : G7 P b B w W vw i s) (hg : s.a = some ⟨g, 0, none⟩) (hk : k < s.n) (x : Tk) : G7 P b B w ((W.setCell ⟨g, k * 2, none⟩ (.int .i64 x.g)).setCell ⟨g, k * 2 + 1, none⟩ (.int .i64 x.t)) vw i s := by
  obtain ⟨U, h1, h3, h5, h6⟩ := h.ex
  obtain ⟨L', hl, ho⟩ := h.own
  have hsv : s.val = .slice (some ⟨g, 0, none⟩) s.n s.c := by rw [Sl.val, hg]
  have hq : s.val.ownBlock = some g := by rw [hsv]; rfl
  have hb : But (fun q => s.val.ownBlock = some q) W ((W.setCell ⟨g, k * 2, none⟩ (.int .i64 x.g)).setCell ⟨g, k * 2 + 1, none⟩ (.int .i64 x.t)) :=
    ((But.refl (fun q => s.val.ownBlock = some q) W).setCell ⟨g, k * 2, none⟩ (fun _ => hq) _).setCell ⟨g, k * 2 + 1, none⟩ (fun _ => hq) _
  refine ⟨⟨U, h1, own_pastT h3 ho hb, h5.but hb (fun v L l e q hv hs => h6 v L l e q hs hv), h6⟩, ⟨L'.set k x, by rw [List.length_set, hl], ?_⟩, h.tb.pastT ho hb, ?_, h.bb⟩
  · have ho2 : Own layT 43 W b (.slice (some ⟨g, 0, none⟩) s.n s.c) L' := by rw [← hsv]; exact ho
    have := ho2.set hl (i := k) (by omega) x
    rw [hsv]
    exact this
  · exact h.bel.trans (hb.below (Nat.le_trans h.bb h.bel.size) (fun q hq => (ho.lt q hq).1))
end
end Go.Proofs.Ytajkenbcndmjpab
