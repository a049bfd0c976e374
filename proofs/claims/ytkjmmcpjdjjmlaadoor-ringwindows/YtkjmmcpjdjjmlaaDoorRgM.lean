/-
  The last n of each goroutine, as mathematics; what lies in memory while they are sought.
-/
import Derived.Test.YtkjmmcpjdjjmlaaDoorRgI
namespace Go.Proofs.YtkjmmcpjdjjmlaaDoor
open Go.RowKit Go.Maps Go.Shelf
/-- How many are of the goroutine. -/
def cnt (g : Int) : List Ab → Nat
  | [] => 0
  | x :: t => cnt g t + (if x.g = g then 1 else 0)
def win (n : Int) : List Ab → List Ab
  | [] => []
  | x :: t => if (cnt x.g t : Int) < n then x :: win n t else win n t
theorem cnt_mine {g : Int} {x : Ab} (t : List Ab) (h : x.g = g) : cnt g (x :: t) = cnt g t + 1 := by rw [cnt, if_pos h]
theorem cnt_other {g : Int} {x : Ab} (t : List Ab) (h : ¬ x.g = g) : cnt g (x :: t) = cnt g t := by rw [cnt, if_neg h, Nat.add_zero]
theorem cnt_le (g : Int) (t : List Ab) : cnt g t ≤ t.length := by
  induction t with
  | nil => exact Nat.le_refl _
  | cons x t ih => unfold cnt; rw [List.length_cons]; split <;> omega
theorem win_none {n : Int} (hn : n ≤ 0) (t : List Ab) : win n t = [] := by
  induction t with
  | nil => rfl
  | cons x t ih => unfold win; rw [if_neg (by omega), ih]
theorem win_all {n : Int} (t : List Ab) (hn : (t.length : Int) ≤ n) : win n t = t := by
  induction t with
  | nil => rfl
  | cons x t ih =>
    unfold win
    rw [List.length_cons] at hn
    have := cnt_le x.g t
    rw [if_pos (by omega), ih (by omega)]
theorem win_len (n : Int) (t : List Ab) : (win n t).length ≤ t.length := by
  induction t with
  | nil => exact Nat.le_refl _
  | cons x t ih => unfold win; split <;> simp only [List.length_cons] <;> omega
theorem win_pos {n : Int} {x : Ab} {t : List Ab} (h : (cnt x.g t : Int) < n) : win n (x :: t) = x :: win n t := by rw [win, if_pos h]
theorem win_neg {n : Int} {x : Ab} {t : List Ab} (h : ¬ (cnt x.g t : Int) < n) : win n (x :: t) = win n t := by rw [win, if_neg h]
theorem drop_one {A : List Ab} {i : Nat} {x : Ab} (h : A[i]? = some x) : A.drop i = x :: A.drop (i + 1) := by
  have hl := get_lt h
  rw [List.drop_eq_getElem_cons hl]
  rw [List.getElem?_eq_getElem hl] at h
  rw [Option.some.inj h]
theorem law3 : Keyed Tryd.prog 3 := int_keyed Tryd.underlying3
theorem zero3 (w : World) : (zeroValue 3).run Tryd.prog w = .ok (.int .i64 0) w := by kernel_rfl
theorem key3 {g : Int} (h0 : 0 ≤ g) (h1 : g < 65536) : keyOf Tryd.prog 3 (.int .i64 g) = some (.int .i64 g) := keyOf_int_mk Tryd.underlying3 (WalkArith.wf_i64 (by omega))
theorem klit (g : Int) : WideAt.IsKeyLit (.int .i64 g) := by trivial
/-- The map tells how many of each goroutine were met. -/
structure Cn (D : DataW Unit) (t : List Ab) : Prop where
  isMap : Maps.IsMap D
  at_ : ∀ g : Int, D.atKey (.int .i64 g) (.lit (.int .i64 0)) = .lit (.int .i64 (cnt g t : Int))
theorem Cn.nil : Cn (.map []) [] := ⟨Maps.isMap_empty, fun g => by rw [Maps.atKey_of_not_has rfl]; rfl⟩
theorem Cn.put {D : DataW Unit} {t : List Ab} (h : Cn D t) (x : Ab) : Cn (D.put (.int .i64 x.g) (.lit (.int .i64 ((cnt x.g t : Int) + 1)))) (x :: t) := by
  refine ⟨h.isMap.put _ _, fun g => ?_⟩
  by_cases e : x.g = g
  · subst e
    rw [Maps.atKey_put_same h.isMap (klit _)]
    rw [cnt_mine t rfl]; rfl
  · rw [Maps.atKey_put_other (fun c => e (by injection c with c1 c2; exact c2.symm)), h.at_ g]
    rw [cnt_other t e]
/-- While a Window is sought: k events were looked at, from the end on. -/
structure Wn (w4 : World) (B1 mb : Nat) (n : Int) (A : List Ab) (k : Nat) (W : World) : Prop where
  but : But (fun q => q = B1 ∨ q = mb) w4 W
  lst : ∃ v es, W.heap[B1]? = some (.cells #[v] 22 (0, 0)) ∧ Evs W (w4.heap.size + 2) v es ∧ es.map Ev.ab = (win n (A.drop (A.length - k))).reverse
  mp : ∃ m D, W.ownsMap Tryd.prog 3 (plainElem Tryd.prog 3) mb m D ∧ m ≤ k ∧ Cn D (A.drop (A.length - k))
theorem but_put (W : World) (l : Nat) (o : Obj) : But (fun k => k = l) W (W.putObj l o) :=
  ⟨rfl, rfl, rfl, by simp, fun k _ hk => World.putObj_heap_other hk⟩
theorem Wn.put {w4 : World} {B1 mb : Nat} {n : Int} {A : List Ab} {k : Nat} {W : World} (h : Wn w4 B1 mb n A k W) (h1 : B1 < w4.heap.size) (h2 : mb < w4.heap.size) {l : Nat} {o o' : Obj} (hl : w4.heap.size ≤ l) (hl2 : l < w4.heap.size + 2) (ho : W.heap[l]? = some o) (hno : ∀ cur fr, o ≠ .cells cur 9 fr) : Wn w4 B1 mb n A k (W.putObj l o') := by
  have hb := but_put W l o'
  obtain ⟨v, es, a1, a2, a3⟩ := h.lst
  obtain ⟨m, D, b1, b2, b3⟩ := h.mp
  refine ⟨h.but.trans hb (fun i hi e => by have e9 : i = l := e; omega), ⟨v, es, (hb.block _ (Array.getElem?_eq_some_iff.1 a1).1 (by omega)).trans a1, a2.but hb ?_ ?_, a3⟩, ⟨m, D, map_but b1 hb (by omega), b2, b3⟩⟩
  · intro q cur fr hq hc
    have e9 : q = l := hq
    rw [e9, ho] at hc
    exact hno cur fr (Option.some.inj hc)
  · intro g hg e
    have e9 : g = l := e
    have := (a2.own.lt g hg).1
    omega
theorem Wn.below {w4 : World} {B1 mb : Nat} {n : Int} {A : List Ab} {k : Nat} {W W' : World} (h : Wn w4 B1 mb n A k W) (hb : Below W.heap.size W W') : Wn w4 B1 mb n A k W' := by
  obtain ⟨v, es, a1, a2, a3⟩ := h.lst
  obtain ⟨m, D, b1, b2, b3⟩ := h.mp
  exact ⟨h.but.on hb, ⟨v, es, (hb.block _ (Array.getElem?_eq_some_iff.1 a1).1).trans a1, a2.below hb, a3⟩, ⟨m, D, map_but (S := fun _ => False) b1 (But.of_below hb) (fun e => e), b2, b3⟩⟩
/-- At a round's begin: the variable is new. -/
theorem Wn.round {w4 : World} {B1 mb : Nat} {n : Int} {A : List Ab} {k : Nat} {W0 W : World} {o1 o2 : Obj} {o : Loop} (h : Wn w4 B1 mb n A k W0) (h1 : B1 < w4.heap.size) (h2 : mb < w4.heap.size) (hs : w4.heap.size + 1 < W0.heap.size) (hl : W0.heap[w4.heap.size + 1]? = some (.loop o)) (hW : W = (W0.alloc o1).putObj (w4.heap.size + 1) o2) :
    But (fun q => q = B1 ∨ q = mb) w4 W ∧ (∃ v es, W.heap[B1]? = some (.cells #[v] 22 (0, 0)) ∧ Evs W (w4.heap.size + 2) v es ∧ es.map Ev.ab = (win n (A.drop (A.length - k))).reverse ∧ ∀ q, v.ownBlock = some q → w4.heap.size + 2 ≤ q ∧ q < W0.heap.size) ∧
    (∃ m D, W.ownsMap Tryd.prog 3 (plainElem Tryd.prog 3) mb m D ∧ m ≤ k ∧ Cn D (A.drop (A.length - k))) ∧ W.heap[W0.heap.size]? = some o1 ∧ W0.heap.size < W.heap.size := by
  have ha : (W0.alloc o1).heap[w4.heap.size + 1]? = some (.loop o) := (Below.heap_alloc _ _ _ (by omega)).trans hl
  have hb := but_put (W0.alloc o1) (w4.heap.size + 1) o2
  have hbb : But (fun q => q = w4.heap.size + 1) W0 W := by rw [hW]; exact ((But.refl (fun q => q = w4.heap.size + 1) W0).alloc o1).trans hb (fun _ _ e => e)
  obtain ⟨v, es, a1, a2, a3⟩ := h.lst
  obtain ⟨m, D, b1, b2, b3⟩ := h.mp
  refine ⟨h.but.trans hbb (fun i hi e => by have e9 : i = w4.heap.size + 1 := e; omega), ⟨v, es, (hbb.block _ (Array.getElem?_eq_some_iff.1 a1).1 (by omega)).trans a1, a2.but hbb ?_ ?_, a3, fun q hq => a2.own.lt q hq⟩, ⟨m, D, map_but b1 hbb (by omega), b2, b3⟩, ?_, ?_⟩
  · intro q cur fr hq hc
    have e9 : q = w4.heap.size + 1 := hq
    rw [e9, hl] at hc
    simp at hc
  · intro g hg e
    have e9 : g = w4.heap.size + 1 := e
    have := (a2.own.lt g hg).1
    omega
  · rw [hW]; exact (World.putObj_heap_other (by omega)).trans (heap_new _ _)
  · rw [hW]; simp
/-- append of one event in a round. -/
theorem append_evI (w : World) {F : Fence} {nF : Nat} {ops : Array Oper} {rest : List Oper} {o : Oper} {a : Act} {Q : Exit → Act → World → Prop} (hgd : o.guard = none) (s x : Operand)
    (ho : o.op = .call { callee := .builtin .append, args := #[s, x], argTypes := #[22, 22] }) (base : Nat) (v : Value) (es : List Ev) (hs : a.eval s = v) (hown : Own layE 32 w base v es)
    (ad : Addr) (c : Nat) (e : Ev) (hx : a.eval x = .slice (some ad) 1 c) (hr : TRow layE w (some ad) 1 [e]) (hm : (es.length : Int) ≤ 65536) (hbase : base ≤ w.heap.size)
    (h : ∀ (a' : Option Addr) (c' : Nat) w', Own layE 32 w' base (.slice a' (es.length + 1) c') (es ++ [e]) → w.grownBy w' v.ownBlock → wpListIn F nF Tryd.prog ops Q rest (a.put o.dst (.slice a' (es.length + 1) c')) w') : wpListIn F nF Tryd.prog ops Q (o :: rest) a w := by
  obtain ⟨i0, hi, hz0, hz1, hz2⟩ := info_parts Tryd.infoE
  refine wpListIn_append_own_at w hgd s x 22 ho base 32 i0 _ 5 56 Tryd.underlying22 hi hz0 hz1 hz2 rfl (by decide) v es.length _ hs hown ad 1 c (layE.fl [e]) hx (by rw [layE.fl_len]; rfl) hr.news (layE.fl_cell _) (by unfold maxLen; omega) (by omega) hbase ?_
  intro v' w' h1 h2 _ _
  obtain ⟨a', c', rfl, _, _⟩ := own_form h1
  refine h a' c' w' ?_ h2
  unfold Own
  rw [List.length_append, layE.fl_app]
  exact h1
theorem noStr_win {W : World} {base B1 mb m : Nat} {v : Value} {es : List Ev} {D : DataW Unit} (hB : W.heap[B1]? = some (.cells #[v] 22 (0, 0))) (hE : Evs W base v es) (hM : W.ownsMap Tryd.prog 3 (plainElem Tryd.prog 3) mb m D) : NoStr W (fun q => v.ownBlock = some q ∨ q = B1 ∨ q = mb) := by
  intro q cur fr hq hc
  rcases hq with hq | rfl | rfl
  · exact hE.noStr q cur fr hq hc
  · rw [hB] at hc; simp at hc
  · obtain ⟨es, cl, hh, _⟩ := hM
    rw [hh] at hc; simp at hc
theorem Wn.took {w4 W w5 w7 : World} {B1 mb : Nat} {n : Int} {A : List Ab} {k i m : Nat} {D : DataW Unit} {v v2 : Value} {es1 : List Ev} {x : Ev} {o1 : Obj}
    (hb : But (fun q => q = B1 ∨ q = mb) w4 W) (h1 : B1 < w4.heap.size) (h2 : mb < w4.heap.size) (h12 : B1 ≠ mb) (hs : w4.heap.size + 1 < W.heap.size) (hB : W.heap[B1]? = some (.cells #[v] 22 (0, 0))) (hE : Evs W (w4.heap.size + 2) v es1)
    (hm : es1.map Ev.ab = (win n (A.drop (i + 1))).reverse) (hst : Stk W x) (hM : W.ownsMap Tryd.prog 3 (plainElem Tryd.prog 3) mb m D) (hmk : m ≤ k) (hcn : Cn D (A.drop (i + 1))) (hd : A.drop i = x.ab :: A.drop (i + 1)) (hi : A.length - (k + 1) = i)
    (hlt : (cnt x.g (A.drop (i + 1)) : Int) < n) (o5 : Own layE 32 w5 (w4.heap.size + 2) v2 (es1 ++ [x])) (g5 : (W.alloc o1).grownBy w5 v.ownBlock)
    (m7 : w7.ownsMap Tryd.prog 3 (plainElem Tryd.prog 3) mb (m + 1) (D.put (.int .i64 x.g) (.lit (.int .i64 ((cnt x.g (A.drop (i + 1)) : Int) + 1))))) (g7 : (w5.setCell ⟨B1, 0, .none⟩ v2).grownBy w7 (some mb)) :
    Wn w4 B1 mb n A (k + 1) w7 ∧ w7.heap[w4.heap.size]? = W.heap[w4.heap.size]? ∧ w7.heap[w4.heap.size + 1]? = W.heap[w4.heap.size + 1]? := by
  have hvl := fun q hq => (hE.own.lt q hq)
  have B5 : But (fun q => v.ownBlock = some q ∨ q = B1 ∨ q = mb) W w5 := ((But.refl (fun q => v.ownBlock = some q ∨ q = B1 ∨ q = mb) W).alloc o1).grown g5 (fun _ _ e => .inl e)
  have B6 : But (fun q => q = B1) w5 (w5.setCell ⟨B1, 0, .none⟩ v2) := (But.refl (fun q => q = B1) w5).setCell ⟨B1, 0, .none⟩ (fun _ => rfl) _
  have B7 : But (fun q => q = mb) (w5.setCell ⟨B1, 0, .none⟩ v2) w7 := But.of_grown g7 (fun q e => by cases e; rfl)
  have BB : But (fun q => v.ownBlock = some q ∨ q = B1 ∨ q = mb) W w7 := (B5.trans B6 (fun _ _ e => .inr (.inl e))).trans B7 (fun _ _ e => .inr (.inr e))
  have hns := noStr_win hB hE hM
  have d1 : w5.heap[B1]? = some (.cells #[v] 22 (0, 0)) := by
    have h9 := (g5.block B1 (by rw [World.size_alloc]; omega) (fun e => by have := (hvl _ e.symm).1; omega))
    exact h9.trans ((Below.heap_alloc _ _ _ (by omega)).trans hB)
  have d7 : w7.heap[B1]? = some (.cells #[v2] 22 (0, 0)) := (B7.block B1 (by have := (Array.getElem?_eq_some_iff.1 (set1_heap (i := 0) v2 d1)).1; exact this) (by omega)).trans (set1_heap v2 d1)
  have o7 : Own layE 32 w7 (w4.heap.size + 2) v2 (es1 ++ [x]) := by
    have hge := fun q hq => (o5.lt q hq).1
    refine (o5.but B6 (fun g hg e => ?_)).but B7 (fun g hg e => ?_)
    · have e9 : g = B1 := e
      have := hge g hg; omega
    · have e9 : g = mb := e
      have := hge g hg; omega
  refine ⟨⟨hb.trans BB (fun q hq e => ?_), ⟨v2, es1 ++ [x], d7, ⟨o7, fun e he => ?_⟩, ?_⟩, ⟨m + 1, _, m7, by omega, ?_⟩⟩, ?_, ?_⟩
  · rcases e with e | e
    · have := (hvl q e).1; omega
    · exact e
  · rcases List.mem_append.1 he with he | he
    · exact (hE.stk e he).but BB hns
    · rw [List.mem_singleton.1 he]; exact hst.but BB hns
  · rw [hi, hd, win_pos hlt, List.reverse_cons, List.map_append, hm]; rfl
  · rw [hi, hd]; exact hcn.put x.ab
  · refine BB.block _ (by omega) ?_
    rintro (e | e | e)
    · have := (hvl _ e).1; omega
    · omega
    · omega
  · refine BB.block _ (by omega) ?_
    rintro (e | e | e)
    · have := (hvl _ e).1; omega
    · omega
    · omega
theorem Wn.left {w4 W w7 : World} {B1 mb : Nat} {n : Int} {A : List Ab} {k i m : Nat} {D : DataW Unit} {v : Value} {es1 : List Ev} {x : Ev}
    (hb : But (fun q => q = B1 ∨ q = mb) w4 W) (h1 : B1 < w4.heap.size) (h2 : mb < w4.heap.size) (h12 : B1 ≠ mb) (hs : w4.heap.size + 1 < W.heap.size) (hB : W.heap[B1]? = some (.cells #[v] 22 (0, 0))) (hE : Evs W (w4.heap.size + 2) v es1)
    (hm : es1.map Ev.ab = (win n (A.drop (i + 1))).reverse) (hM : W.ownsMap Tryd.prog 3 (plainElem Tryd.prog 3) mb m D) (hmk : m ≤ k) (hcn : Cn D (A.drop (i + 1))) (hd : A.drop i = x.ab :: A.drop (i + 1)) (hi : A.length - (k + 1) = i)
    (hlt : ¬ (cnt x.g (A.drop (i + 1)) : Int) < n)
    (m7 : w7.ownsMap Tryd.prog 3 (plainElem Tryd.prog 3) mb (m + 1) (D.put (.int .i64 x.g) (.lit (.int .i64 ((cnt x.g (A.drop (i + 1)) : Int) + 1))))) (g7 : W.grownBy w7 (some mb)) :
    Wn w4 B1 mb n A (k + 1) w7 ∧ w7.heap[w4.heap.size]? = W.heap[w4.heap.size]? ∧ w7.heap[w4.heap.size + 1]? = W.heap[w4.heap.size + 1]? := by
  have B7 : But (fun q => q = mb) W w7 := But.of_grown g7 (fun q e => by cases e; rfl)
  have hns := noStr_win hB hE hM
  refine ⟨⟨hb.trans B7 (fun q _ e => .inr e), ⟨v, es1, (B7.block B1 (by omega) (by omega)).trans hB, hE.but B7 (fun q cur fr hq => hns q cur fr (.inr (.inr hq))) (fun g hg e => ?_), ?_⟩, ⟨m + 1, _, m7, by omega, ?_⟩⟩, B7.block _ (by omega) (by omega), B7.block _ (by omega) (by omega)⟩
  · have e9 : g = mb := e
    have := (hE.own.lt g hg).1; omega
  · rw [hi, hd, win_neg hlt]; exact hm
  · rw [hi, hd]; exact hcn.put x.ab
end Go.Proofs.YtkjmmcpjdjjmlaaDoor
