/-
  What is written over, a cell or a record at a time; appends that keep the list that they come from.
-/
import Derived.Test.YtdlpffbeladgaabMrB
import Derived.Test.YtdlpffbeladgaabMRm
namespace Go.Proofs.Ytdlpffbeladgaab
open Go.RowKit
theorem Lay.fl_set1 {α : Type} (y : Lay α) {L : List α} {i t : Nat} {a a' : α} {u : Value} (hi : L[i]? = some a) (ht : t < y.z) (hc : y.cs a' = (y.cs a).set t u) : (y.fl L).set (i * y.z + t) u = y.fl (L.set i a') := by
  induction L generalizing i with
  | nil => simp at hi
  | cons x l ih =>
    cases i with
    | zero =>
      simp at hi
      subst hi
      rw [Nat.zero_mul, Nat.zero_add, y.fl_cons, List.set_cons_zero, y.fl_cons, hc, List.set_append_left _ _ (by rw [y.len]; exact ht)]
    | succ i =>
      simp at hi
      have e : (i + 1) * y.z + t = (y.cs x).length + (i * y.z + t) := by rw [y.len, Nat.succ_mul]; omega
      rw [y.fl_cons, List.set_cons_succ, y.fl_cons, ← ih hi, e, List.set_append_right _ _ (by omega), Nat.add_sub_cancel_left]
theorem Own.setU {α : Type} {y : Lay α} {e : TypeId} {w : World} {base g n c : Nat} {L : List α} (h : Own y e w base (.slice (some ⟨g, 0, none⟩) n c) L) (hn : L.length = n) {i t : Nat} {a a' : α} {u : Value} (hi : L[i]? = some a) (ht : t < y.z) (hc : y.cs a' = (y.cs a).set t u) :
    Own y e (w.setCell ⟨g, i * y.z + t, none⟩ u) base (.slice (some ⟨g, 0, none⟩) n c) (L.set i a') := by
  subst hn
  unfold Own
  rw [List.length_set, ← y.fl_set1 hi ht hc]
  exact (World.ownsRow.stored h (i * y.z + t) u).1
/-- One of the lists of records has turned. -/
theorem Rowz.put {w w' : World} {base : Nat} {v : Value} {rws : List Rw} {Gs : List (Int × List Rc)} (h : Rowz w base v rws Gs) {i g : Nat} {rw : Rw} {G : Int × List Rc} {R : List Rc} (hrw : rws[i]? = some rw) (hG : Gs[i]? = some G) (hg : rw.s.v.ownBlock = some g) (hb : But (fun k => k = g) w w') (ho : Own layR 42 w' base rw.s.v R) : Rowz w' base v rws (Gs.set i (G.1, R)) := by
  have hRec : ∃ cur, w.heap[g]? = some (.cells cur 42 (0, 0)) := by
    rcases (h.each i rw G hrw hG).2.2 with ⟨e, _⟩ | ⟨g', cap, cur, e, _, hh, _⟩
    · rw [e] at hg; cases hg
    · rw [e] at hg
      have e9 : g' = g := by simpa [Value.ownBlock] using hg
      subst e9
      exact ⟨cur, hh⟩
  obtain ⟨cur, hcur⟩ := hRec
  refine ⟨h.own.but hb (fun q hq e => ?_), by rw [List.length_set]; exact h.len, fun k rw' G' h1 h2 => ?_, h.one⟩
  · have e9 : q = g := e
    rw [e9] at hq
    exact own_ne_cells h.own hcur (by decide) hq
  · by_cases hk : k = i
    · subst hk
      rw [hrw] at h1
      cases h1
      rw [List.getElem?_set_self (get_lt hG)] at h2
      cases h2
      exact ⟨(h.each _ _ _ hrw hG).1, ho⟩
    · rw [List.getElem?_set_ne (fun e => hk e.symm)] at h2
      obtain ⟨e1, e2⟩ := h.each k rw' G' h1 h2
      exact ⟨e1, e2.but hb (fun q hq e => hk (h.one k i rw' rw g h1 hrw (by have e9 : q = g := e; rw [← e9]; exact hq) hg))⟩
theorem take_some {α : Type} {L : List α} {k i : Nat} {x : α} (h : (L.take k)[i]? = some x) : L[i]? = some x := by
  rw [List.getElem?_take] at h
  split at h
  · exact h
  · cases h
theorem Rdz.cut {w : World} {a : Option Addr} {n : Nat} {rws : List Rw} {Gs : List (Int × List Rc)} (h : Rdz w a n rws Gs) (k : Nat) (hk : k ≤ n) : Rdz w a k (rws.take k) (Gs.take k) :=
  ⟨h.row.cut k hk, by rw [List.length_take, List.length_take, h.len], fun i rw G h1 h2 => h.each i rw G (take_some h1) (take_some h2)⟩
theorem own_front {w : World} {base n m g c : Nat} {e : TypeId} {size : Nat} {xs ys : List Value} (h : w.ownsRow base e size (.slice (some ⟨g, 0, none⟩) (n + m) c) (n + m) (xs ++ ys)) (hl : xs.length = n * size) : w.ownsRow base e size (.slice (some ⟨g, 0, none⟩) n c) n xs := by
  have := own_cut h (Nat.le_add_right n m)
  rw [← hl, List.take_left] at this
  exact this
/-- 'append(l, m...)', l the call's own and kept, m not empty. -/
theorem append_layK {α : Type} (y : Lay α) (w : World) {ops : Array Oper} {rest : List Oper} {o : Oper} {a : Act} {Q : Exit → Act → World → Prop} (t e : TypeId) (i0 : TypeInfo) (z : Value) (bytes : Nat)
    (hu : Try.prog.underlying t = some (.slice e)) (hi : Try.prog.info? e = some i0) (hz0 : i0.zero = some z) (hz1 : i0.size = y.z) (hz2 : i0.bytes = bytes) (hzs : z.cells.size = y.z)
    (hgd : o.guard = none) (s x : Operand) (ho : o.op = .call { callee := .builtin .append, args := #[s, x], argTypes := #[t, t] }) (base : Nat)
    (v : Value) (L : List α) (hs : a.eval s = v) (hown : Own y e w base v L)
    (ad : Addr) (m c : Nat) (M : List α) (hx : a.eval x = .slice (some ad) m c) (hr : TRow y w (some ad) m M) (hm0 : 0 < m)
    (hm : L.length + m ≤ maxLen) (hb : (L.length + m) * bytes ≤ 140737488355328) (hbase : base ≤ w.heap.size)
    (h : ∀ g cap w', Own y e w' base (.slice (some ⟨g, 0, none⟩) (L.length + m) cap) (L ++ M) → Own y e w' base v L → w.grownBy w' v.ownBlock → (v.ownBlock = some g ∨ w.heap.size ≤ g) → L.length + m ≤ cap → wpList Try.prog ops Q rest (a.put o.dst (.slice (some ⟨g, 0, none⟩) (L.length + m) cap)) w') : wpList Try.prog ops Q (o :: rest) a w := by
  have hown0 : w.ownsRow base e y.z v L.length (y.fl L) := hown
  have hlM : (y.fl M).length = m * y.z := by rw [y.fl_len, hr.len]
  have toO : ∀ {w' : World} {g cap : Nat}, w'.ownsRow base e y.z (.slice (some ⟨g, 0, none⟩) (L.length + m) cap) (L.length + m) (y.fl L ++ y.fl M) → Own y e w' base (.slice (some ⟨g, 0, none⟩) (L.length + m) cap) (L ++ M) := fun h9 => by
    unfold Own
    rw [List.length_append, hr.len, y.fl_app]
    exact h9
  have big : ∀ (ao : Option Addr) (cap : Nat), v = .slice ao L.length cap → (ao = none → L.length = 0 ∧ cap = 0) → (∀ b, ao = some b → ∀ j u, (y.fl L)[j]? = some u → w.cell? (b.add j) = some u) → cap < L.length + m → wpList Try.prog ops Q (o :: rest) a w := by
    intro ao cap hv h0 hcells hfull
    refine wpList_append_grows w hgd s x t ho e i0 z y.z bytes hu hi hz0 hz1 hz2 hzs y.pos ao L.length cap (y.fl L) (hs.trans hv) h0 (y.fl_len L) hcells ad m c (y.fl M) hx hlM hr.news (y.fl_cell M) hfull hm hb ?_
    intro v' w' hn hg
    have hf : ∃ g' cap', v' = .slice (some ⟨g', 0, none⟩) (L.length + m) cap' ∧ w.heap.size ≤ g' ∧ L.length + m ≤ cap' := by
      rcases hn.2 with ⟨_, h0⟩ | ⟨g', cap', cur, hv', hb', _, hc', _⟩
      · omega
      · exact ⟨g', cap', hv', hb', hc'⟩
    obtain ⟨g', cap', rfl, hge, hce⟩ := hf
    exact h g' cap' w' (toO (own_mono hn hbase)) (hown0.kept hg (by cases v.ownBlock <;> simp)) ⟨hg.os, hg.tape, hg.output, hg.size, fun k hk _ => hg.block k hk (by simp)⟩ (.inr hge) hce
  rcases hown0.2 with ⟨hv, h0⟩ | ⟨g, cap, cur, hv, hbg, hg, hnc, hcm, hcs, htk⟩
  · rw [← h0] at hv
    exact big none 0 (by rw [h0] at hv ⊢; exact hv) (fun _ => ⟨h0, rfl⟩) (fun b hb => by cases hb) (by omega)
  · by_cases hroom : L.length + m ≤ cap
    · rw [hv] at hs
      have hown1 := hown0
      rw [hv] at hown1
      refine wpList_append_fits w hgd s x t ho base e i0 y.z hu hi hz1 g L.length cap (y.fl L) hs hown1 ad m c (y.fl M) hx hlM hr.news (y.fl_cell M) hroom ?_
      intro w' hn hgr
      rw [← show v.ownBlock = some g by rw [hv]; rfl] at hgr
      refine h g cap w' (toO hn) ?_ hgr (.inl (by rw [hv]; rfl)) hroom
      rw [hv]
      exact own_front hn (y.fl_len L)
    · exact big (some ⟨g, 0, none⟩) cap hv (fun h => by cases h) (fun b hb => by cases hb; exact hown0.cells (by rw [hv]; rfl)) (by omega)
/-- A row that was just built. -/
theorem TRow.lit {α : Type} {y : Lay α} {w : World} {B : Nat} {e : TypeId} {L : List α} {fr : Nat × Nat} (h : w.heap[B]? = some (.cells (y.fl L).toArray e fr)) : TRow y w (some ⟨B, 0, none⟩) L.length L := by
  refine ⟨rfl, .inr ⟨B, 0, rfl, fun i x hi t u hu => ?_⟩⟩
  have ht : t < y.z := by rw [← y.len x]; exact get_lt hu
  rw [Nat.zero_add]
  refine cell_at h ?_
  rw [List.getElem?_toArray, y.fl_get hi ht]
  exact hu
end Go.Proofs.Ytdlpffbeladgaab
