/-
  Appends of things in rows, of whatever make.
-/
import Derived.Test.YtnengkdddckjaaaHpB
import Derived.Maps.AppendAt
namespace Go.Proofs.Ytnengkdddckjaaa
open Go.RowKit
/-- 'append(l, m...)', l the call's own, m any row. -/
theorem append_lay {α : Type} (y : Lay α) (w : World) {ops : Array Oper} {rest : List Oper} {o : Oper} {a : Act} {Q : Exit → Act → World → Prop} (t e : TypeId) (i0 : TypeInfo) (z : Value) (bytes : Nat)
    (hu : Try.prog.underlying t = some (.slice e)) (hi : Try.prog.info? e = some i0) (hz0 : i0.zero = some z) (hz1 : i0.size = y.z) (hz2 : i0.bytes = bytes) (hzs : z.cells.size = y.z)
    (hgd : o.guard = none) (s x : Operand) (ho : o.op = .call { callee := .builtin .append, args := #[s, x], argTypes := #[t, t] }) (base : Nat)
    (v : Value) (L : List α) (hs : a.eval s = v) (hown : Own y e w base v L)
    (ra : Option Addr) (m c : Nat) (M : List α) (hx : a.eval x = .slice ra m c) (hr : TRow y w ra m M) (h0 : ra = none → m = 0 ∧ c = 0)
    (hm : L.length + m ≤ maxLen) (hb : (L.length + m) * bytes ≤ 140737488355328) (hbase : base ≤ w.heap.size)
    (h : ∀ v' w', Own y e w' base v' (L ++ M) → w.grownBy w' v.ownBlock → (v'.ownBlock = v.ownBlock ∨ v'.ownBlock = some w.heap.size) → wpList Try.prog ops Q rest (a.put o.dst v') w') : wpList Try.prog ops Q (o :: rest) a w := by
  cases ra with
  | none =>
    obtain ⟨rfl, rfl⟩ := h0 rfl
    have e1 := List.length_eq_zero_iff.1 hr.len
    subst e1
    refine wpList_append_own_none hgd s x t ho base e i0 y.z hu hi v L.length _ hs hown hx (h v w (by simpa using hown) (World.grownBy.refl w _) (.inl rfl))
  | some ad =>
    refine wpList_append_own_at w hgd s x t ho base e i0 z y.z bytes hu hi hz0 hz1 hz2 hzs y.pos v L.length _ hs hown ad m c (y.fl M) hx (by rw [y.fl_len, hr.len]) hr.news (y.fl_cell M) hm hb hbase ?_
    intro v' w' h1 h2 _ h4
    refine h v' w' ?_ h2 h4
    unfold Own
    rw [List.length_append, hr.len, y.fl_app]
    exact h1
theorem TRow.one {α : Type} {y : Lay α} {w : World} {B : Nat} {e : TypeId} {x : α} {fr : Nat × Nat} (h : w.heap[B]? = some (.cells (y.cs x).toArray e fr)) : TRow y w (some ⟨B, 0, none⟩) 1 [x] := by
  refine ⟨rfl, .inr ⟨B, 0, rfl, fun i u hi t v hv => ?_⟩⟩
  have hi0 := get_lt hi
  have e0 : i = 0 := by simpa using hi0
  subst e0
  simp at hi
  subst hi
  rw [Nat.zero_mul, Nat.zero_add]
  exact cell_at h (by simpa using hv)
theorem Own.lit0 {α : Type} (y : Lay α) (e : TypeId) (w : World) {base : Nat} (hb : base ≤ w.heap.size) : Own y e (w.alloc (.cells #[] e)) base (.slice (some ⟨w.heap.size, 0, none⟩) 0 0) [] := by
  unfold Own
  exact ⟨by simp [Lay.fl], .inr ⟨w.heap.size, 0, #[], rfl, hb, heap_new _ _, Nat.le_refl _, Nat.zero_le _, by simp, by simp [Lay.fl]⟩⟩
/-- What is left behind the first k. -/
theorem TRow.drop {α : Type} {y : Lay α} {w : World} {b off n : Nat} {L : List α} (h : TRow y w (some ⟨b, off, none⟩) n L) (k : Nat) (hk : k ≤ n) : TRow y w (some ⟨b, off + k * y.z, none⟩) (n - k) (L.drop k) := by
  refine ⟨by rw [List.length_drop, h.len], ?_⟩
  rcases Nat.eq_zero_or_pos (n - k) with h0 | h0
  · exact .inl h0
  · rcases h.cells with h1 | ⟨b', off', he, hc⟩
    · omega
    · cases he
      refine .inr ⟨b, off + k * y.z, rfl, fun i x hx t u hu => ?_⟩
      rw [List.getElem?_drop] at hx
      have := hc (k + i) x hx t u hu
      rw [show off + k * y.z + i * y.z + t = off + (k + i) * y.z + t by rw [Nat.add_mul]; omega]
      exact this
theorem TRow.drop_if {α : Type} {y : Lay α} {w : World} {b off n c : Nat} {L : List α} (h : TRow y w (some ⟨b, off, none⟩) n L) (k : Nat) (hk : k ≤ n) (hc : n ≤ c) : TRow y w (if c = k then some ⟨b, off, none⟩ else some ⟨b, off + k * y.z, none⟩) (n - k) (L.drop k) := by
  split
  · exact ⟨by rw [List.length_drop, h.len], .inl (by omega)⟩
  · exact h.drop k hk
theorem own_ty {α : Type} {y : Lay α} {e : TypeId} {w : World} {base b : Nat} {v : Value} {C : List α} (h : Own y e w base v C) (hb : v.ownBlock = some b) : ∃ cur, w.heap[b]? = some (.cells cur e (0, 0)) := by
  rcases h.2 with ⟨rfl, _⟩ | ⟨g, cap, cur, rfl, _, hh, _⟩
  · simp [Value.ownBlock] at hb
  · have e1 : g = b := by simpa [Value.ownBlock] using hb
    subst e1
    exact ⟨cur, hh⟩
theorem own_not_map {α : Type} {y : Lay α} {e : TypeId} {w : World} {base b : Nat} {v : Value} {C : List α} {es : Array MapEntry} {cl : Nat} (h : Own y e w base v C) (hb : w.heap[b]? = some (.map es cl)) : v.ownBlock ≠ some b := by
  intro hv
  rcases h.2 with ⟨rfl, _⟩ | ⟨g, cap, cur, rfl, _, hh, _⟩
  · simp [Value.ownBlock] at hv
  · have e1 : g = b := by simpa [Value.ownBlock] using hv
    subst e1
    rw [hh] at hb
    cases hb
theorem map_but {S : Nat → Prop} {w w' : World} {H : Type} {P : Program} {k : TypeId} {R : Value → Option (DataW H × List MemPlace)} {b n : Nat} {D : DataW H} (h : w.ownsMap P k R b n D) (hb : But S w w') (hv : ¬ S b) : w'.ownsMap P k R b n D := by
  obtain ⟨es, clock, hh, r⟩ := h
  exact ⟨es, clock, (hb.block b (Array.getElem?_eq_some_iff.1 hh).1 hv).trans hh, r⟩
theorem cell_but {S : Nat → Prop} {w w' : World} {p : Addr} {v : Value} (h : w.cell? p = some v) (hb : But S w w') (hS : ¬ S p.block) : w'.cell? p = some v :=
  (World.cell?_of_block (hb.block p.block (World.block_lt_of_cell? w _ h) hS)).trans h
theorem TRow.but {α : Type} {y : Lay α} {S : Nat → Prop} {w w' : World} {a : Option Addr} {n : Nat} {L : List α} (h : TRow y w a n L) (hb : But S w w') (hS : ∀ b off, 0 < n → a = some ⟨b, off, none⟩ → ¬ S b) : TRow y w' a n L := by
  refine ⟨h.len, ?_⟩
  rcases h.cells with h0 | ⟨b, off, ha, hc⟩
  · exact .inl h0
  · by_cases hn : 0 < n
    · exact .inr ⟨b, off, ha, fun i x hx t u hu => cell_but (hc i x hx t u hu) hb (hS b off hn ha)⟩
    · exact .inl (by omega)
theorem Lay.fl_set1 {α : Type} (y : Lay α) {L : List α} {i t : Nat} {a a' : α} {u : Value} (hi : L[i]? = some a) (ht : t < y.z) (hc : y.cs a' = (y.cs a).set t u) : (y.fl L).set (i * y.z + t) u = y.fl (L.set i a') := by
  induction L generalizing i with
  | nil => simp at hi
  | cons x l ih =>
    cases i with
    | zero =>
      simp at hi
      subst hi
      rw [Nat.zero_mul, Nat.zero_add, y.fl_cons, List.set_cons_zero, y.fl_cons, hc, List.set_append_left _ _ (by rw [y.len]; exact ht)]
    | succ i =>
      simp at hi
      have e : (i + 1) * y.z + t = (y.cs x).length + (i * y.z + t) := by rw [y.len, Nat.succ_mul]; omega
      rw [y.fl_cons, List.set_cons_succ, y.fl_cons, ← ih hi, e, List.set_append_right _ _ (by omega), Nat.add_sub_cancel_left]
theorem Own.setU {α : Type} {y : Lay α} {e : TypeId} {w : World} {base g n c : Nat} {L : List α} (h : Own y e w base (.slice (some ⟨g, 0, none⟩) n c) L) (hn : L.length = n) {i t : Nat} {a a' : α} {u : Value} (hi : L[i]? = some a) (ht : t < y.z) (hc : y.cs a' = (y.cs a).set t u) :
    Own y e (w.setCell ⟨g, i * y.z + t, none⟩ u) base (.slice (some ⟨g, 0, none⟩) n c) (L.set i a') := by
  subst hn
  unfold Own
  rw [List.length_set, ← y.fl_set1 hi ht hc]
  exact (World.ownsRow.stored h (i * y.z + t) u).1
end Go.Proofs.Ytnengkdddckjaaa
