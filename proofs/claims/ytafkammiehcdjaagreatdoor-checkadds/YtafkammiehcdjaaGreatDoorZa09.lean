import Derived.Test.YtafkammiehcdjaaGreatDoorZa08
import Derived.Maps.AppendAt
import Derived.Test.YtafkammiehcdjaaGreatDoorZa00
/-
  Appends of things in rows, of whatever make.
-/
namespace Go.Proofs.YtafkammiehcdjaaGreatDoor
open Go.RowKit
/-- 'append(l, m...)', l the call's own, m any row. -/
theorem append_lay {α : Type} (y : Lay α) (w : World) {ops : Array Oper} {rest : List Oper} {o : Oper} {a : Act} {Q : Exit → Act → World → Prop} (t e : TypeId) (i0 : TypeInfo) (z : Value) (bytes : Nat)
    (hu : Tryz.prog.underlying t = some (.slice e)) (hi : Tryz.prog.info? e = some i0) (hz0 : i0.zero = some z) (hz1 : i0.size = y.z) (hz2 : i0.bytes = bytes) (hzs : z.cells.size = y.z)
    (hgd : o.guard = none) (s x : Operand) (ho : o.op = .call { callee := .builtin .append, args := #[s, x], argTypes := #[t, t] }) (base : Nat)
    (v : Value) (L : List α) (hs : a.eval s = v) (hown : Own y e w base v L)
    (ra : Option Addr) (m c : Nat) (M : List α) (hx : a.eval x = .slice ra m c) (hr : TRow y w ra m M) (h0 : ra = none → m = 0 ∧ c = 0)
    (hm : L.length + m ≤ maxLen) (hb : (L.length + m) * bytes ≤ 140737488355328) (hbase : base ≤ w.heap.size)
    (h : ∀ v' w', Own y e w' base v' (L ++ M) → w.grownBy w' v.ownBlock → (v'.ownBlock = v.ownBlock ∨ v'.ownBlock = some w.heap.size) → wpList Tryz.prog ops Q rest (a.put o.dst v') w') : wpList Tryz.prog ops Q (o :: rest) a w := by
  cases ra with
  | none =>
    obtain ⟨rfl, rfl⟩ := h0 rfl
    have e1 := List.length_eq_zero_iff.1 hr.len
    subst e1
    refine wpList_append_own_none hgd s x t ho base e i0 y.z hu hi v L.length _ hs hown hx (h v w (by simpa using hown) (World.grownBy.refl w _) (.inl rfl))
  | some ad =>
    refine wpList_append_own_at w hgd s x t ho base e i0 z y.z bytes hu hi hz0 hz1 hz2 hzs y.pos v L.length _ hs hown ad m c (y.fl M) hx (by rw [y.fl_len, hr.len]) hr.news (y.fl_cell M) hm hb hbase ?_
    intro v' w' h1 h2 _ h4
    refine h v' w' ?_ h2 h4
    unfold Own
    rw [List.length_append, hr.len, y.fl_app]
    exact h1
theorem TRow.one {α : Type} {y : Lay α} {w : World} {B : Nat} {e : TypeId} {x : α} {fr : Nat × Nat} (h : w.heap[B]? = some (.cells (y.cs x).toArray e fr)) : TRow y w (some ⟨B, 0, none⟩) 1 [x] := by
  refine ⟨rfl, .inr ⟨B, 0, rfl, fun i u hi t v hv => ?_⟩⟩
  have hi0 := get_lt hi
  have e0 : i = 0 := by simpa using hi0
  subst e0
  simp at hi
  subst hi
  rw [Nat.zero_mul, Nat.zero_add]
  exact cell_at h (by simpa using hv)
theorem Own.lit0 {α : Type} (y : Lay α) (e : TypeId) (w : World) {base : Nat} (hb : base ≤ w.heap.size) : Own y e (w.alloc (.cells #[] e)) base (.slice (some ⟨w.heap.size, 0, none⟩) 0 0) [] := by
  unfold Own
  exact ⟨by simp [Lay.fl], .inr ⟨w.heap.size, 0, #[], rfl, hb, heap_new _ _, Nat.le_refl _, Nat.zero_le _, by simp, by simp [Lay.fl]⟩⟩
/-- What is left behind the first k. -/
theorem TRow.drop {α : Type} {y : Lay α} {w : World} {b off n : Nat} {L : List α} (h : TRow y w (some ⟨b, off, none⟩) n L) (k : Nat) (hk : k ≤ n) : TRow y w (some ⟨b, off + k * y.z, none⟩) (n - k) (L.drop k) := by
  refine ⟨by rw [List.length_drop, h.len], ?_⟩
  rcases Nat.eq_zero_or_pos (n - k) with h0 | h0
  · exact .inl h0
  · rcases h.cells with h1 | ⟨b', off', he, hc⟩
    · omega
    · cases he
      refine .inr ⟨b, off + k * y.z, rfl, fun i x hx t u hu => ?_⟩
      rw [List.getElem?_drop] at hx
      have := hc (k + i) x hx t u hu
      rw [show off + k * y.z + i * y.z + t = off + (k + i) * y.z + t by rw [Nat.add_mul]; omega]
      exact this
theorem TRow.drop_if {α : Type} {y : Lay α} {w : World} {b off n c : Nat} {L : List α} (h : TRow y w (some ⟨b, off, none⟩) n L) (k : Nat) (hk : k ≤ n) (hc : n ≤ c) : TRow y w (if c = k then some ⟨b, off, none⟩ else some ⟨b, off + k * y.z, none⟩) (n - k) (L.drop k) := by
  split
  · exact ⟨by rw [List.length_drop, h.len], .inl (by omega)⟩
  · exact h.drop k hk
theorem own_ty {α : Type} {y : Lay α} {e : TypeId} {w : World} {base b : Nat} {v : Value} {C : List α} (h : Own y e w base v C) (hb : v.ownBlock = some b) : ∃ cur, w.heap[b]? = some (.cells cur e (0, 0)) := by
  rcases h.2 with ⟨rfl, _⟩ | ⟨g, cap, cur, rfl, _, hh, _⟩
  · simp [Value.ownBlock] at hb
  · have e1 : g = b := by simpa [Value.ownBlock] using hb
    subst e1
    exact ⟨cur, hh⟩
theorem own_not_map {α : Type} {y : Lay α} {e : TypeId} {w : World} {base b : Nat} {v : Value} {C : List α} {es : Array MapEntry} {cl : Nat} (h : Own y e w base v C) (hb : w.heap[b]? = some (.map es cl)) : v.ownBlock ≠ some b := by
  intro hv
  rcases h.2 with ⟨rfl, _⟩ | ⟨g, cap, cur, rfl, _, hh, _⟩
  · simp [Value.ownBlock] at hv
  · have e1 : g = b := by simpa [Value.ownBlock] using hv
    subst e1
    rw [hh] at hb
    cases hb
theorem map_but {S : Nat → Prop} {w w' : World} {H : Type} {P : Program} {k : TypeId} {R : Value → Option (DataW H × List MemPlace)} {b n : Nat} {D : DataW H} (h : w.ownsMap P k R b n D) (hb : But S w w') (hv : ¬ S b) : w'.ownsMap P k R b n D := by
  obtain ⟨es, clock, hh, r⟩ := h
  exact ⟨es, clock, (hb.block b (Array.getElem?_eq_some_iff.1 hh).1 hv).trans hh, r⟩
theorem cell_but {S : Nat → Prop} {w w' : World} {p : Addr} {v : Value} (h : w.cell? p = some v) (hb : But S w w') (hS : ¬ S p.block) : w'.cell? p = some v :=
  (World.cell?_of_block (hb.block p.block (World.block_lt_of_cell? w _ h) hS)).trans h
theorem TRow.but {α : Type} {y : Lay α} {S : Nat → Prop} {w w' : World} {a : Option Addr} {n : Nat} {L : List α} (h : TRow y w a n L) (hb : But S w w') (hS : ∀ b off, 0 < n → a = some ⟨b, off, none⟩ → ¬ S b) : TRow y w' a n L := by
  refine ⟨h.len, ?_⟩
  rcases h.cells with h0 | ⟨b, off, ha, hc⟩
  · exact .inl h0
  · by_cases hn : 0 < n
    · exact .inr ⟨b, off, ha, fun i x hx t u hu => cell_but (hc i x hx t u hu) hb (hS b off hn ha)⟩
    · exact .inl (by omega)
theorem Lay.fl_set1 {α : Type} (y : Lay α) {L : List α} {i t : Nat} {a a' : α} {u : Value} (hi : L[i]? = some a) (ht : t < y.z) (hc : y.cs a' = (y.cs a).set t u) : (y.fl L).set (i * y.z + t) u = y.fl (L.set i a') := by
  induction L generalizing i with
  | nil => simp at hi
  | cons x l ih =>
    cases i with
    | zero =>
      simp at hi
      subst hi
      rw [Nat.zero_mul, Nat.zero_add, y.fl_cons, List.set_cons_zero, y.fl_cons, hc, List.set_append_left _ _ (by rw [y.len]; exact ht)]
    | succ i =>
      simp at hi
      have e : (i + 1) * y.z + t = (y.cs x).length + (i * y.z + t) := by rw [y.len, Nat.succ_mul]; omega
      rw [y.fl_cons, List.set_cons_succ, y.fl_cons, ← ih hi, e, List.set_append_right _ _ (by omega), Nat.add_sub_cancel_left]
theorem Own.setU {α : Type} {y : Lay α} {e : TypeId} {w : World} {base g n c : Nat} {L : List α} (h : Own y e w base (.slice (some ⟨g, 0, none⟩) n c) L) (hn : L.length = n) {i t : Nat} {a a' : α} {u : Value} (hi : L[i]? = some a) (ht : t < y.z) (hc : y.cs a' = (y.cs a).set t u) :
    Own y e (w.setCell ⟨g, i * y.z + t, none⟩ u) base (.slice (some ⟨g, 0, none⟩) n c) (L.set i a') := by
  subst hn
  unfold Own
  rw [List.length_set, ← y.fl_set1 hi ht hc]
  exact (World.ownsRow.stored h (i * y.z + t) u).1
end Go.Proofs.YtafkammiehcdjaaGreatDoor
/-
  Entries and pieces in memory; comparing; seeking in a piece.
-/
namespace Go.Proofs.YtafkammiehcdjaaGreatDoor
open Go.RowKit
def u64B (x : Int) : Prop := 0 ≤ x ∧ x ≤ 18446744073709551615
def layN : Lay Ent := ⟨fun e => [.int .u64 e.1, .int .u64 e.2], 2, by decide, fun _ => rfl, by intro a u hu; simp at hu; rcases hu with rfl | rfl <;> rfl⟩
theorem Tryz.infoN : (Tryz.prog.info? 148).map (fun i => (i.zero, i.size, i.bytes)) = some (some (.agg #[.int .u64 0, .int .u64 0]), 2, 16) := by kernel_rfl
theorem Tryz.infoP : (Tryz.prog.info? 149).map (fun i => (i.zero, i.size, i.bytes)) = some (some (.slice .none 0 0), 1, 24) := by kernel_rfl
/-- A piece. -/
structure Pc where
  a : Option Addr
  c : Nat
  es : List Ent
abbrev Pc.val (p : Pc) : Value := .slice p.a p.es.length p.c
def layP : Lay Pc := ⟨fun p => [.slice p.a p.es.length p.c], 1, by decide, fun _ => rfl, by intro a u hu; simp at hu; subst hu; rfl⟩
/-- -1, 0, 1. -/
def cmpI (a b : Int) : Int := if a < b then -1 else if b < a then 1 else 0
theorem nan_any (a : Int) (w : World) : Calls Tryz.prog 163 #[.int .u64 a] w fun e w' => e = .returned (.bool false) ∧ w' = w := by
  go_enter Tryz.func163, Tryz.ntmps163
  go_wp2
  go_ret
  exact ⟨by simp, rfl⟩
theorem cmp_any (a b : Int) (w : World) : Calls Tryz.prog 150 #[.int .u64 a, .int .u64 b] w fun e w' => e = .returned (.int .i64 (cmpI a b)) ∧ w' = w := by
  have H1 := hide (nan_any a w)
  have H2 := hide (nan_any b w)
  obtain ⟨R, hR⟩ : ∃ R, R = cmpI a b := ⟨_, rfl⟩
  rw [← hR]
  unfold cmpI at hR
  have HR := hide hR
  clear hR
  go_enter Tryz.func150, Tryz.ntmps150
  go_wp2_with fail
  refine H1.out.mono ?_
  rintro e w1 ⟨rfl, hw⟩
  rw [hw]; clear hw w1
  go_wp2_with fail
  refine H2.out.mono ?_
  rintro e w1 ⟨rfl, hw⟩
  rw [hw]; clear hw w1
  by_cases h1 : a < b
  · have hN : R = -1 := by rw [HR.out, if_pos h1]
    clear HR
    go_wp2
    go_ret
    exact ⟨by rw [hN]; rfl, rfl⟩
  · have d1 : decide (a < b) = false := decide_eq_false h1
    by_cases h2 : b < a
    · have hN : R = 1 := by rw [HR.out, if_neg h1, if_pos h2]
      clear HR
      go_wp2
      go_ret
      exact ⟨by rw [hN]; rfl, rfl⟩
    · have d2 : decide (b < a) = false := decide_eq_false h2
      have hN : R = 0 := by rw [HR.out, if_neg h1, if_neg h2]
      clear HR
      go_wp2
      go_ret
      exact ⟨by rw [hN]; rfl, rfl⟩
/-- The function that seek hands on for entries. -/
theorem seek2_any (a v k : Int) (w : World) : Calls Tryz.prog 152 #[.agg #[.int .u64 a, .int .u64 v], .int .u64 k] w fun e w' => e = .returned (.int .i64 (cmpI a k)) ∧ Below w.heap.size w w' := by
  have H1 := hide (cmp_any a k (w.alloc (.cells #[.int .u64 a, .int .u64 v] 148)))
  have HB := hide (below_alloc1 w (.cells #[.int .u64 a, .int .u64 v] 148))
  go_enter Tryz.func152, Tryz.ntmps152
  go_wp2_with fail
  refine H1.out.mono ?_
  rintro e w1 ⟨rfl, hw⟩
  rw [hw]; clear hw w1
  go_wp2
  go_ret
  exact ⟨rfl, HB.out⟩
/-- .. and for pieces. -/
theorem seek1_any (p : Pc) (k : Int) (w : World) (h : Own layN 148 w 0 p.val p.es) (x : Ent) (hx : p.es.getLast? = some x) (hs : (p.es.length : Int) ≤ 9223372036854775806) :
    Calls Tryz.prog 149 #[p.val, .int .u64 k] w fun e w' => e = .returned (.int .i64 (cmpI x.1 k)) ∧ w' = w := by
  have H1 := hide (cmp_any x.1 k w)
  obtain ⟨pa, pc, es⟩ := p
  have h9 : Own layN 148 w 0 (.slice pa es.length pc) es := h
  have hx9 : es.getLast? = some x := hx
  have hs9 : (es.length : Int) ≤ 9223372036854775806 := hs
  have hpos : 0 < es.length := by
    cases es with
    | nil => simp at hx9
    | cons => simp
  obtain ⟨m, hm⟩ : ∃ m, es.length = m + 1 := ⟨es.length - 1, by omega⟩
  have hg : es[m]? = some x := by rw [List.getLast?_eq_getElem?, hm] at hx9; exact hx9
  obtain ⟨g, c, hv, _, _, _⟩ := h9.frm hpos
  cases hv
  have c0 := h9.cell hg 0 rfl
  show Calls Tryz.prog _ #[.slice (some ⟨g, 0, none⟩) es.length pc, _] w _
  rw [hm]
  have e1 : ((m + 1 : Nat) : Int) - 1 = (m : Int) := by omega
  have HM := hide hm
  have HS := hide hs9
  clear hx hx9 h h9 hg hs hs9 hpos hm
  have c0' : w.cell? ⟨g, m * 2 + 0, none⟩ = some (.int .u64 x.1) := c0
  rw [Nat.add_zero] at c0'
  have hw1 : wrap64 (m : Int) = (m : Int) := by have := HS.out; rw [HM.out] at this; unfold wrap64; omega
  clear c0
  go_enter Tryz.func149, Tryz.ntmps149
  go_wp2_with fail
  refine H1.out.mono ?_
  rintro e w1 ⟨rfl, hw⟩
  rw [hw]; clear hw w1
  go_wp2
  go_ret
  exact ⟨rfl, rfl⟩
end Go.Proofs.YtafkammiehcdjaaGreatDoor
/-
  slices.BinarySearchFunc over entries and over pieces.
-/
namespace Go.Proofs.YtafkammiehcdjaaGreatDoor
open Go.RowKit
/-- Where the first one is that is no lower. -/
structure LB (L : List Ent) (k : Int) (j : Nat) (is : Bool) : Prop where
  le : j ≤ L.length
  low : ∀ e ∈ L.take j, e.1 < k
  high : ∀ e ∈ L.drop j, k ≤ e.1
  is : is = true ↔ ∃ v, L[j]? = some (k, v)
theorem take_low {L : List Ent} (hR : Ris L) {h : Nat} {x : Ent} (hx : L[h]? = some x) {k : Int} (hk : x.1 < k) : ∀ e ∈ L.take (h + 1), e.1 < k := by
  intro e he
  have hl := get_lt hx
  obtain ⟨i, hi, rfl⟩ := List.mem_iff_getElem.1 he
  rw [List.length_take] at hi
  rw [List.getElem_take]
  have hxe : L[h] = x := (List.getElem?_eq_some_iff.1 hx).2
  by_cases e1 : i = h
  · subst e1; rw [hxe]; exact hk
  · have := List.pairwise_iff_getElem.1 hR i h (by omega) hl (by omega)
    rw [hxe] at this
    omega
theorem drop_high {L : List Ent} (hR : Ris L) {h : Nat} {x : Ent} (hx : L[h]? = some x) {k : Int} (hk : k ≤ x.1) : ∀ e ∈ L.drop h, k ≤ e.1 := by
  intro e he
  have hl := get_lt hx
  obtain ⟨i, hi, rfl⟩ := List.mem_iff_getElem.1 he
  rw [List.length_drop] at hi
  rw [List.getElem_drop]
  have hxe : L[h] = x := (List.getElem?_eq_some_iff.1 hx).2
  by_cases e1 : i = 0
  · subst e1
    simp only [Nat.add_zero]
    rw [hxe]; exact hk
  · have := List.pairwise_iff_getElem.1 hR h (h + i) hl (by omega) (by omega)
    rw [hxe] at this
    omega
theorem get_ex {α : Type} {L : List α} {i : Nat} (h : i < L.length) : ∃ x, L[i]? = some x := ⟨_, List.getElem?_eq_getElem h⟩
theorem cmpI_lt {a b : Int} : decide (cmpI a b < 0) = decide (a < b) := by
  unfold cmpI
  by_cases h : a < b
  · rw [if_pos h]; simp [h]
  · rw [if_neg h]
    by_cases h2 : b < a
    · rw [if_pos h2]; simp [h]
    · rw [if_neg h2]; simp [h]
theorem cmpI_eq {a b : Int} : (cmpI a b == 0) = decide (a = b) := by
  unfold cmpI
  by_cases h : a < b
  · rw [if_pos h]; rw [decide_eq_false (by omega)]; rfl
  · rw [if_neg h]
    by_cases h2 : b < a
    · rw [if_pos h2]; rw [decide_eq_false (by omega)]; rfl
    · rw [if_neg h2]; rw [decide_eq_true (by omega)]; rfl
set_option maxRecDepth 4000 in
theorem bsE_any (a : Option Addr) (n c : Nat) (L : List Ent) (k : Int) (w : World) (h : TRow layN w a n L) (hR : Ris L) (hn : (n : Int) ≤ 4000000) :
    Calls Tryz.prog 151 #[.slice a n c, .int .u64 k, .func (.func 152) #[] #[]] w fun e w' => ∃ (j : Nat) (is : Bool), e = .returned (.tuple #[.int .i64 (j : Int), .bool is]) ∧ LB L k j is ∧ Below w.heap.size w w' := by
  have HT := hide h
  have HR := hide hR
  clear h hR
  go_enter Tryz.func151, Tryz.ntmps151
  go_wp2
  go_loopw [9, 10] (fun i j wr => ∃ p q : Nat, p ≤ q ∧ q ≤ n ∧ i = .int .i64 p ∧ j = .int .i64 q ∧ (∀ e ∈ L.take p, e.1 < k) ∧ (∀ e ∈ L.drop q, k ≤ e.1) ∧ Below w.heap.size w wr) (fun i j _ => (intOf j).toNat - (intOf i).toNat)
  case atStart => exact ⟨0, n, Nat.zero_le _, Nat.le_refl _, rfl, rfl, by simp, by rw [← HT.out.len]; simp, Below.refl _ _⟩
  case round =>
    obtain ⟨p, q, hpq, hqn, rfl, rfl, hlow, hhigh, hb⟩ := hrel
    have HL := hide hlow
    have HH := hide hhigh
    have HB := hide hb
    clear hlow hhigh hb
    by_cases hlt : p < q
    · obtain ⟨m, hm⟩ : ∃ m, m = (p + q) / 2 := ⟨_, rfl⟩
      have e1 : ((p : Int) + (q : Int)) / 2 = (m : Int) := by omega
      have hm1 : p ≤ m := by omega
      have hm2 : m < q := by omega
      have hmn : m < n := by omega
      have hmI : (m : Int) < n := by omega
      clear hm
      obtain ⟨b, off, rfl, _, hc⟩ := (HT.out.below HB.out).at (by omega)
      obtain ⟨x, hx⟩ := get_ex (L := L) (i := m) (by rw [HT.out.len]; exact hmn)
      have c0 : wr.cell? ⟨b, off + m * 2, none⟩ = some (.int .u64 x.1) := hc m x hx 0 _ rfl
      have c1 : wr.cell? ⟨b, off + m * 2 + 1, none⟩ = some (.int .u64 x.2) := hc m x hx 1 _ rfl
      have HX := hide hx
      have HC := hide (fun W => seek2_any x.1 x.2 k W)
      clear hc hx
      go_wp2_with fail
      refine (HC.out _).mono ?_
      rintro e w2 ⟨rfl, hb2⟩
      have HB2 := hide (Below.on HB.out hb2)
      clear hb2 c0 c1
      by_cases hk : x.1 < k
      · have hd : decide (cmpI x.1 k < 0) = true := by rw [cmpI_lt]; exact decide_eq_true hk
        have HN := hide (take_low HR.out HX.out hk)
        generalize cmpI x.1 k = z at hd ⊢
        have hz : z < 0 := of_decide_eq_true hd
        clear hk HX HC hd
        go_wp2
        exact ⟨⟨m + 1, q, by omega, by omega, by go_num, rfl, HN.out, HH.out, HB2.out⟩, by simp [intOf]; omega⟩
      · have hd : decide (cmpI x.1 k < 0) = false := by rw [cmpI_lt]; exact decide_eq_false hk
        have HN := hide (drop_high HR.out HX.out (by omega : k ≤ x.1))
        generalize cmpI x.1 k = z at hd ⊢
        have hz : ¬ z < 0 := of_decide_eq_false hd
        clear hk HX HC
        go_wp2
        exact ⟨⟨p, m, by omega, by omega, rfl, rfl, HL.out, HN.out, HB2.out⟩, by simp [intOf]; omega⟩
    · obtain rfl : p = q := by omega
      by_cases hpn : p < n
      · have hpI : (p : Int) < n := by omega
        obtain ⟨b, off, rfl, _, hc⟩ := (HT.out.below HB.out).at (by omega)
        obtain ⟨x, hx⟩ := get_ex (L := L) (i := p) (by rw [HT.out.len]; exact hpn)
        have c0 : wr.cell? ⟨b, off + p * 2, none⟩ = some (.int .u64 x.1) := hc p x hx 0 _ rfl
        have c1 : wr.cell? ⟨b, off + p * 2 + 1, none⟩ = some (.int .u64 x.2) := hc p x hx 1 _ rfl
        have HX := hide hx
        have HC := hide (fun W => seek2_any x.1 x.2 k W)
        have HE := hide (cmpI_eq (a := x.1) (b := k))
        clear hc hx
        go_wp2_with fail
        refine (HC.out _).mono ?_
        rintro e w2 ⟨rfl, hb2⟩
        have HB2 := hide (Below.on HB.out hb2)
        clear hb2 c0 c1
        have HN : Hid (LB L k p (cmpI x.1 k == 0)) := hide ⟨by rw [HT.out.len]; omega, HL.out, HH.out, by
          rw [HE.out, HX.out]
          simp only [decide_eq_true_eq]
          constructor
          · intro e; exact ⟨x.2, by rw [← e]⟩
          · rintro ⟨v, e⟩; cases e; rfl⟩
        generalize cmpI x.1 k = z at HN ⊢
        clear HX HC HE
        go_wp2
        go_ret2
        exact ⟨p, _, rfl, HN.out, HB2.out⟩
      · have hpI : decide ((p : Int) < n) = false := decide_eq_false (by omega)
        have hpN : ¬ (p < n) := hpn
        have HN : Hid (LB L k p false) := hide ⟨by rw [HT.out.len]; omega, HL.out, HH.out, by
          rw [List.getElem?_eq_none (by rw [HT.out.len]; omega)]; simp⟩
        go_wp2
        go_ret2
        exact ⟨p, _, rfl, HN.out, HB.out⟩
/-- A key ahead of a piece's last one, or not. -/
structure LP (ps : List Pc) (k : Int) (i : Nat) : Prop where
  le : i ≤ ps.length
  low : ∀ p ∈ ps.take i, ∃ x, p.es.getLast? = some x ∧ x.1 < k
  high : ∀ p ∈ ps.drop i, ∃ x, p.es.getLast? = some x ∧ k ≤ x.1
/-- The last ones rise. -/
def LRis (ps : List Pc) : Prop := ∀ (i j : Nat) (p q : Pc) (x y : Ent), i < j → ps[i]? = some p → ps[j]? = some q → p.es.getLast? = some x → q.es.getLast? = some y → x.1 < y.1
theorem lp_low {ps : List Pc} (hR : LRis ps) (hne : ∀ p ∈ ps, ∃ x, p.es.getLast? = some x) {h : Nat} {p : Pc} {x : Ent} (hp : ps[h]? = some p) (hx : p.es.getLast? = some x) {k : Int} (hk : x.1 < k) : ∀ p ∈ ps.take (h + 1), ∃ x, p.es.getLast? = some x ∧ x.1 < k := by
  intro q hq
  obtain ⟨i, hi⟩ := List.mem_iff_getElem?.1 hq
  rw [List.getElem?_take] at hi
  split at hi
  · rename_i hlt
    obtain ⟨y, hy⟩ := hne q (List.mem_of_getElem? hi)
    refine ⟨y, hy, ?_⟩
    by_cases e : i = h
    · subst e
      rw [hp] at hi
      cases hi
      rw [hx] at hy
      cases hy
      exact hk
    · have := hR i h q p y x (by omega) hi hp hy hx
      omega
  · cases hi
theorem lp_high {ps : List Pc} (hR : LRis ps) (hne : ∀ p ∈ ps, ∃ x, p.es.getLast? = some x) {h : Nat} {p : Pc} {x : Ent} (hp : ps[h]? = some p) (hx : p.es.getLast? = some x) {k : Int} (hk : k ≤ x.1) : ∀ p ∈ ps.drop h, ∃ x, p.es.getLast? = some x ∧ k ≤ x.1 := by
  intro q hq
  obtain ⟨i, hi⟩ := List.mem_iff_getElem?.1 hq
  rw [List.getElem?_drop] at hi
  obtain ⟨y, hy⟩ := hne q (List.mem_of_getElem? hi)
  refine ⟨y, hy, ?_⟩
  by_cases e : i = 0
  · subst e
    rw [Nat.add_zero, hp] at hi
    cases hi
    rw [hx] at hy
    cases hy
    exact hk
  · have := hR h (h + i) p q x y (by omega) hp hi hx hy
    omega
set_option maxRecDepth 4000 in
theorem bsP_any (a : Option Addr) (n c : Nat) (ps : List Pc) (k : Int) (w : World) (h : TRow layP w a n ps) (he : ∀ p ∈ ps, Own layN 148 w 0 p.val p.es) (hs : ∀ p ∈ ps, (p.es.length : Int) ≤ 9223372036854775806) (hR : LRis ps) (hne : ∀ p ∈ ps, ∃ x, p.es.getLast? = some x) (hn : (n : Int) ≤ 4000000) :
    Calls Tryz.prog 148 #[.slice a n c, .int .u64 k, .func (.func 149) #[] #[]] w fun e w' => ∃ (j : Nat) (is : Bool), e = .returned (.tuple #[.int .i64 (j : Int), .bool is]) ∧ LP ps k j ∧ Below w.heap.size w w' := by
  have HT := hide h
  have HR := hide hR
  have HE := hide he
  have HS := hide hs
  have HNe := hide hne
  clear h hR he hs hne
  go_enter Tryz.func148, Tryz.ntmps148
  go_wp2
  go_loopw [9, 10] (fun i j wr => ∃ p q : Nat, p ≤ q ∧ q ≤ n ∧ i = .int .i64 p ∧ j = .int .i64 q ∧ (∀ z ∈ ps.take p, ∃ x, z.es.getLast? = some x ∧ x.1 < k) ∧ (∀ z ∈ ps.drop q, ∃ x, z.es.getLast? = some x ∧ k ≤ x.1) ∧ Below w.heap.size w wr) (fun i j _ => (intOf j).toNat - (intOf i).toNat)
  case atStart => exact ⟨0, n, Nat.zero_le _, Nat.le_refl _, rfl, rfl, by simp, by rw [← HT.out.len]; simp, Below.refl _ _⟩
  case round =>
    obtain ⟨p, q, hpq, hqn, rfl, rfl, hlow, hhigh, hb⟩ := hrel
    have HL := hide hlow
    have HH := hide hhigh
    have HB := hide hb
    clear hlow hhigh hb
    by_cases hlt : p < q
    · obtain ⟨m, hm⟩ : ∃ m, m = (p + q) / 2 := ⟨_, rfl⟩
      have e1 : ((p : Int) + (q : Int)) / 2 = (m : Int) := by omega
      have hm1 : p ≤ m := by omega
      have hm2 : m < q := by omega
      have hmn : m < n := by omega
      have hmI : (m : Int) < n := by omega
      clear hm
      obtain ⟨b, off, rfl, _, hc⟩ := (HT.out.below HB.out).at (by omega)
      obtain ⟨y, hy⟩ := get_ex (L := ps) (i := m) (by rw [HT.out.len]; exact hmn)
      have hym := List.mem_of_getElem? hy
      obtain ⟨x, hx⟩ := HNe.out y hym
      have c0 : wr.cell? ⟨b, off + m * 1, none⟩ = some (.slice y.a y.es.length y.c) := hc m y hy 0 _ rfl
      rw [Nat.mul_one] at c0
      have HX := hide hx
      have HY := hide hy
      have HC := hide (seek1_any y k wr ((HE.out y hym).below HB.out) x hx (HS.out y hym))
      clear hc hx hy hym
      go_wp2_with fail
      refine HC.out.mono ?_
      rintro e w2 ⟨rfl, hw2⟩
      rw [hw2]
      clear hw2 w2 c0
      by_cases hk : x.1 < k
      · have hd : decide (cmpI x.1 k < 0) = true := by rw [cmpI_lt]; exact decide_eq_true hk
        have HN := hide (lp_low HR.out HNe.out HY.out HX.out hk)
        generalize cmpI x.1 k = z at hd ⊢
        have hz : z < 0 := of_decide_eq_true hd
        clear hk HX HY HC hd
        go_wp2
        exact ⟨⟨m + 1, q, by omega, by omega, by go_num, rfl, HN.out, HH.out, HB.out⟩, by simp [intOf]; omega⟩
      · have hd : decide (cmpI x.1 k < 0) = false := by rw [cmpI_lt]; exact decide_eq_false hk
        have HN := hide (lp_high HR.out HNe.out HY.out HX.out (by omega : k ≤ x.1))
        generalize cmpI x.1 k = z at hd ⊢
        have hz : ¬ z < 0 := of_decide_eq_false hd
        clear hk HX HY HC
        go_wp2
        exact ⟨⟨p, m, by omega, by omega, rfl, rfl, HL.out, HN.out, HB.out⟩, by simp [intOf]; omega⟩
    · obtain rfl : p = q := by omega
      have HN : Hid (LP ps k p) := hide ⟨by rw [HT.out.len]; omega, HL.out, HH.out⟩
      by_cases hpn : p < n
      · have hpI : (p : Int) < n := by omega
        obtain ⟨b, off, rfl, _, hc⟩ := (HT.out.below HB.out).at (by omega)
        obtain ⟨y, hy⟩ := get_ex (L := ps) (i := p) (by rw [HT.out.len]; exact hpn)
        have hym := List.mem_of_getElem? hy
        obtain ⟨x, hx⟩ := HNe.out y hym
        have c0 : wr.cell? ⟨b, off + p * 1, none⟩ = some (.slice y.a y.es.length y.c) := hc p y hy 0 _ rfl
        rw [Nat.mul_one] at c0
        have HC := hide (seek1_any y k wr ((HE.out y hym).below HB.out) x hx (HS.out y hym))
        clear hc hx hy hym
        go_wp2_with fail
        refine HC.out.mono ?_
        rintro e w2 ⟨rfl, hw2⟩
        rw [hw2]
        clear hw2 w2 c0
        generalize cmpI x.1 k = z at *
        clear HC
        go_wp2
        go_ret2
        exact ⟨p, _, rfl, HN.out, HB.out⟩
      · have hpI : decide ((p : Int) < n) = false := decide_eq_false (by omega)
        have hpN : ¬ (p < n) := hpn
        go_wp2
        go_ret2
        exact ⟨p, _, rfl, HN.out, HB.out⟩
end Go.Proofs.YtafkammiehcdjaaGreatDoor
/-
  Pieces in memory; seek, has, get, next.
-/
namespace Go.Proofs.YtafkammiehcdjaaGreatDoor
open Go.RowKit
/-- Pieces that lie in blocks of P. -/
structure Pcs (w : World) (P : Nat → Prop) (v : Value) (ps : List Pc) : Prop where
  own : Own layP 149 w 0 v ps
  each : ∀ p ∈ ps, Own layN 148 w 0 p.val p.es
  vin : ∀ b, v.ownBlock = some b → P b
  pin : ∀ p ∈ ps, ∀ b, p.val.ownBlock = some b → P b
  apart : ∀ (i j : Nat) (p q : Pc) (b : Nat), ps[i]? = some p → ps[j]? = some q → p.val.ownBlock = some b → q.val.ownBlock = some b → i = j
abbrev esOf (ps : List Pc) : List (List Ent) := ps.map Pc.es
theorem Pcs.below {w w' : World} {P : Nat → Prop} {v : Value} {ps : List Pc} (h : Pcs w P v ps) (hb : Below w.heap.size w w') : Pcs w' P v ps :=
  ⟨h.own.below hb, fun p hp => (h.each p hp).below hb, h.vin, h.pin, h.apart⟩
theorem Pcs.but {S : Nat → Prop} {w w' : World} {P : Nat → Prop} {v : Value} {ps : List Pc} (h : Pcs w P v ps) (hb : But S w w') (hS : ∀ b, P b → ¬ S b) : Pcs w' P v ps :=
  ⟨h.own.but hb (fun g hg => hS g (h.vin g hg)), fun p hp => (h.each p hp).but hb (fun g hg => hS g (h.pin p hp g hg)), h.vin, h.pin, h.apart⟩
theorem Pcs.mono {w : World} {P Q : Nat → Prop} {v : Value} {ps : List Pc} (h : Pcs w P v ps) (hQ : ∀ b, P b → Q b) : Pcs w Q v ps :=
  ⟨h.own, h.each, fun b hb => hQ b (h.vin b hb), fun p hp b hb => hQ b (h.pin p hp b hb), h.apart⟩
theorem esOf_getD {ps : List Pc} {i : Nat} {p : Pc} (h : ps[i]? = some p) : (esOf ps).getD i [] = p.es := by simp [List.getD, esOf, h]
theorem ris_pieces {ps : List Pc} (h : Ris (esOf ps).flatten) : (∀ p ∈ ps, Ris p.es) ∧ ∀ (i j : Nat) (p q : Pc), i < j → ps[i]? = some p → ps[j]? = some q → ∀ x ∈ p.es, ∀ y ∈ q.es, x.1 < y.1 := by
  obtain ⟨h1, h2⟩ := List.pairwise_flatten.1 h
  refine ⟨fun p hp => h1 p.es (List.mem_map.2 ⟨p, hp, rfl⟩), fun i j p q hij hp hq => ?_⟩
  have hj := get_lt hq
  have hi := get_lt hp
  have := List.pairwise_iff_getElem.1 h2 i j (by simpa using hi) (by simpa using hj) hij
  have e1 : ps[i] = p := (List.getElem?_eq_some_iff.1 hp).2
  have e2 : ps[j] = q := (List.getElem?_eq_some_iff.1 hq).2
  simp only [esOf, List.getElem_map, e1, e2] at this
  exact this
theorem last_mem {l : List Ent} {x : Ent} (h : l.getLast? = some x) : x ∈ l := List.mem_of_getLast? h
theorem ris_last {l : List Ent} (hl : Ris l) {x : Ent} (h : l.getLast? = some x) : ∀ e ∈ l, e.1 ≤ x.1 := by
  intro e he
  rw [List.getLast?_eq_getElem?] at h
  obtain ⟨i, hi⟩ := List.mem_iff_getElem?.1 he
  have h1 := get_lt h
  have h2 := get_lt hi
  by_cases e1 : i = l.length - 1
  · subst e1; rw [h] at hi; cases hi; exact Int.le_refl _
  · have := List.pairwise_iff_getElem.1 hl i (l.length - 1) h2 h1 (by omega)
    rw [(List.getElem?_eq_some_iff.1 hi).2, (List.getElem?_eq_some_iff.1 h).2] at this
    omega
theorem sk_mk {ps : List Pc} {k : Int} {m i j : Nat} {is : Bool} {p : Pc} (hm : ps.length = m + 1) (hR : Ris (esOf ps).flatten) (h1 : LP (ps.take m) k i) (hp : ps[i]? = some p) (h2 : LB p.es k j is) : Sk (esOf ps) k i j is := by
  obtain ⟨r1, r2⟩ := ris_pieces hR
  have hil := get_lt hp
  have hD : (esOf ps).getD i [] = p.es := esOf_getD hp
  have hlast : i < m → ∃ x, p.es.getLast? = some x ∧ k ≤ x.1 := fun hlt => h1.high p (by
    refine List.mem_iff_getElem?.2 ⟨0, ?_⟩
    rw [List.getElem?_drop, Nat.add_zero, List.getElem?_take, if_pos hlt]; exact hp)
  refine ⟨by simpa using hil, by rw [hD]; exact h2.le, ?_, ?_, by rw [hD]; exact h2.is, ?_⟩
  · rw [hD]
    intro e he
    rcases List.mem_append.1 he with he | he
    · obtain ⟨l, hl, hel⟩ := List.mem_flatten.1 he
      obtain ⟨a, ha⟩ := List.mem_iff_getElem?.1 hl
      rw [List.getElem?_take] at ha
      split at ha
      · rename_i hai
        rw [List.getElem?_map] at ha
        obtain ⟨q, hq, rfl⟩ : ∃ q, ps[a]? = some q ∧ q.es = l := by
          cases hq : ps[a]? with
          | none => rw [hq] at ha; cases ha
          | some q => rw [hq] at ha; cases ha; exact ⟨q, rfl, rfl⟩
        have him : i ≤ m := by have := h1.le; rw [List.length_take] at this; omega
        obtain ⟨x, hx, hxk⟩ := h1.low q (by
          refine List.mem_iff_getElem?.2 ⟨a, ?_⟩
          rw [List.getElem?_take, if_pos hai, List.getElem?_take, if_pos (by omega)]; exact hq)
        have := ris_last (r1 q (List.mem_of_getElem? hq)) hx e hel
        omega
      · cases ha
    · exact h2.low e he
  · rw [hD]
    intro e he
    rcases List.mem_append.1 he with he | he
    · exact h2.high e he
    · obtain ⟨l, hl, hel⟩ := List.mem_flatten.1 he
      obtain ⟨a, ha⟩ := List.mem_iff_getElem?.1 hl
      rw [List.getElem?_drop, List.getElem?_map] at ha
      obtain ⟨q, hq, rfl⟩ : ∃ q, ps[i + 1 + a]? = some q ∧ q.es = l := by
        cases hq : ps[i + 1 + a]? with
        | none => rw [hq] at ha; cases ha
        | some q => rw [hq] at ha; cases ha; exact ⟨q, rfl, rfl⟩
      have := get_lt hq
      obtain ⟨x, hx, hxk⟩ := hlast (by omega)
      have := r2 i (i + 1 + a) p q (by omega) hp hq x (last_mem hx) e hel
      omega
  · rw [hD]
    intro hj
    show i + 1 = (ps.map Pc.es).length
    rw [List.length_map, hm]
    by_cases hlt : i < m
    · obtain ⟨x, hx, hxk⟩ := hlast hlt
      have := h2.low x (by rw [hj, List.take_length]; exact last_mem hx)
      omega
    · omega
theorem lris_of {ps : List Pc} (hR : Ris (esOf ps).flatten) (m : Nat) : LRis (ps.take m) := by
  obtain ⟨_, r2⟩ := ris_pieces hR
  intro i j p q x y hij hp hq hx hy
  rw [List.getElem?_take] at hp hq
  split at hp
  · split at hq
    · exact r2 i j p q hij hp hq x (last_mem hx) y (last_mem hy)
    · cases hq
  · cases hp
theorem seek_nil (rb ro : Nat) (k : Int) (w : World) (a : Option Addr) (c : Nat) (hc : w.cell? ⟨rb, ro, none⟩ = some (.slice a 0 c)) :
    Calls Tryz.prog 117 #[.pointer (some ⟨rb, ro, none⟩), .int .u64 k] w fun e w' => e = .returned (.tuple #[.int .i64 0, .int .i64 0, .bool false]) ∧ w' = w := by
  go_enter Tryz.func117, Tryz.ntmps117
  go_wp2
  go_ret3
  exact ⟨rfl, rfl⟩
theorem seek_any (rb ro : Nat) (k : Int) (w : World) (v : Value) (P : Nat → Prop) (ps : List Pc) (hc : w.cell? ⟨rb, ro, none⟩ = some v) (h : Pcs w P v ps) (hR : Ris (esOf ps).flatten) (hps : ps ≠ []) (hn : (ps.length : Int) ≤ 4000000)
    (hne : ∀ p ∈ ps.dropLast, p.es ≠ []) (hl : ∀ p ∈ ps, p.es.length ≤ 513) :
    Calls Tryz.prog 117 #[.pointer (some ⟨rb, ro, none⟩), .int .u64 k] w fun e w' => ∃ (i j : Nat) (is : Bool), e = .returned (.tuple #[.int .i64 (i : Int), .int .i64 (j : Int), .bool is]) ∧ Sk (esOf ps) k i j is ∧ Below w.heap.size w w' := by
  obtain ⟨m, hm⟩ : ∃ m, ps.length = m + 1 := ⟨ps.length - 1, by have := List.length_pos_iff.2 hps; omega⟩
  obtain ⟨g, c, rfl, _, hg, hcap⟩ := h.own.frm (by omega)
  rw [hm] at hc
  have hrow : TRow layP w (some ⟨g, 0, none⟩) m (ps.take m) := (h.own.row rfl).cut m (by omega)
  have hne2 : ∀ p ∈ ps.take m, ∃ x, p.es.getLast? = some x := fun p hp => by
    have := hne p (by rw [List.dropLast_eq_take, hm]; exact hp)
    cases he : p.es.getLast? with
    | none => exact absurd (List.getLast?_eq_none_iff.1 he) this
    | some x => exact ⟨x, rfl⟩
  have hmI : (m : Int) ≤ 4000000 := by omega
  have HS1 := hide (fun q => bsP_any (some ⟨g, 0, none⟩) m c (ps.take m) k (w.drewN q) (hrow.below (below_drewN (Below.refl _ _) q)) (fun p hp => (h.each p (List.mem_of_mem_take hp)).below (below_drewN (Below.refl _ _) q)) (fun p hp => by have := hl p (List.mem_of_mem_take hp); omega) (lris_of hR m) hne2 hmI)
  have hce : (m : Int) + 1 ≤ (c : Int) := by omega
  have HP := hide h
  have HR := hide hR
  have HM := hide hm
  have HL := hide hl
  have hlt : rb < w.heap.size := World.block_lt_of_cell? w _ hc
  clear h hR hl hne hps hn hrow hne2 hg hcap hm
  go_enter Tryz.func117, Tryz.ntmps117
  go_wp2_with fail
  go_quiet (fail)
  go_wp2_with fail
  refine (HS1.out _).mono ?_
  rintro e w2 ⟨i, is1, rfl, hLP, hb2⟩
  have hb02 := Below.on (below_drewN (Below.refl w.heap.size w) nq) hb2
  obtain ⟨p, hp⟩ := get_ex (L := ps) (i := i) (by have := hLP.le; rw [List.length_take] at this; have := HM.out; omega)
  have hpm := List.mem_of_getElem? hp
  have hP2 := HP.out.below hb02
  have c0 : w2.cell? ⟨g, i * 1 + 0, none⟩ = some (.slice p.a p.es.length p.c) := hP2.own.cell hp 0 rfl
  rw [Nat.mul_one, Nat.add_zero] at c0
  have hc2 : w2.cell? ⟨rb, ro, none⟩ = some (.slice (some ⟨g, 0, none⟩) (m + 1) c) := (hb02.cell (p := ⟨rb, ro, none⟩) hlt).trans hc
  have hr2 : TRow layN w2 p.a p.es.length p.es := (hP2.each p hpm).row rfl
  have hpl : (p.es.length : Int) ≤ 513 := by have := HL.out p hpm; omega
  have HS2 := hide (bsE_any p.a p.es.length p.c p.es k w2 hr2 ((ris_pieces HR.out).1 p hpm) (by omega))
  have hiI : (i : Int) < (m : Int) + 1 := by have := get_lt hp; have := HM.out; omega
  have hiN : i < m + 1 := by omega
  have HLP := hide hLP
  have HP0 := hide hp
  have HB02 := hide hb02
  clear hLP hp hpm hP2 hr2 hpl hb02 hb2 HS1 hc
  go_wp2_with fail
  refine HS2.out.mono ?_
  rintro e w3 ⟨j, is, rfl, hLB, hb3⟩
  have HN := hide (sk_mk HM.out HR.out HLP.out HP0.out hLB)
  have HB := hide (Below.on HB02.out hb3)
  clear hLB hb3 HS2 c0 hc2
  go_wp2
  go_ret3
  exact ⟨i, j, is, rfl, HN.out, HB.out⟩
end Go.Proofs.YtafkammiehcdjaaGreatDoor
