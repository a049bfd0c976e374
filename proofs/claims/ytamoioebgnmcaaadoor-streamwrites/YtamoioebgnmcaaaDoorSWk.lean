/-
  Pairs that may be nil; two of them.
-/
import Derived.Test.YtamoioebgnmcaaaDoorSWj
namespace Go.Proofs.YtamoioebgnmcaaaDoor
open Go.RowKit
def PO (B : Nat) (w : World) (vp vq : Value) (M : Nat → Prop) : Prop :=
  (vp = .pointer none ∧ vq = .pointer none ∧ ∀ z, ¬ M z) ∨
  ∃ p q lim cur C Bn av cv ra rc least, (64 ≤ lim ∧ lim ≤ 1048576) ∧ vp = .pointer (some ⟨p, 0, none⟩) ∧ vq = .pointer (some ⟨q, 0, none⟩) ∧ WP B w p q lim cur C Bn av cv ra rc least ∧ M = WM p q av Bn cv ra C rc
section
variable {B : Nat} {w : World} {vp vq : Value} {M : Nat → Prop}
theorem PO.but {S : Nat → Prop} {w' : World} (h : PO B w vp vq M) (hb : But S w w') (hS : ∀ z, M z → ¬ S z) : PO B w' vp vq M := by
  rcases h with h | ⟨p, q, lim, cur, C, Bn, av, cv, ra, rc, least, h1, h2, h3, h4, rfl⟩
  · exact .inl h
  · exact .inr ⟨p, q, lim, cur, C, Bn, av, cv, ra, rc, least, h1, h2, h3, h4.but hb hS, rfl⟩
theorem PO.below {w' : World} (h : PO B w vp vq M) (hb : Below w.heap.size w w') : PO B w' vp vq M := h.but (S := fun _ => False) (But.of_below hb) (fun _ _ e => e)
theorem PO.lt (h : PO B w vp vq M) {z : Nat} (hz : M z) : z < w.heap.size := by
  rcases h with h | ⟨p, q, lim, cur, C, Bn, av, cv, ra, rc, least, h1, h2, h3, h4, rfl⟩
  · exact absurd hz (h.2.2 z)
  · exact h4.lt hz
theorem PO.ge (h : PO B w vp vq M) {z : Nat} (hz : M z) : B ≤ z := by
  rcases h with h | ⟨p, q, lim, cur, C, Bn, av, cv, ra, rc, least, h1, h2, h3, h4, rfl⟩
  · exact absurd hz (h.2.2 z)
  · exact h4.ge hz
theorem PO.not_ty (h : PO B w vp vq M) {z : Nat} {cs : Array Value} {T : TypeId} {fr : Nat × Nat} (hz : w.heap[z]? = some (.cells cs T fr)) (hT : T ≠ 74 ∧ T ≠ 81 ∧ (5 : Nat) ≠ T ∧ (52 : Nat) ≠ T) : ¬ M z := by
  rcases h with h | ⟨p, q, lim, cur, C, Bn, av, cv, ra, rc, least, h1, h2, h3, h4, rfl⟩
  · exact h.2.2 z
  · intro hm
    rcases hm with e | e | e | e
    · subst e
      have h5 := h4.wri
      rw [hz] at h5
      have h6 := Option.some.inj h5
      injection h6 with _ h7 _
      exact hT.1 h7
    · subst e
      have h5 := h4.rwi
      rw [hz] at h5
      have h6 := Option.some.inj h5
      injection h6 with _ h7 _
      exact hT.2.1 h7
    · exact own_ne_cells h4.own hz hT.2.2.1 e
    · exact own_ne_cells h4.ro hz hT.2.2.2 e
/-- What a pair answers. -/
structure AnsO (B : Nat) (M : Nat → Prop) (n0 : Nat) (W w2 : World) (vp vq : Value) (xa : Option Addr) (xn xc : Nat) (ya : Option Addr) (zs : List Int) (M' : Nat → Prop) : Prop where
  po : PO B w2 vp vq M'
  but : But M W w2
  rx : Row w2 xa xn zs
  ry : Row w2 ya xn zs
  sp : Spo w2 xa xn xc M'
  new : ∀ z, M' z → M z ∨ n0 ≤ z
  old : xn = 0 ∨ ∃ g, xa = some ⟨g, 0, none⟩ ∧ M g
  sm : (xn : Int) ≤ 1048576
theorem putO (h : PO B w vp vq M) (t k o a s : Int) (hr : (⟨t, k, o, a, s⟩ : Rc).ok) (hK : Kn w) :
    Calls Tryd.prog 28 #[vp, .agg #[.int .i64 t, .int .i64 k, .int .u64 o, .int .u64 a, .int .i64 s]] w fun e w1 => ∃ xa xn xc E zs, e = .returned (.tuple #[.slice xa xn xc, .int .i64 E]) ∧ But M w w1 ∧
      ∀ W, Below w1.heap.size w1 W → Calls Tryd.prog 31 #[vq, .agg #[.int .i64 t, .int .i64 k, .int .u64 o, .int .u64 a, .int .i64 s]] W fun e2 w2 => ∃ ya yc M', e2 = .returned (.tuple #[.slice ya xn yc, .int .i64 E]) ∧ AnsO B M w.heap.size W w2 vp vq xa xn xc ya zs M' := by
  rcases h with ⟨rfl, rfl, hM⟩ | ⟨p, q, lim, cur, C, Bn, av, cv, ra, rc, least, h1, rfl, rfl, h4, rfl⟩
  · refine (wput_nil t k o a s w).mono ?_
    rintro e w1 ⟨rfl, hb1⟩
    refine ⟨none, 0, 0, 1, [], rfl, But.of_below hb1, fun W hW => ?_⟩
    refine (rwput_nil t k o a s W).mono ?_
    rintro e2 w2 ⟨rfl, hb2⟩
    exact ⟨none, 0, M, rfl, .inl ⟨rfl, rfl, hM⟩, But.of_below hb2, Row.nilE _, Row.nilE _, .inl rfl, fun z hz => .inl hz, .inl rfl, by decide⟩
  · refine (put_wp h4 t k o a s hr hK h1).mono ?_
    rintro e w1 ⟨xa, xn, xc, E, zs, rfl, hb, hX⟩
    refine ⟨xa, xn, xc, E, zs, rfl, hb, fun W hW => ?_⟩
    refine (hX W hW).mono ?_
    rintro e2 w2 ⟨ya, yc, cur', C', Bn', av', cv', ra', rc', least', rfl, d⟩
    exact ⟨ya, yc, _, rfl, .inr ⟨p, q, lim, cur', C', Bn', av', cv', ra', rc', least', h1, rfl, rfl, d.wp, rfl⟩, d.but, d.rx, d.ry, d.sp, d.new, d.old, d.sm⟩
theorem flushO (h : PO B w vp vq M) :
    Calls Tryd.prog 26 #[vp] w fun e w1 => ∃ xa xn xc zs, e = .returned (.slice xa xn xc) ∧ But M w w1 ∧
      ∀ W, Below w1.heap.size w1 W → Calls Tryd.prog 34 #[vq] W fun e2 w2 => ∃ ya yc M', e2 = .returned (.slice ya xn yc) ∧ AnsO B M w.heap.size W w2 vp vq xa xn xc ya zs M' := by
  rcases h with ⟨rfl, rfl, hM⟩ | ⟨p, q, lim, cur, C, Bn, av, cv, ra, rc, least, h1, rfl, rfl, h4, rfl⟩
  · refine (flush_nil w).mono ?_
    rintro e w1 ⟨rfl, rfl⟩
    refine ⟨none, 0, 0, [], rfl, But.refl _ _, fun W hW => ?_⟩
    refine (rwflush_nil W).mono ?_
    rintro e2 w2 ⟨rfl, rfl⟩
    exact ⟨none, 0, M, rfl, .inl ⟨rfl, rfl, hM⟩, But.refl _ _, Row.nilE _, Row.nilE _, .inl rfl, fun z hz => .inl hz, .inl rfl, by decide⟩
  · refine (flush_wp h4 h1).mono ?_
    rintro e w1 ⟨xa, xn, xc, zs, rfl, hb, hX⟩
    refine ⟨xa, xn, xc, zs, rfl, hb, fun W hW => ?_⟩
    refine (hX W hW).mono ?_
    rintro e2 w2 ⟨ya, yc, cur', C', Bn', av', cv', ra', rc', least', rfl, d⟩
    exact ⟨ya, yc, _, rfl, .inr ⟨p, q, lim, cur', C', Bn', av', cv', ra', rc', least', h1, rfl, rfl, d.wp, rfl⟩, d.but, d.rx, d.ry, d.sp, d.new, d.old, d.sm⟩
theorem heldO (h : PO B w vp vq M) : ∃ N : Int, Calls Tryd.prog 29 #[vp] w (fun e w1 => e = .returned (.int .i64 N) ∧ w1 = w) ∧ Calls Tryd.prog 35 #[vq] w (fun e w1 => e = .returned (.int .i64 N) ∧ w1 = w) := by
  rcases h with ⟨rfl, rfl, hM⟩ | ⟨p, q, lim, cur, C, Bn, av, cv, ra, rc, least, h1, rfl, rfl, h4, rfl⟩
  · exact ⟨0, held_nil w, rwheld_nil w⟩
  · exact ⟨(C : Int), held_any h4.wri, rwheld_any h4.rwi⟩
end
/-- New of both. -/
theorem newP (B : Nat) (l : Int) (w : World) (hB : B ≤ w.heap.size) :
    Calls Tryd.prog 25 #[.int .i64 l] w fun e w1 => ∃ po E, e = .returned (.tuple #[.pointer po, .int .i64 E]) ∧ Below w.heap.size w w1 ∧
      ∀ W, Below w1.heap.size w1 W → Calls Tryd.prog 30 #[.int .i64 l] W fun e2 w2 => ∃ qo M, e2 = .returned (.tuple #[.pointer qo, .int .i64 E]) ∧ qo.isNone = po.isNone ∧ Below W.heap.size W w2 ∧ PO B w2 (.pointer po) (.pointer qo) M ∧ ∀ z, M z → w.heap.size ≤ z := by
  by_cases hl : 64 ≤ l ∧ l ≤ 1048576
  · refine (new_ok l w hl).mono ?_
    rintro e w1 ⟨rfl, hw1⟩
    have hb1 : Below w.heap.size w w1 := by rw [hw1]; exact below_alloc1 _ _
    have L1 : w1.heap[w.heap.size]? = some (.cells (wcs l (.slice none 0 0) 0 0 0 0 0) 74 (0, 0)) := by rw [hw1]; exact heap_new _ _
    refine ⟨_, _, rfl, hb1, fun W hW => ?_⟩
    refine (rnew_ok l W hl).mono ?_
    rintro e2 w2 ⟨rfl, hw2⟩
    have hb2 : Below W.heap.size W w2 := by rw [hw2]; exact below_alloc1 _ _
    have L2 : w2.heap[W.heap.size]? = some (.cells (rwc l (.slice none 0 0) (-1)) 81 (0, 0)) := by rw [hw2]; exact heap_new _ _
    have LW := (hW.block _ (lt_of_heap L1)).trans L1
    have LW2 := (hb2.block _ (lt_of_heap LW)).trans LW
    have s1 := hb1.size
    have s2 := hW.size
    have s3 := hb2.size
    refine ⟨_, _, rfl, rfl, hb2, .inr ⟨w.heap.size, W.heap.size, l, [], 0, 0, none, 0, none, 0, 0, hl, rfl, rfl, WP.start hl.1 LW2 L2 (by omega) ⟨hB, by omega⟩, rfl⟩, fun z hz => ?_⟩
    rcases hz with e | e | e | e
    · omega
    · omega
    · cases e
    · cases e
  · refine (new_bad l w hl).mono ?_
    rintro e w1 ⟨rfl, rfl⟩
    refine ⟨none, 2, rfl, Below.refl _ _, fun W hW => ?_⟩
    refine (rnew_bad l W hl).mono ?_
    rintro e2 w2 ⟨rfl, rfl⟩
    exact ⟨none, fun _ => False, rfl, rfl, Below.refl _ _, .inl ⟨rfl, rfl, fun _ e => e⟩, fun z e => e.elim⟩
/-- Two pairs in two arrays, each with nil at its end. -/
structure L2 (B : Nat) (w : World) (bp bq : Nat) (v0 v1 u0 u1 : Value) (M0 M1 : Nat → Prop) : Prop where
  ap : w.heap[bp]? = some (.cells #[v0, v1, .pointer none] 42 (0, 0))
  aq : w.heap[bq]? = some (.cells #[u0, u1, .pointer none] 58 (0, 0))
  a : PO B w v0 u0 M0
  b : PO B w v1 u1 M1
  off : ∀ z, M0 z → ¬ M1 z
theorem L2.below {B : Nat} {w w' : World} {bp bq : Nat} {v0 v1 u0 u1 : Value} {M0 M1 : Nat → Prop} (h : L2 B w bp bq v0 v1 u0 u1 M0 M1) (hb : Below w.heap.size w w') : L2 B w' bp bq v0 v1 u0 u1 M0 M1 :=
  ⟨(hb.block _ (lt_of_heap h.ap)).trans h.ap, (hb.block _ (lt_of_heap h.aq)).trans h.aq, h.a.below hb, h.b.below hb, h.off⟩
/-- One of them is chosen; what it turns to, and bytes spoiled that it gave away. -/
theorem L2.sel {B : Nat} {w : World} {bp bq : Nat} {v0 v1 u0 u1 : Value} {M0 M1 : Nat → Prop} (h : L2 B w bp bq v0 v1 u0 u1 M0 M1) {j : Nat} (hj : j < 3) :
    ∃ vp vq M, (#[v0, v1, .pointer none] : Array Value)[j]? = some vp ∧ (#[u0, u1, .pointer none] : Array Value)[j]? = some vq ∧ PO B w vp vq M ∧ ¬ M bp ∧ ¬ M bq ∧
      ∀ X M', PO B X vp vq M' → But M w X → (∀ z, M' z → M z ∨ w.heap.size ≤ z) → ∃ M0' M1', L2 B X bp bq v0 v1 u0 u1 M0' M1' := by
  have p0 := h.a.not_ty h.ap (by decide)
  have p1 := h.b.not_ty h.ap (by decide)
  have q0 := h.a.not_ty h.aq (by decide)
  have q1 := h.b.not_ty h.aq (by decide)
  have hj3 : j = 0 ∨ j = 1 ∨ j = 2 := by omega
  rcases hj3 with rfl | rfl | rfl
  · refine ⟨v0, u0, M0, rfl, rfl, h.a, p0, q0, fun X M' hp hb hn => ⟨M', M1, ?_⟩⟩
    refine ⟨(hb.block _ (lt_of_heap h.ap) p0).trans h.ap, (hb.block _ (lt_of_heap h.aq) q0).trans h.aq, hp, h.b.but hb (fun z h1 h0 => h.off z h0 h1), fun z hz h1 => ?_⟩
    rcases hn z hz with e | e
    · exact h.off z e h1
    · have := h.b.lt h1; omega
  · refine ⟨v1, u1, M1, rfl, rfl, h.b, p1, q1, fun X M' hp hb hn => ⟨M0, M', ?_⟩⟩
    refine ⟨(hb.block _ (lt_of_heap h.ap) p1).trans h.ap, (hb.block _ (lt_of_heap h.aq) q1).trans h.aq, h.a.but hb (fun z h0 h1 => h.off z h0 h1), hp, fun z h0 hz => ?_⟩
    rcases hn z hz with e | e
    · exact h.off z h0 e
    · have := h.a.lt h0; omega
  · refine ⟨.pointer none, .pointer none, fun _ => False, rfl, rfl, .inl ⟨rfl, rfl, fun _ e => e⟩, fun e => e, fun e => e, fun X M' hp hb hn => ⟨M0, M1, ?_⟩⟩
    exact ⟨(hb.block _ (lt_of_heap h.ap) (fun e => e)).trans h.ap, (hb.block _ (lt_of_heap h.aq) (fun e => e)).trans h.aq, h.a.but hb (fun _ _ e => e), h.b.but hb (fun _ _ e => e), h.off⟩
end Go.Proofs.YtamoioebgnmcaaaDoor
