/-
  What StacksOwn's walk holds.
-/
import Derived.Test.YtjpccaeojimlfaaOwnB
import Derived.Test.YtjpccaeojimlfaaLawD
import Derived.Test.YtjpccaeojimlfaaPlyA
namespace Go.Proofs.Ytjpccaeojimlfaa
open Go.RowKit Go.Maps Go.Shelf
def OStk (A : List ByteArray) (er : Int) (W : World) (e : Ending) (w' : World) : Prop := ∃ a c, e = .returned (.tuple #[.slice a A.length c, .int .i64 er]) ∧ w'.ownsRow W.heap.size 9 1 (.slice a A.length c) A.length (A.map Value.string) ∧ Below W.heap.size W w'
theorem st_stack {T S : Nat → Prop} {tb fb : Nat} {L : List ByteArray} {N : List Nd} {P : List Stk} (hf : Fit L N P) (id : Int) (hid : -9223372036854775808 ≤ id ∧ id ≤ 9223372036854775807) :
    ∃ A er, A.length ≤ 16 ∧ ∀ W', St W' T S tb fb L N → Calls Try.prog 20 #[.pointer (some ⟨fb, 0, none⟩), .int .i64 id] W' (OStk A er W') := by
  by_cases hr : 0 ≤ id ∧ id ≤ N.length
  · obtain ⟨k, rfl⟩ := Int.eq_ofNat_of_zero_le hr.1
    refine ⟨stkP P k, 0, stkP_len hf.rep _, fun W' h' => (stack_in h' hf.rep k (by omega)).mono ?_⟩
    rintro e w' ⟨v, rfl, ho, hb⟩
    obtain ⟨a, c, rfl⟩ := own_form ho
    exact ⟨a, c, rfl, ho, hb⟩
  · refine ⟨[], 50, by simp, fun W' h' => ?_⟩
    obtain ⟨_, _, v, mb, _, hF⟩ := h'.both
    refine (stack_out hF id hid (by omega)).mono ?_
    rintro e w' ⟨rfl, rfl⟩
    exact ⟨none, 0, rfl, World.ownsRow_nil _ _ _ _, Below.refl _ _⟩
def OEnc (A : List (List Int)) (W : World) (e : Ending) (w' : World) : Prop := ∃ a c vals, e = .returned (.tuple #[.slice a A.length c, .int .i64 0]) ∧ Lists w' W.heap.size (.slice a A.length c) A vals ∧ Below W.heap.size W w'
theorem st_encode {W : World} {T S : Nat → Prop} {tb fb : Nat} {L : List ByteArray} {N : List Nd} {P : List Stk} (h : St W T S tb fb L N) (hf : Fit L N P) :
    ∃ X : List (List Int), X.length ≤ 262144 ∧ (∀ z ∈ X, (z.length : Int) ≤ 4000000000) ∧ ∀ W', St W' T S tb fb L N → Calls Try.prog 22 #[.pointer (some ⟨fb, 0, none⟩), .int .i64 64] W' (OEnc X W') := by
  obtain ⟨_, _, v, mb, _, hF⟩ := h.both
  have hw := bodiesN_ok hF 64
  refine ⟨bodiesN N 64, Nat.le_trans hw.len hF.len, fun z hz => by have := hw.each z hz; omega, fun W' h' => ?_⟩
  obtain ⟨_, _, v', mb', _, hF'⟩ := h'.both
  exact encode_ok hF' hf.rep.anc 64 (by decide) (by decide)
/-- The forest, a stack that it answered, and a copy of that. -/
structure Env (W : World) (T S : Nat → Prop) (tb fb : Nat) (L : List ByteArray) (N : List Nd) (B3 B4 B9 B10 : Nat) (va vw : Value) (A : List ByteArray) : Prop where
  st : St W T S tb fb L N
  tlt : ∀ k, T k ∨ S k → k < B3
  ra : W.ownsRow B3 9 1 va A.length (A.map Value.string)
  la : ∀ g, va.ownBlock = some g → g < B4
  rw : W.ownsRow B9 9 1 vw A.length (A.map Value.string)
  lw : ∀ g, vw.ownBlock = some g → g < B10
  ord : B3 ≤ B4 ∧ B4 ≤ B9 ∧ B9 ≤ B10
theorem Env.but {W W' : World} {T S V : Nat → Prop} {tb fb : Nat} {L : List ByteArray} {N : List Nd} {B3 B4 B9 B10 : Nat} {va vw : Value} {A : List ByteArray} (h : Env W T S tb fb L N B3 B4 B9 B10 va vw A) (hb : But V W W') (hV : ∀ k, V k → B4 ≤ k ∧ (k < B9 ∨ B10 ≤ k)) : Env W' T S tb fb L N B3 B4 B9 B10 va vw A := by
  have ho := h.ord
  refine ⟨h.st.but hb (fun k h1 h2 => ?_) (fun k h1 h2 => ?_), h.tlt, own_but h.ra hb (fun g hg e => ?_), h.la, own_but h.rw hb (fun g hg e => ?_), h.lw, ho⟩
  · have := h.tlt k (.inl h1); have := hV k h2; omega
  · have := h.tlt k (.inr h1); have := hV k h2; omega
  · have := h.la g hg; have := hV g e; omega
  · have := h.lw g hg; have := (h.rw.lt g hg).1; have := hV g e; omega
theorem Env.below {W W' : World} {T S : Nat → Prop} {tb fb : Nat} {L : List ByteArray} {N : List Nd} {B3 B4 B9 B10 : Nat} {va vw : Value} {A : List ByteArray} (h : Env W T S tb fb L N B3 B4 B9 B10 va vw A) (hb : Below W.heap.size W W') : Env W' T S tb fb L N B3 B4 B9 B10 va vw A := h.but (V := fun _ => False) (But.of_below hb) (fun _ e => e.elim)
/-- Strings that are written over. -/
structure Ovx (w3 wr : World) (base : Nat) (a : Option Addr) (n c : Nat) : Prop where
  own : ∃ xs, wr.ownsRow base 9 1 (.slice a n c) n xs
  but : But (fun g => (Value.slice a n c).ownBlock = some g) w3 wr
theorem Ovx.at {w3 wr : World} {base : Nat} {a : Option Addr} {n c : Nat} (h : Ovx w3 wr base a n c) {k : Nat} (hk : k < n) : ∃ G y, a = some ⟨G, 0, none⟩ ∧ wr.cell? ⟨G, k, none⟩ = some y ∧ wr.frozen? ⟨G, k, none⟩ = false ∧ ∀ u, Ovx w3 (wr.setCell ⟨G, k, none⟩ u) base a n c := by
  obtain ⟨xs, ho⟩ := h.own
  rcases ho.2 with ⟨_, e⟩ | ⟨G, cap, cur, e, hb, _⟩
  · omega
  · cases e
    have hxl : xs.length = n := by have := ho.1; simpa using this
    refine ⟨G, xs.getD k undef, rfl, ?_, ho.frozenAt k, fun u => ⟨⟨_, (ho.stored k u).1⟩, h.but.setCell ⟨G, k, none⟩ (fun _ => rfl) u⟩⟩
    rw [ho.cellAt k (by omega), List.getD_eq_getElem?_getD]; simp [hxl, hk]
theorem own_nilS {w : World} {base n c : Nat} {a : Option Addr} {xs : List Value} {e : TypeId} (h : w.ownsRow base e 1 (.slice a n c) n xs) : a = none → n = 0 ∧ c = 0 := by
  intro ha
  subst ha
  rcases h.2 with ⟨e, e0⟩ | ⟨g, cap, cur, e, _⟩
  · cases e; exact ⟨e0, rfl⟩
  · cases e
theorem Lists.cellAt {w : World} {base : Nat} {a : Option Addr} {n c : Nat} {bs : List (List Int)} {vals : List Value} (h : Lists w base (.slice a n c) bs vals) {i : Nat} {b : List Int} (hi : bs[i]? = some b) : ∃ G ab cb, a = some ⟨G, 0, none⟩ ∧ vals[i]? = some (.slice ab b.length cb) ∧ w.cell? ⟨G, i, none⟩ = some (.slice ab b.length cb) ∧ w.ownsRow base 5 1 (.slice ab b.length cb) b.length (b.map (Value.int .u8)) := by
  obtain ⟨ab, cb, h1, h2⟩ := h.each i b hi
  rcases h.own.2 with ⟨_, e⟩ | ⟨G, cap, cur, e, _⟩
  · have := (List.getElem?_eq_some_iff.1 hi).1; omega
  · cases e
    have hc := h.own.cells (g := G) rfl i _ h1
    have ha : (⟨G, 0, none⟩ : Addr).add i = ⟨G, i, none⟩ := by unfold Addr.add; split <;> simp_all
    rw [ha] at hc
    exact ⟨G, ab, cb, rfl, h1, hc, h2⟩
def sM : ByteArray := ⟨#[109]⟩
theorem Mks.mo_mid {w0 wr w' : World} {B5 B6 : Nat} {xa : Option Addr} {xc : Nat} {X : List (List Int)} {xvals : List Value} {ma : Option Addr} {mc k : Nat} {mvals : List Value} (h : Mks w0 wr B5 B6 xa xc X xvals ma mc k mvals) {xv : Value} (hxv : xvals[k]? = some xv) {n g cap q : Nat} {xs ys : List Value} (hm : Gon wr w' B5 5 xv n xs g cap q ys) : w'.ownsRow w0.heap.size 46 1 (.slice ma k mc) k mvals :=
  own_but h.mo hm.but (fun q hq e => by
    obtain ⟨b, _, a, c, e2, ho⟩ := h.xl.row (List.mem_of_getElem? hxv)
    rw [e2] at e
    exact own_types h.mo ho (by decide) q hq e)
/-- The lists and those that go on, whatever else turns. -/
structure Mk2 (w : World) (B5 B12 : Nat) (xa : Option Addr) (xc : Nat) (X : List (List Int)) (xvals : List Value) (ma : Option Addr) (mc : Nat) (mvals : List Value) : Prop where
  xl : Lists w B5 (.slice xa X.length xc) X xvals
  mo : w.ownsRow B12 46 1 (.slice ma X.length mc) X.length mvals
  each : ∀ j, j < X.length → ∃ g c, mvals[j]? = some (.slice (some ⟨g, 0, none⟩) ((X.getD j []).length + 70) c) ∧ w.ownsRow B5 5 1 (.slice (some ⟨g, 0, none⟩) ((X.getD j []).length + 70) c) ((X.getD j []).length + 70) ((X.getD j []).map (Value.int .u8) ++ (mkL j 35).map (Value.int .u8))
theorem Mks.mk2 {w0 wr : World} {B5 B6 : Nat} {xa : Option Addr} {xc : Nat} {X : List (List Int)} {xvals : List Value} {ma : Option Addr} {mc : Nat} {mvals : List Value} (h : Mks w0 wr B5 B6 xa xc X xvals ma mc X.length mvals) : Mk2 wr B5 w0.heap.size xa xc X xvals ma mc mvals :=
  ⟨h.xl, h.mo, fun j hj => by obtain ⟨xv, g, c, h1, h2, h3, h4⟩ := h.each j hj; exact ⟨g, c, h2, h3⟩⟩
theorem Mk2.but {w w' : World} {B5 B12 : Nat} {xa : Option Addr} {xc : Nat} {X : List (List Int)} {xvals : List Value} {ma : Option Addr} {mc : Nat} {mvals : List Value} (h : Mk2 w B5 B12 xa xc X xvals ma mc mvals) {V : Nat → Prop} (hb : But V w w') (hV : ∀ g, V g → g < B5) (hB : B5 ≤ B12) : Mk2 w' B5 B12 xa xc X xvals ma mc mvals := by
  refine ⟨h.xl.but hb (fun g hg e => ?_) (fun x hx g hg e => ?_), own_but h.mo hb (fun g hg e => ?_), fun j hj => ?_⟩
  · have := (h.xl.own.lt g hg).1; have := hV g e; omega
  · have := (h.xl.blocks x hx g hg).1; have := hV g e; omega
  · have := (h.mo.lt g hg).1; have := hV g e; omega
  · obtain ⟨g, c, h1, h2⟩ := h.each j hj
    exact ⟨g, c, h1, own_but h2 hb (fun g hg e => by have := (h2.lt g hg).1; have := hV g e; omega)⟩
theorem Mk2.below {w w' : World} {B5 B12 : Nat} {xa : Option Addr} {xc : Nat} {X : List (List Int)} {xvals : List Value} {ma : Option Addr} {mc : Nat} {mvals : List Value} (h : Mk2 w B5 B12 xa xc X xvals ma mc mvals) (hb : Below w.heap.size w w') (hB : B5 ≤ B12) : Mk2 w' B5 B12 xa xc X xvals ma mc mvals := h.but (V := fun _ => False) (But.of_below hb) (fun _ e => e.elim) hB
theorem Mk2.at {w : World} {B5 B12 : Nat} {xa : Option Addr} {xc : Nat} {X : List (List Int)} {xvals : List Value} {ma : Option Addr} {mc : Nat} {mvals : List Value} (h : Mk2 w B5 B12 xa xc X xvals ma mc mvals) {j : Nat} (hj : j < X.length) :
    ∃ G M g c ab cb, xa = some ⟨G, 0, none⟩ ∧ ma = some ⟨M, 0, none⟩ ∧ w.cell? ⟨G, j, none⟩ = some (.slice ab (X.getD j []).length cb) ∧ w.cell? ⟨M, j, none⟩ = some (.slice (some ⟨g, 0, none⟩) ((X.getD j []).length + 70) c) ∧
      ∀ k, k < 35 → w.cell? ⟨g, (X.getD j []).length + 2 * k, none⟩ = some (.int .u8 (mB0 j)) ∧ w.cell? ⟨g, (X.getD j []).length + 2 * k + 1, none⟩ = some (.int .u8 (mB1 j)) := by
  have hgj : X[j]? = some (X.getD j []) := by rw [List.getD_eq_getElem?_getD]; simp [hj]
  obtain ⟨G, ab, cb, hG, _, hc, _⟩ := h.xl.cellAt hgj
  obtain ⟨g, c, h1, h2⟩ := h.each j hj
  obtain ⟨M, hM⟩ := own_some h.mo (by omega)
  have hcm := h.mo.cells (g := M) (by rw [hM]; rfl) j _ h1
  have ha : (⟨M, 0, none⟩ : Addr).add j = ⟨M, j, none⟩ := by unfold Addr.add; split <;> simp_all
  rw [ha] at hcm
  refine ⟨G, M, g, c, ab, cb, hG, hM, hc, hcm, fun k hk => ?_⟩
  have hm := mkL_at j (q := 35) hk
  constructor
  · rw [h2.cellAt _ (by omega), List.getElem?_append_right (by rw [List.length_map]; omega)]
    simp only [List.length_map]
    rw [show (X.getD j []).length + 2 * k - (X.getD j []).length = 2 * k by omega, List.getElem?_map, hm.1]; rfl
  · rw [h2.cellAt _ (by omega), List.getElem?_append_right (by rw [List.length_map]; omega)]
    simp only [List.length_map]
    rw [show (X.getD j []).length + 2 * k + 1 - (X.getD j []).length = 2 * k + 1 by omega, List.getElem?_map, hm.2]; rfl
theorem Env.mid {W W' : World} {T S : Nat → Prop} {tb fb : Nat} {L : List ByteArray} {N : List Nd} {B3 B4 B9 B10 : Nat} {va vw : Value} {A : List ByteArray} (h : Env W T S tb fb L N B3 B4 B9 B10 va vw A) {g cap q : Nat} {ys : List Value} (hm : Gon W W' B3 9 va A.length (A.map Value.string) g cap q ys) : Env W' T S tb fb L N B3 B4 B9 B10 va vw A := by
  have ho := h.ord
  refine ⟨h.st.but hm.but (fun k h1 h2 => ?_) (fun k h1 h2 => ?_), h.tlt, hm.old, h.la, own_but h.rw hm.but (fun g hg e => ?_), h.lw, ho⟩
  · have := h.tlt k (.inl h1); have := (h.ra.lt k h2).1; omega
  · have := h.tlt k (.inr h1); have := (h.ra.lt k h2).1; omega
  · have := (h.rw.lt g hg).1; have := h.la g e; omega
end Go.Proofs.Ytjpccaeojimlfaa
