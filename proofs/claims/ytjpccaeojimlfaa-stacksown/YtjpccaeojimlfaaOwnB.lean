/-
  Lists that are gone on with, and the lists that they came from.
-/
import Derived.Test.YtjpccaeojimlfaaOwnA
namespace Go.Proofs.Ytjpccaeojimlfaa
open Go.RowKit Go.Maps Go.Shelf
def mB0 (i : Nat) : Int := (i : Int) % 256
def mB1 (i : Nat) : Int := (i : Int) / 256 % 256
def mkL (i q : Nat) : List Int := (List.range (2 * q)).map fun j => if j % 2 = 0 then mB0 i else mB1 i
theorem mkL_succ (i q : Nat) : mkL i (q + 1) = mkL i q ++ [mB0 i, mB1 i] := by
  unfold mkL
  rw [show 2 * (q + 1) = 2 * q + 1 + 1 by omega, List.range_succ, List.range_succ, List.map_append, List.map_append, List.append_assoc]
  congr 1
  have h0 : (2 * q) % 2 = 0 := by omega
  simp [h0]
theorem mkL_one (i : Nat) : mkL i 1 = [mB0 i, mB1 i] := rfl
theorem mkL_len (i q : Nat) : (mkL i q).length = 2 * q := by simp [mkL]
theorem mkL_at (i : Nat) {q k : Nat} (hk : k < q) : (mkL i q)[2 * k]? = some (mB0 i) ∧ (mkL i q)[2 * k + 1]? = some (mB1 i) := by
  have h0 : (2 * k) % 2 = 0 := by omega
  have h1 : ¬ (2 * k + 1) % 2 = 0 := by omega
  constructor
  · simp [mkL, show 2 * k < 2 * q by omega]
  · simp [mkL, show 2 * k + 1 < 2 * q by omega]
structure Mks (w0 wr : World) (B5 B6 : Nat) (xa : Option Addr) (xc : Nat) (X : List (List Int)) (xvals : List Value) (ma : Option Addr) (mc k : Nat) (mvals : List Value) : Prop where
  xl : Lists wr B5 (.slice xa X.length xc) X xvals
  xlt : ∀ x ∈ xvals, ∀ g, x.ownBlock = some g → g < B6
  xol : ∀ g, (Value.slice xa X.length xc).ownBlock = some g → g < B6
  mo : wr.ownsRow w0.heap.size 46 1 (.slice ma k mc) k mvals
  each : ∀ j, j < k → ∃ xv g c, xvals[j]? = some xv ∧ mvals[j]? = some (.slice (some ⟨g, 0, none⟩) ((X.getD j []).length + 70) c) ∧ wr.ownsRow B5 5 1 (.slice (some ⟨g, 0, none⟩) ((X.getD j []).length + 70) c) ((X.getD j []).length + 70) ((X.getD j []).map (Value.int .u8) ++ (mkL j 35).map (Value.int .u8)) ∧ (xv.ownBlock = some g ∨ w0.heap.size ≤ g)
  but : But (fun g => ∃ x ∈ xvals, x.ownBlock = some g) w0 wr
theorem Mks.start {w0 : World} {B5 B6 : Nat} {xa : Option Addr} {xc : Nat} {X : List (List Int)} {xvals : List Value} (h : Lists w0 B5 (.slice xa X.length xc) X xvals) (hl : ∀ x ∈ xvals, ∀ g, x.ownBlock = some g → g < B6) (ho : ∀ g, (Value.slice xa X.length xc).ownBlock = some g → g < B6) : Mks w0 w0 B5 B6 xa xc X xvals none 0 0 [] :=
  ⟨h, hl, ho, World.ownsRow_nil _ _ _ _, fun j hj => by omega, But.refl _ _⟩
/-- One list more. -/
theorem Mks.next {w0 wr w' w2 : World} {B5 B6 : Nat} {xa : Option Addr} {xc : Nat} {X : List (List Int)} {xvals : List Value} {ma : Option Addr} {mc k : Nat} {mvals : List Value} (h : Mks w0 wr B5 B6 xa xc X xvals ma mc k mvals) (hk : k < X.length) (hB : B6 ≤ w0.heap.size)
    {xv : Value} (hxv : xvals[k]? = some xv) {g cap : Nat} (hm : Gon wr w' B5 5 xv (X.getD k []).length ((X.getD k []).map (Value.int .u8)) g cap 70 ((mkL k 35).map (Value.int .u8)))
    {ma' : Option Addr} {mc' : Nat} (o2 : w2.ownsRow w0.heap.size 46 1 (.slice ma' (k + 1) mc') (k + 1) (mvals ++ [.slice (some ⟨g, 0, none⟩) ((X.getD k []).length + 70) cap])) {o : Obj} (g2 : (w'.alloc o).grownBy w2 (Value.slice ma k mc).ownBlock) :
    Mks w0 w2 B5 B6 xa xc X xvals ma' mc' (k + 1) (mvals ++ [.slice (some ⟨g, 0, none⟩) ((X.getD k []).length + 70) cap]) := by
  have hmo' : w'.ownsRow w0.heap.size 46 1 (.slice ma k mc) k mvals := own_but h.mo hm.but (fun q hq e => by
    obtain ⟨b, _, a, c, e2, ho⟩ := h.xl.row (List.mem_of_getElem? hxv)
    rw [e2] at e
    exact own_types h.mo ho (by decide) q hq e)
  have k2 : But (fun q => (Value.slice ma k mc).ownBlock = some q) w' w2 := ((But.refl _ w').alloc o).grown g2 (fun k _ e => e)
  have hml : mvals.length = k := by have := h.mo.1; simpa using this
  have five : ∀ {b n : Nat} {v : Value} {xs : List Value}, w'.ownsRow b 5 1 v n xs → w2.ownsRow b 5 1 v n xs := fun ho => own_but ho k2 (fun q hq e => own_types ho hmo' (by decide) q hq e)
  have hgk : X[k]? = some (X.getD k []) := by rw [List.getD_eq_getElem?_getD]; simp [hk]
  have hw0 := h.but.size
  refine ⟨⟨?_, fun i b hi => ?_, h.xl.apart, h.xl.u8⟩, h.xlt, h.xol, o2, fun j hj => ?_, ?_⟩
  · refine own_but (own_but h.xl.own hm.but (fun q hq e => ?_)) k2 (fun q hq e => ?_)
    · obtain ⟨b, _, a, c, e2, ho⟩ := h.xl.row (List.mem_of_getElem? hxv)
      rw [e2] at e
      exact own_types h.xl.own ho (by decide) q hq e
    · have := h.xol q hq
      have := (h.mo.lt q e).1
      omega
  · by_cases e : i = k
    · subst e
      rw [hgk] at hi
      cases hi
      obtain ⟨a, c, h1, h2⟩ := h.xl.each i _ hgk
      rw [hxv] at h1
      cases h1
      exact ⟨a, c, hxv, five hm.old⟩
    · obtain ⟨a, c, h1, h2⟩ := h.xl.each i b hi
      exact ⟨a, c, h1, five (own_but h2 hm.but (fun q hq e2 => h.xl.far h1 hxv e q hq e2))⟩
  · by_cases e : j = k
    · subst e
      exact ⟨xv, g, cap, hxv, by rw [← hml, List.getElem?_append_right (Nat.le_refl _)]; simp, five hm.new, hm.loc.imp id (fun e => by omega)⟩
    · obtain ⟨xw, g', c', h1, h2, h3, h4⟩ := h.each j (by omega)
      refine ⟨xw, g', c', h1, by rw [List.getElem?_append_left (by omega)]; exact h2, five (own_but h3 hm.but (fun q hq e2 => ?_)), h4⟩
      have hq' : q = g' := by simpa [Value.ownBlock] using hq.symm
      subst hq'
      rcases h4 with e4 | e4
      · exact h.xl.far h1 hxv e q e4 e2
      · have := h.xlt xv (List.mem_of_getElem? hxv) q e2
        omega
  · refine (h.but.trans hm.but (fun i hi e => ⟨xv, List.mem_of_getElem? hxv, e⟩)).trans k2 (fun i hi e => ?_)
    have := (h.mo.lt i e).1
    omega
end Go.Proofs.Ytjpccaeojimlfaa
