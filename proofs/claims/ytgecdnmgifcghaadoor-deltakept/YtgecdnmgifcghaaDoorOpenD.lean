/-
  Arguments that came in: a state, a record, a list of bytes, a list of records.
-/
import Derived.Test.YtgecdnmgifcghaaDoorDelE
import Derived.ProofKit
import Derived.OpenShut
import Derived.ChangeSame
import Derived.SizedLaws
import Derived.Deep.Slices
namespace Go.Proofs.YtgecdnmgifcghaaDoor
open Go.ChangeShapes Go.WideShapes Go.ChangeAt Go.RowKit
theorem Tryd.bytes5 : Tryd.prog.bytesOf 5 = 1 := by kernel_rfl

/-- A []byte that came in: a row of bytes; nil only if it is empty; within the reach. -/
theorem open_row {H : Type} {enc : TypeId × Value → H} {W : World} {a : Option Addr} {len cap : Nat} {d : DataW H} {p : List MemPlace} {ts : List TypeId} {ds : List (DataW H)} {j : Nat}
    (h : DataW.Trod enc Tryd.prog W 0 (fun _ => true) true 27 (.slice a len cap) d p)
    (hsz : (DataW.weightsEach Tryd.prog ts ds).all (· ≤ reachBytes) = true) (ht : ts[j]? = some 27) (hd : ds[j]? = some d) :
    ∃ zs, Row W a len zs ∧ len ≤ 140737488351232 ∧ (a = none → len = 0 ∧ cap = 0) ∧ len ≤ cap := by
  obtain ⟨fuel, hf⟩ := h
  rcases open_ints Tryd.underlying27 Tryd.underlying5 (by kernel_rfl) hf with ⟨hcs, _⟩ | ⟨x, l, c, zs, hcs, _, hl, hm, hz, hx, hcell, hwz⟩
  · simp [Value.cells] at hcs
    obtain ⟨rfl, rfl, rfl⟩ := hcs
    exact ⟨[], Row.empty _ _, by omega, fun _ => ⟨rfl, rfl⟩, Nat.le_refl _⟩
  · simp [Value.cells] at hcs
    obtain ⟨rfl, rfl, rfl⟩ := hcs
    simp only [Prod.mk.injEq] at hx
    have hs := sized_slice hsz (j := j) (t := 27) (e := 5) ht (by rw [hd, hx.1]) Tryd.underlying27
    rw [Tryd.bytes5] at hs
    have hz' : zs.length = cap := by simpa using hz
    simp only [lits, List.length_map, List.length_take, List.length_drop, reachBytes] at hs
    refine ⟨zs.take len, ⟨by simp; omega, fun i => ?_, ?_⟩, by omega, fun h => (by cases h), hl⟩
    · have := range_u8 hwz i
      by_cases hi : i < len
      · rw [List.getElem?_take, if_pos hi]; exact this
      · rw [List.getElem?_take, if_neg hi]; simp
    · by_cases h0 : len = 0
      · exact .inl h0
      · right
        obtain ⟨b, off, sp⟩ := x
        have h1 := hcell 0 (by omega)
        have hsp : sp = none := by simpa [Addr.add] using World.cell?_spot h1
        subst hsp
        refine ⟨b, off, rfl, fun i hi => ?_⟩
        have := hcell i (by omega)
        have ha : (⟨b, off, none⟩ : Addr).add i = ⟨b, off + i, none⟩ := by unfold Addr.add; split <;> simp_all
        rw [ha] at this
        rw [this]
        simp [hi]
theorem arr3 {α : Type} {cs : Array α} (h : cs.size = 3) : ∃ c0 c1 c2, cs = #[c0, c1, c2] := by
  obtain ⟨l⟩ := cs
  match l, h with
  | [c0, c1, c2], _ => exact ⟨c0, c1, c2, rfl⟩
theorem arr5 {α : Type} {cs : Array α} (h : cs.size = 5) : ∃ c0 c1 c2 c3 c4, cs = #[c0, c1, c2, c3, c4] := by
  obtain ⟨l⟩ := cs
  match l, h with
  | [c0, c1, c2, c3, c4], _ => exact ⟨c0, c1, c2, c3, c4, rfl⟩
theorem lst5 {α : Type} {l : List α} (h : l.length = 5) : ∃ a b c d e, l = [a, b, c, d, e] := by
  match l, h with
  | [a, b, c, d, e], _ => exact ⟨a, b, c, d, e, rfl⟩
theorem Tryd.cellsS : Tryd.prog.cellsOf 26 = 3 := by kernel_rfl
theorem Tryd.cellsR : Tryd.prog.cellsOf 32 = 5 := by kernel_rfl
theorem Tryd.bytesR : Tryd.prog.bytesOf 32 = 40 := by kernel_rfl
theorem Tryd.cells3 : Tryd.prog.cellsOf 3 = 1 := by kernel_rfl
theorem Tryd.cellsU : Tryd.prog.cellsOf 23 = 1 := by kernel_rfl
theorem u64_bd {a : Int} (h : (Lit.int .u64 a).wf = true) : 0 ≤ a ∧ a ≤ 18446744073709551615 := by
  have hw : IntKind.u64.min ≤ a ∧ a ≤ IntKind.u64.max := by simpa [Lit.wf] using h
  have e1 : IntKind.u64.min = 0 := by decide
  have e2 : IntKind.u64.max = 18446744073709551615 := by decide
  rw [e1, e2] at hw
  exact hw
theorem i64_bd {a : Int} (h : (Lit.int .i64 a).wf = true) : -9223372036854775808 ≤ a ∧ a ≤ 9223372036854775807 := by
  have hw : IntKind.i64.min ≤ a ∧ a ≤ IntKind.i64.max := by simpa [Lit.wf] using h
  have e1 : IntKind.i64.min = -9223372036854775808 := by decide
  have e2 : IntKind.i64.max = 9223372036854775807 := by decide
  rw [e1, e2] at hw
  exact hw
/-- A cell that is read as an integer is one. -/
theorem int_of {H : Type} {enc : TypeId × Value → H} {w : World} {base : Nat} {spare : Nat → Bool} {held : Bool} {n : Nat} {t : TypeId} {k : IntKind} {v : Value} {xs : List (DataW H × List MemPlace)} {i : Nat} (ht : Tryd.prog.underlying t = some (.int k))
    (hi : i < xs.length) (h : DataW.trod enc Tryd.prog w base spare held n t [v] = xs[i]?) : ∃ a, v = .int k a ∧ (Lit.int k a).wf = true := by
  rw [List.getElem?_eq_getElem hi] at h
  obtain ⟨a, e, _, wa⟩ := DataW.trod_int ht h
  simp at e
  exact ⟨a, e, wa⟩
theorem open_st {H : Type} {enc : TypeId × Value → H} {W : World} {base b0 : Nat} {r : Reach} {spare : Nat → Bool} {held : Bool} {v : Value} {d : DataW H} {p : List MemPlace}
    (hv : Value.okWide Tryd.prog W r b0 26 v) (h : DataW.Trod enc Tryd.prog W base spare held 26 v d p) :
    ∃ s o k, v = .agg #[.int .i64 s, .int .u64 o, .int .i64 k] ∧ 0 ≤ o ∧ o ≤ 18446744073709551615 := by
  obtain ⟨cs, rfl, hsz⟩ := okWide_struct Tryd.underlying26 hv
  obtain ⟨c0, c1, c2, rfl⟩ := arr3 (hsz.trans Tryd.cellsS)
  obtain ⟨fuel, hf⟩ := h
  obtain ⟨xs, n, _, _, _, hlen, hfl⟩ := DataW.trod_struct Tryd.underlying26 hf
  have hlen' : xs.length = 3 := hlen
  obtain ⟨a0, rfl, _⟩ := int_of (v := c0) (xs := xs) (i := 0) Tryd.underlying3 (by omega) (by simpa [Value.cells, Tryd.cells3] using hfl 0 _ rfl)
  obtain ⟨a1, rfl, w1⟩ := int_of (v := c1) (xs := xs) (i := 1) Tryd.underlying23 (by omega) (by simpa [Value.cells, Tryd.cellsU] using hfl 1 _ rfl)
  obtain ⟨a2, rfl, _⟩ := int_of (v := c2) (xs := xs) (i := 2) Tryd.underlying3 (by omega) (by simpa [Value.cells, Tryd.cells3] using hfl 2 _ rfl)
  exact ⟨a0, a1, a2, rfl, u64_bd w1⟩
/-- Five cells that are read as a record. -/
theorem open_rc_in {H : Type} {enc : TypeId × Value → H} {W : World} {base : Nat} {spare : Nat → Bool} {held : Bool} {cs : List Value} {fuel : Nat} {d : DataW H} {p : List MemPlace}
    (hf : DataW.trod enc Tryd.prog W base spare held fuel 32 cs = some (d, p)) (hl : cs.length = 5) :
    ∃ r : Rc, cs = [.int .i64 r.stamp, .int .i64 r.kind, .int .u64 r.obj, .int .u64 r.arg, .int .i64 r.stack] ∧ r.ok ∧ (-9223372036854775808 ≤ r.stamp ∧ r.stamp ≤ 9223372036854775807) ∧ (-9223372036854775808 ≤ r.kind ∧ r.kind ≤ 9223372036854775807) ∧ (-9223372036854775808 ≤ r.stack ∧ r.stack ≤ 9223372036854775807) := by
  obtain ⟨c0, c1, c2, c3, c4, rfl⟩ := lst5 hl
  obtain ⟨xs, n, _, _, _, hlen, hfl⟩ := DataW.trod_struct Tryd.underlying32 hf
  have hlen' : xs.length = 5 := hlen
  obtain ⟨a0, rfl, w0⟩ := int_of (v := c0) (xs := xs) (i := 0) Tryd.underlying3 (by omega) (by simpa [Value.cells, Tryd.cells3] using hfl 0 _ rfl)
  obtain ⟨a1, rfl, w1⟩ := int_of (v := c1) (xs := xs) (i := 1) Tryd.underlying3 (by omega) (by simpa [Value.cells, Tryd.cells3] using hfl 1 _ rfl)
  obtain ⟨a2, rfl, w2⟩ := int_of (v := c2) (xs := xs) (i := 2) Tryd.underlying23 (by omega) (by simpa [Value.cells, Tryd.cellsU] using hfl 2 _ rfl)
  obtain ⟨a3, rfl, w3⟩ := int_of (v := c3) (xs := xs) (i := 3) Tryd.underlying23 (by omega) (by simpa [Value.cells, Tryd.cellsU] using hfl 3 _ rfl)
  obtain ⟨a4, rfl, w4⟩ := int_of (v := c4) (xs := xs) (i := 4) Tryd.underlying3 (by omega) (by simpa [Value.cells, Tryd.cells3] using hfl 4 _ rfl)
  exact ⟨⟨a0, a1, a2, a3, a4⟩, rfl, ⟨(u64_bd w2).1, (u64_bd w2).2, (u64_bd w3).1, (u64_bd w3).2⟩, i64_bd w0, i64_bd w1, i64_bd w4⟩
theorem open_rc {H : Type} {enc : TypeId × Value → H} {W : World} {base b0 : Nat} {r : Reach} {spare : Nat → Bool} {held : Bool} {v : Value} {d : DataW H} {p : List MemPlace}
    (hv : Value.okWide Tryd.prog W r b0 32 v) (h : DataW.Trod enc Tryd.prog W base spare held 32 v d p) :
    ∃ t k o a q, v = .agg #[.int .i64 t, .int .i64 k, .int .u64 o, .int .u64 a, .int .i64 q] ∧ 0 ≤ o ∧ o ≤ 18446744073709551615 ∧ 0 ≤ a ∧ a ≤ 18446744073709551615 := by
  obtain ⟨cs, rfl, hsz⟩ := okWide_struct Tryd.underlying32 hv
  have hsz' := hsz.trans Tryd.cellsR
  obtain ⟨fuel, hf⟩ := h
  obtain ⟨x, e, ho, _⟩ := open_rc_in hf (by simpa [Value.cells] using hsz')
  obtain ⟨c0, c1, c2, c3, c4, rfl⟩ := arr5 hsz'
  simp [Value.cells] at e
  obtain ⟨rfl, rfl, rfl, rfl, rfl⟩ := e
  exact ⟨x.stamp, x.kind, x.obj, x.arg, x.stack, rfl, ho.o0, ho.o1, ho.a0, ho.a1⟩
end Go.Proofs.YtgecdnmgifcghaaDoor
