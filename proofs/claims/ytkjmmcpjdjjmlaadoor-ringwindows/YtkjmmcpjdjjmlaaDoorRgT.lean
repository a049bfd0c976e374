/-
  traceSame of the law.
-/
import Derived.Test.YtkjmmcpjdjjmlaaDoorRgV
import Derived.Test.YtkjmmcpjdjjmlaaDoorEvtV
namespace Go.Proofs.YtkjmmcpjdjjmlaaDoor
open Go.RowKit Go.Maps Go.Shelf
theorem same_ab {x y : Ev} (h : x.ab = y.ab) : sameB x.g x.k x.o x.a x.ls y.g y.k y.o y.a y.ls = true := by
  obtain ⟨g, k, o, a, sa, sc, ls⟩ := x
  obtain ⟨g', k', o', a', sa', sc', ls'⟩ := y
  simp only [Ev.ab, Ab.mk.injEq] at h
  obtain ⟨rfl, rfl, rfl, rfl, rfl⟩ := h
  unfold sameB
  simp [eqB_self]
/-- Events that can be read. -/
structure Rd (w : World) (a : Option Addr) (n : Nat) (es : List Ev) : Prop where
  row : TRow layE w a n es
  stk : ∀ e ∈ es, Stk w e
theorem Rd.below {w w' : World} {a : Option Addr} {n : Nat} {es : List Ev} (h : Rd w a n es) (hb : Below w.heap.size w w') : Rd w' a n es := ⟨h.row.below hb, fun e he => (h.stk e he).below hb⟩
theorem Evs.rd {w : World} {base n c : Nat} {a : Option Addr} {es : List Ev} (h : Evs w base (.slice a n c) es) (hn : es.length = n) : Rd w a n es := ⟨h.own.row hn, h.stk⟩
set_option maxRecDepth 8000 in
set_option maxHeartbeats 2000000 in
/-- Of the same events it says true. -/
theorem trace_same {w : World} {a b : Option Addr} {n ca cb : Nat} {es fs : List Ev} (h1 : Rd w a n es) (h2 : Rd w b n fs) (hm : es.map Ev.ab = fs.map Ev.ab) (hn : (n : Int) ≤ 65536) :
    Calls Tryd.prog 9 #[.slice a n ca, .slice b n cb] w fun e w' => e = .returned (.bool true) ∧ Below w.heap.size w w' := by
  have H1 := hide h1
  have H2 := hide h2
  have HM := hide hm
  have HL1 := hide h1.row.len
  have HL2 := hide h2.row.len
  clear h1 h2 hm
  go_enter Tryd.func9, Tryd.ntmps9
  go_wp2_with fail
  go_loopw [5] (fun si wr => ∃ j : Nat, si = .int .i64 j ∧ j ≤ n ∧ Below w.heap.size w wr) (fun si _ => n - (intOf si).toNat)
  case atStart => exact ⟨0, rfl, Nat.zero_le _, Below.refl _ _⟩
  case round =>
    obtain ⟨j, rfl, hj, hb⟩ := hrel
    have HB := hide hb
    clear hb
    by_cases hlt : j < n
    · have hjI : (j : Int) < n := by omega
      obtain ⟨x, hx⟩ : ∃ x, es[j]? = some x := ⟨_, List.getElem?_eq_getElem (by rw [HL1.out]; exact hlt)⟩
      obtain ⟨y, hy⟩ : ∃ y, fs[j]? = some y := ⟨_, List.getElem?_eq_getElem (by rw [HL2.out]; exact hlt)⟩
      have hxy : x.ab = y.ab := by
        have h9 := congrArg (fun l => l[j]?) HM.out
        simp only [List.getElem?_map, hx, hy, Option.map_some] at h9
        exact Option.some.inj h9
      have r1 := H1.out.below HB.out
      have r2 := H2.out.below HB.out
      obtain ⟨b1, o1, ha, _, c1⟩ := r1.row.at (by omega)
      obtain ⟨b2, o2, hb, _, c2⟩ := r2.row.at (by omega)
      subst ha hb
      have x0 := c1 j x hx 0 _ rfl; have x1 := c1 j x hx 1 _ rfl; have x2 := c1 j x hx 2 _ rfl; have x3 := c1 j x hx 3 _ rfl; have x4 := c1 j x hx 4 _ rfl
      have y0 := c2 j y hy 0 _ rfl; have y1 := c2 j y hy 1 _ rfl; have y2 := c2 j y hy 2 _ rfl; have y3 := c2 j y hy 3 _ rfl; have y4 := c2 j y hy 4 _ rfl
      simp only [layE, Nat.add_zero] at x0 x1 x2 x3 x4 y0 y1 y2 y3 y4
      have st1 := r1.stk x (List.mem_of_getElem? hx)
      have st2 := r2.stk y (List.mem_of_getElem? hy)
      have HQ := hide (rsame_any x.g x.k x.o x.a x.sa x.ls.length x.sc x.ls y.g y.k y.o y.a y.sa y.ls.length y.sc y.ls wr.drew (st1.below (Below.refl _ _).drew).row (st2.below (Below.refl _ _).drew).row (by have := st1.few; omega))
      rw [same_ab hxy] at HQ
      clear hx hy hxy r1 r2 c1 c2 st1 st2
      have HSK : Hid (∀ X, Below wr.heap.size wr X → X.cell? ⟨b1, o1 + j * 5, .none⟩ = some (.int .i64 x.g) ∧ X.cell? ⟨b1, o1 + j * 5 + 1, .none⟩ = some (.int .i64 x.k) ∧ X.cell? ⟨b1, o1 + j * 5 + 2, .none⟩ = some (.int .u64 x.o) ∧ X.cell? ⟨b1, o1 + j * 5 + 3, .none⟩ = some (.int .u64 x.a) ∧ X.cell? ⟨b1, o1 + j * 5 + 4, .none⟩ = some (.slice x.sa x.ls.length x.sc) ∧ X.cell? ⟨b2, o2 + j * 5, .none⟩ = some (.int .i64 y.g) ∧ X.cell? ⟨b2, o2 + j * 5 + 1, .none⟩ = some (.int .i64 y.k) ∧ X.cell? ⟨b2, o2 + j * 5 + 2, .none⟩ = some (.int .u64 y.o) ∧ X.cell? ⟨b2, o2 + j * 5 + 3, .none⟩ = some (.int .u64 y.a) ∧ X.cell? ⟨b2, o2 + j * 5 + 4, .none⟩ = some (.slice y.sa y.ls.length y.sc)) :=
        hide (fun X hX => ⟨cell_bel x0 hX, cell_bel x1 hX, cell_bel x2 hX, cell_bel x3 hX, cell_bel x4 hX, cell_bel y0 hX, cell_bel y1 hX, cell_bel y2 hX, cell_bel y3 hX, cell_bel y4 hX⟩)
      go_wp2_with fail
      go_region_held3 (fun X => X.cell? ⟨b1, o1 + j * 5, .none⟩ = some (.int .i64 x.g) ∧ X.cell? ⟨b1, o1 + j * 5 + 1, .none⟩ = some (.int .i64 x.k) ∧ X.cell? ⟨b1, o1 + j * 5 + 2, .none⟩ = some (.int .u64 x.o) ∧ X.cell? ⟨b1, o1 + j * 5 + 3, .none⟩ = some (.int .u64 x.a) ∧ X.cell? ⟨b1, o1 + j * 5 + 4, .none⟩ = some (.slice x.sa x.ls.length x.sc) ∧ X.cell? ⟨b2, o2 + j * 5, .none⟩ = some (.int .i64 y.g) ∧ X.cell? ⟨b2, o2 + j * 5 + 1, .none⟩ = some (.int .i64 y.k) ∧ X.cell? ⟨b2, o2 + j * 5 + 2, .none⟩ = some (.int .u64 y.o) ∧ X.cell? ⟨b2, o2 + j * 5 + 3, .none⟩ = some (.int .u64 y.a) ∧ X.cell? ⟨b2, o2 + j * 5 + 4, .none⟩ = some (.slice y.sa y.ls.length y.sc))
        (first | with_reducible exact HSK.out _ b5 | with_reducible exact HSK.out _ (Below.refl _ _) | with_reducible exact HSK.out _ (Below.refl _ _).drew)
        (first | (go_at_call 20; go_must (refine HQ.out.mono ?_; rintro e w5 ⟨rfl, hb5⟩; have b5 : Below wr.heap.size wr w5 := (Below.refl _ _).drew.trans hb5; clear hb5)))
      have HB5 := hide (Below.on HB.out b5)
      clear b5 HSK HQ x0 x1 x2 x3 x4 y0 y1 y2 y3 y4
      go_wp2
      exact ⟨⟨j + 1, by go_num, by omega, HB5.out⟩, by simp [intOf]; omega⟩
    · go_wp2
      go_ret
      exact ⟨rfl, HB.out⟩
end Go.Proofs.YtkjmmcpjdjjmlaaDoor
