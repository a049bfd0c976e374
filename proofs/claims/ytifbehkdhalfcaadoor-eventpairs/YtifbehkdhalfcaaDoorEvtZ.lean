/-
  EventPairs.
-/
import Derived.Test.YtifbehkdhalfcaaDoorEvtY
namespace Go.Proofs.YtifbehkdhalfcaaDoor
open Go.RowKit Go.Maps Go.Shelf
theorem erow_two {w : World} {e f : Ev} (he : e.at w) (hf : f.at w) : ERow (w.alloc (.cells #[.int .i64 e.g, .int .i64 e.k, .int .u64 e.o, .int .u64 e.a, .slice e.sa e.ls.length e.sc, .int .i64 f.g, .int .i64 f.k, .int .u64 f.o, .int .u64 f.a, .slice f.sa f.ls.length f.sc] 35)) (some ⟨w.heap.size, 0, none⟩) 2 [e, f] := by
  have hb := below_new w (.cells #[.int .i64 e.g, .int .i64 e.k, .int .u64 e.o, .int .u64 e.a, .slice e.sa e.ls.length e.sc, .int .i64 f.g, .int .i64 f.k, .int .u64 f.o, .int .u64 f.a, .slice f.sa f.ls.length f.sc] 35)
  have hr := heap_alloc_new w (.cells #[.int .i64 e.g, .int .i64 e.k, .int .u64 e.o, .int .u64 e.a, .slice e.sa e.ls.length e.sc, .int .i64 f.g, .int .i64 f.k, .int .u64 f.o, .int .u64 f.a, .slice f.sa f.ls.length f.sc] 35)
  refine ⟨rfl, .inr ⟨w.heap.size, 0, rfl, fun i g hg => ?_⟩⟩
  match i, hg with
  | 0, hg =>
    simp at hg; subst hg
    refine ⟨?_, ?_, ?_, ?_, ?_, SRow.bel he hb⟩ <;> (rw [cell_of_row _ _ _ _ 35 (0, 0) hr]; rfl)
  | 1, hg =>
    simp at hg; subst hg
    refine ⟨?_, ?_, ?_, ?_, ?_, SRow.bel hf hb⟩ <;> (rw [cell_of_row _ _ _ _ 35 (0, 0) hr]; rfl)
/-- Two events and their twins. -/
structure Four (w0 W : World) (B C b off : Nat) (e f e2 f2 : Ev) : Prop where
  bel : Below w0.heap.size w0 W
  kr : Kr W
  cells : W.cell? ⟨B, 0, none⟩ = some (.int .i64 e.g) ∧ W.cell? ⟨B, 1, none⟩ = some (.int .i64 e.k) ∧ W.cell? ⟨B, 2, none⟩ = some (.int .u64 e.o) ∧ W.cell? ⟨B, 3, none⟩ = some (.int .u64 e.a) ∧ W.cell? ⟨B, 4, none⟩ = some (.slice e.sa e.ls.length e.sc) ∧ W.cell? ⟨C, 0, none⟩ = some (.int .i64 f.g) ∧ W.cell? ⟨C, 1, none⟩ = some (.int .i64 f.k) ∧ W.cell? ⟨C, 2, none⟩ = some (.int .u64 f.o) ∧ W.cell? ⟨C, 3, none⟩ = some (.int .u64 f.a) ∧ W.cell? ⟨C, 4, none⟩ = some (.slice f.sa f.ls.length f.sc) ∧ W.cell? ⟨b, off, none⟩ = some (.int .i64 e2.g) ∧ W.cell? ⟨b, off + 1, none⟩ = some (.int .i64 e2.k) ∧ W.cell? ⟨b, off + 2, none⟩ = some (.int .u64 e2.o) ∧ W.cell? ⟨b, off + 3, none⟩ = some (.int .u64 e2.a) ∧ W.cell? ⟨b, off + 4, none⟩ = some (.slice e2.sa e2.ls.length e2.sc) ∧ W.cell? ⟨b, off + 5, none⟩ = some (.int .i64 f2.g) ∧ W.cell? ⟨b, off + 5 + 1, none⟩ = some (.int .i64 f2.k) ∧ W.cell? ⟨b, off + 5 + 2, none⟩ = some (.int .u64 f2.o) ∧ W.cell? ⟨b, off + 5 + 3, none⟩ = some (.int .u64 f2.a) ∧ W.cell? ⟨b, off + 5 + 4, none⟩ = some (.slice f2.sa f2.ls.length f2.sc)
  s1 : e.at W
  s2 : f.at W
  s3 : e2.at W
  s4 : f2.at W
theorem Four.below {w0 W W' : World} {B C b off : Nat} {e f e2 f2 : Ev} (h : Four w0 W B C b off e f e2 f2) (hb : Below W.heap.size W W') : Four w0 W' B C b off e f e2 f2 := by
  refine ⟨h.bel.trans (hb.mono h.bel.size), h.kr.below hb (by have := h.kr.size; omega), ?_, SRow.bel h.s1 hb, SRow.bel h.s2 hb, SRow.bel h.s3 hb, SRow.bel h.s4 hb⟩
  have hc := h.cells
  obtain ⟨a0, a1, a2, a3, a4, b0, b1, b2, b3, b4, c0, c1, c2, c3, c4, d0, d1, d2, d3, d4⟩ := hc
  exact ⟨cell_bel a0 hb, cell_bel a1 hb, cell_bel a2 hb, cell_bel a3 hb, cell_bel a4 hb, cell_bel b0 hb, cell_bel b1 hb, cell_bel b2 hb, cell_bel b3 hb, cell_bel b4 hb, cell_bel c0 hb, cell_bel c1 hb, cell_bel c2 hb, cell_bel c3 hb, cell_bel c4 hb, cell_bel d0 hb, cell_bel d1 hb, cell_bel d2 hb, cell_bel d3 hb, cell_bel d4 hb⟩
theorem Four.drewN {w0 W : World} {B C b off : Nat} {e f e2 f2 : Ev} (h : Four w0 W B C b off e f e2 f2) (j : Nat) : Four w0 (W.drewN j) B C b off e f e2 f2 := h.below (below_drewN (Below.refl _ _) j)
set_option maxRecDepth 8000 in
set_option maxHeartbeats 8000000 in
theorem pairs_any (e f : Ev) (w : World) (h : Kr w) (hok : e.ok) (hs : e.at w) (hok' : f.ok) (hs' : f.at w) :
    Calls Tryd.prog 8 #[.agg #[.int .i64 e.g, .int .i64 e.k, .int .u64 e.o, .int .u64 e.a, .slice e.sa e.ls.length e.sc], .agg #[.int .i64 f.g, .int .i64 f.k, .int .u64 f.o, .int .u64 f.a, .slice f.sa f.ls.length f.sc]] w fun r w' => r = .returned (.bool true) ∧ Below w.heap.size w w' := by
  have hlen : (e.ls.length : Int) ≤ 9223372036854775806 := by have := hok.len; omega
  have hlen' : (f.ls.length : Int) ≤ 9223372036854775806 := by have := hok'.len; omega
  obtain ⟨W1, hW1⟩ : ∃ W1, W1 = (w.alloc (.cells #[.int .i64 e.g, .int .i64 e.k, .int .u64 e.o, .int .u64 e.a, .slice e.sa e.ls.length e.sc] 35)).alloc (.cells #[.int .i64 f.g, .int .i64 f.k, .int .u64 f.o, .int .u64 f.a, .slice f.sa f.ls.length f.sc] 35) := ⟨_, rfl⟩
  have hb1 : Below w.heap.size w W1 := by rw [hW1]; exact (below_new w _).trans ((below_new _ _).mono (below_new w _).size)
  have he1 : EvB W1 w.heap.size e.g e.k e.o e.a e.sa e.ls.length e.sc := by rw [hW1]; exact EvB.below EvB.new (below_new _ _)
  have hf1 : EvB W1 (w.heap.size + 1) f.g f.k f.o f.a f.sa f.ls.length f.sc := by
    have := EvB.new (w := w.alloc (.cells #[.int .i64 e.g, .int .i64 e.k, .int .u64 e.o, .int .u64 e.a, .slice e.sa e.ls.length e.sc] 35)) (g := f.g) (k := f.k) (o := f.o) (a := f.a) (sa := f.sa) (sn := f.ls.length) (sc := f.sc)
    rw [hW1]; simpa using this
  have hz1 : W1.heap.size = w.heap.size + 2 := by rw [hW1]; simp
  have hT := twin_any (some ⟨W1.heap.size, 0, none⟩) 2 2 [e, f] (W1.alloc (.cells #[.int .i64 e.g, .int .i64 e.k, .int .u64 e.o, .int .u64 e.a, .slice e.sa e.ls.length e.sc, .int .i64 f.g, .int .i64 f.k, .int .u64 f.o, .int .u64 f.a, .slice f.sa f.ls.length f.sc] 35)) (erow_two (SRow.bel hs hb1) (SRow.bel hs' hb1)) (by intro x hx; simp at hx; rcases hx with rfl | rfl; exact hok; exact hok') (by omega)
  have hb2 : Below W1.heap.size W1 (W1.alloc (.cells #[.int .i64 e.g, .int .i64 e.k, .int .u64 e.o, .int .u64 e.a, .slice e.sa e.ls.length e.sc, .int .i64 f.g, .int .i64 f.k, .int .u64 f.o, .int .u64 f.a, .slice f.sa f.ls.length f.sc] 35)) := below_new W1 _
  obtain ⟨W2, hW2⟩ : ∃ W2, W2 = W1.alloc (.cells #[.int .i64 e.g, .int .i64 e.k, .int .u64 e.o, .int .u64 e.a, .slice e.sa e.ls.length e.sc, .int .i64 f.g, .int .i64 f.k, .int .u64 f.o, .int .u64 f.a, .slice f.sa f.ls.length f.sc] 35) := ⟨_, rfl⟩
  rw [← hW2] at hT hb2
  rw [hz1] at hT
  have HT : Hid _ := hide hT
  have HB : Hid _ := hide (hb1.trans (hb2.mono hb1.size))
  have HK : Hid _ := hide (h.below HB.out (by have := h.size; omega))
  have HE1 : Hid _ := hide (he1.below hb2)
  have HF1 : Hid _ := hide (hf1.below hb2)
  have HS1 : Hid (e.at W2) := hide (SRow.bel (SRow.bel hs hb1) hb2)
  have HS2 : Hid (f.at W2) := hide (SRow.bel (SRow.bel hs' hb1) hb2)
  have HO : Hid _ := hide hok
  have HO' : Hid _ := hide hok'
  have hWW : W2 = ((w.alloc (.cells #[.int .i64 e.g, .int .i64 e.k, .int .u64 e.o, .int .u64 e.a, .slice e.sa e.ls.length e.sc] 35)).alloc (.cells #[.int .i64 f.g, .int .i64 f.k, .int .u64 f.o, .int .u64 f.a, .slice f.sa f.ls.length f.sc] 35)).alloc (.cells #[.int .i64 e.g, .int .i64 e.k, .int .u64 e.o, .int .u64 e.a, .slice e.sa e.ls.length e.sc, .int .i64 f.g, .int .i64 f.k, .int .u64 f.o, .int .u64 f.a, .slice f.sa f.ls.length f.sc] 35) := by rw [hW2, hW1]
  have HWW : Hid _ := hide hWW
  rw [hWW] at HT
  clear hW1 hW2 hb1 hb2 he1 hf1 h hok hok' hs hs' hWW hz1 hT
  go_enter Tryd.func8, Tryd.ntmps8
  go_wp2_with fail
  refine HT.out.mono ?_
  rw [← HWW.out]
  rintro r w3 ⟨fs, v, rfl, htw⟩
  clear HT HWW
  obtain ⟨va, vc, rfl, hrow, hvc⟩ := htw.form
  obtain ⟨e2, he2, htwe⟩ := htw.get (i := 0) (e := e) rfl (by omega)
  obtain ⟨f2, hf2, htwf⟩ := htw.get (i := 1) (e := f) rfl (by omega)
  obtain ⟨b, off, e', hva, he', c0, c1, c2, c3, c4, hes⟩ := hrow.at (i := 0) (by omega)
  obtain ⟨b', off', f', hva', hf', d0, d1, d2, d3, d4, hfs⟩ := hrow.at (i := 1) (by omega)
  rw [hva] at hva'
  cases hva'
  subst hva
  rw [he2] at he'
  cases he'
  rw [hf2] at hf'
  cases hf'
  rw [Nat.zero_mul, Nat.add_zero] at c0 c1 c2 c3 c4
  rw [Nat.one_mul] at d0 d1 d2 d3 d4
  have hb3 := htw.bel
  have h4 : Four w w3 w.heap.size (w.heap.size + 1) b off e f e2 f2 := by
    have hx := HE1.out.below hb3
    have hy := HF1.out.below hb3
    exact ⟨HB.out.trans (hb3.mono HB.out.size), HK.out.below hb3 (by have := HK.out.size; omega), ⟨hx.c0, hx.c1, hx.c2, hx.c3, hx.c4, hy.c0, hy.c1, hy.c2, hy.c3, hy.c4, c0, c1, c2, c3, c4, d0, d1, d2, d3, d4⟩, SRow.bel HS1.out hb3, SRow.bel HS2.out hb3, hes, hfs⟩
  have H4 : Hid _ := hide h4
  have HTE : Hid _ := hide htwe
  have HTF : Hid _ := hide htwf
  clear htw hrow he2 hf2 hb3 HB HK HE1 HF1 HS1 HS2 c0 c1 c2 c3 c4 d0 d1 d2 d3 d4 hes hfs h4 htwe htwf
  obtain ⟨u1, u2, u3, u4, u5⟩ := HTE.out
  obtain ⟨v1, v2, v3, v4, v5⟩ := HTF.out
  have hlen2 : (e2.ls.length : Int) ≤ 9223372036854775806 := by rw [u5]; exact hlen
  have HQ1 : Hid (∀ W, Four w W w.heap.size (w.heap.size + 1) b off e f e2 f2 → Calls Tryd.prog 16 #[.agg #[.int .i64 e.g, .int .i64 e.k, .int .u64 e.o, .int .u64 e.a, .slice e.sa e.ls.length e.sc], .agg #[.int .i64 f.g, .int .i64 f.k, .int .u64 f.o, .int .u64 f.a, .slice f.sa f.ls.length f.sc]] W fun r w' => r = .returned (.bool (clashB e.k e.o e.a f.k f.o f.a)) ∧ Below W.heap.size W w') := hide (fun W h => clash_any _ _ _ _ _ _ _ _ _ _ _ _ _ _ W h.kr HO.out.ho HO'.out.ho)
  have HQ2 : Hid (∀ W, Four w W w.heap.size (w.heap.size + 1) b off e f e2 f2 → Calls Tryd.prog 23 #[.agg #[.int .i64 e2.g, .int .i64 e2.k, .int .u64 e2.o, .int .u64 e2.a, .slice e2.sa e2.ls.length e2.sc], .agg #[.int .i64 f2.g, .int .i64 f2.k, .int .u64 f2.o, .int .u64 f2.a, .slice f2.sa f2.ls.length f2.sc]] W fun r w' => r = .returned (.bool (clashB e.k e.o e.a f.k f.o f.a)) ∧ Below W.heap.size W w') := hide (fun W h => by
    have := rclash_any e2.g e2.k e2.o e2.a e2.sa e2.ls.length e2.sc f2.g f2.k f2.o f2.a f2.sa f2.ls.length f2.sc W (by rw [u3]; exact HO.out.ho) (by rw [u4]; exact HO.out.ha) (by rw [v3]; exact HO'.out.ho) (by rw [v4]; exact HO'.out.ha)
    rwa [show clashB e2.k e2.o e2.a f2.k f2.o f2.a = clashB e.k e.o e.a f.k f.o f.a by rw [u2, u3, u4, v2, v3, v4]] at this)
  have HQ3 : Hid (∀ W, Four w W w.heap.size (w.heap.size + 1) b off e f e2 f2 → Calls Tryd.prog 24 #[.agg #[.int .i64 e.g, .int .i64 e.k, .int .u64 e.o, .int .u64 e.a, .slice e.sa e.ls.length e.sc], .agg #[.int .i64 f.g, .int .i64 f.k, .int .u64 f.o, .int .u64 f.a, .slice f.sa f.ls.length f.sc]] W fun r w' => r = .returned (.bool (sameB e.g e.k e.o e.a e.ls f.g f.k f.o f.a f.ls)) ∧ Below W.heap.size W w') := hide (fun W h => esame_any _ _ _ _ _ _ _ _ _ _ _ _ _ _ _ _ W h.s1 h.s2 hlen)
  have HQ4 : Hid (∀ W, Four w W w.heap.size (w.heap.size + 1) b off e f e2 f2 → Calls Tryd.prog 22 #[.agg #[.int .i64 e2.g, .int .i64 e2.k, .int .u64 e2.o, .int .u64 e2.a, .slice e2.sa e2.ls.length e2.sc], .agg #[.int .i64 f2.g, .int .i64 f2.k, .int .u64 f2.o, .int .u64 f2.a, .slice f2.sa f2.ls.length f2.sc]] W fun r w' => r = .returned (.bool (sameB e.g e.k e.o e.a e.ls f.g f.k f.o f.a f.ls)) ∧ Below W.heap.size W w') := hide (fun W h => by
    have := rsame_any e2.g e2.k e2.o e2.a e2.sa e2.ls.length e2.sc e2.ls f2.g f2.k f2.o f2.a f2.sa f2.ls.length f2.sc f2.ls W h.s3 h.s4 hlen2
    rwa [show sameB e2.g e2.k e2.o e2.a e2.ls f2.g f2.k f2.o f2.a f2.ls = sameB e.g e.k e.o e.a e.ls f.g f.k f.o f.a f.ls by rw [u1, u2, u3, u4, u5, v1, v2, v3, v4, v5]] at this)
  have HQ5 : Hid (∀ W, Four w W w.heap.size (w.heap.size + 1) b off e f e2 f2 → Calls Tryd.prog 22 #[.agg #[.int .i64 e.g, .int .i64 e.k, .int .u64 e.o, .int .u64 e.a, .slice e.sa e.ls.length e.sc], .agg #[.int .i64 e2.g, .int .i64 e2.k, .int .u64 e2.o, .int .u64 e2.a, .slice e2.sa e2.ls.length e2.sc]] W fun r w' => r = .returned (.bool true) ∧ Below W.heap.size W w') := hide (fun W h => by
    have := rsame_any e.g e.k e.o e.a e.sa e.ls.length e.sc e.ls e2.g e2.k e2.o e2.a e2.sa e2.ls.length e2.sc e2.ls W h.s1 h.s3 hlen
    rwa [show sameB e.g e.k e.o e.a e.ls e2.g e2.k e2.o e2.a e2.ls = true by rw [u1, u2, u3, u4, u5]; exact sameB_twin _ _ _ _ _] at this)
  have HQ6 : Hid (∀ W, Four w W w.heap.size (w.heap.size + 1) b off e f e2 f2 → Calls Tryd.prog 22 #[.agg #[.int .i64 f.g, .int .i64 f.k, .int .u64 f.o, .int .u64 f.a, .slice f.sa f.ls.length f.sc], .agg #[.int .i64 f2.g, .int .i64 f2.k, .int .u64 f2.o, .int .u64 f2.a, .slice f2.sa f2.ls.length f2.sc]] W fun r w' => r = .returned (.bool true) ∧ Below W.heap.size W w') := hide (fun W h => by
    have := rsame_any f.g f.k f.o f.a f.sa f.ls.length f.sc f.ls f2.g f2.k f2.o f2.a f2.sa f2.ls.length f2.sc f2.ls W h.s2 h.s4 hlen'
    rwa [show sameB f.g f.k f.o f.a f.ls f2.g f2.k f2.o f2.a f2.ls = true by rw [v1, v2, v3, v4, v5]; exact sameB_twin _ _ _ _ _] at this)
  have hn1 : (clashB e.k e.o e.a f.k f.o f.a != clashB e.k e.o e.a f.k f.o f.a) = false := by simp
  have hn2 : (sameB e.g e.k e.o e.a e.ls f.g f.k f.o f.a f.ls != sameB e.g e.k e.o e.a e.ls f.g f.k f.o f.a f.ls) = false := by simp
  have L1 : Hid _ := hide hn1
  generalize clashB e.k e.o e.a f.k f.o f.a = R at HQ1 HQ2 hn1
  generalize sameB e.g e.k e.o e.a e.ls f.g f.k f.o f.a f.ls = R' at HQ3 HQ4 hn2
  clear u1 u2 u3 u4 u5 v1 v2 v3 v4 v5 L1 HTE HTF HO HO' hlen hlen' hlen2
  have HC1 : Hid _ := hide (HQ1.out w3.drew (H4.out.drewN 1))
  have A4 := H4.out.cells
  obtain ⟨eg, ek, eo, ea, esa, esc, els⟩ := e
  obtain ⟨fg, fk, fo, fa, fsa, fsc, fls⟩ := f
  obtain ⟨pg, pk, po, pa, psa, psc, pls⟩ := e2
  obtain ⟨qg, qk, qo, qa, qsa, qsc, qls⟩ := f2
  dsimp only at A4 HC1 HQ1 HQ2 HQ3 HQ4 HQ5 HQ6 ⊢
  go_wp2
  go_region_held3 (fun W => W.cell? ⟨w.heap.size, 0, none⟩ = some (.int .i64 eg) ∧ W.cell? ⟨w.heap.size, 1, none⟩ = some (.int .i64 ek) ∧ W.cell? ⟨w.heap.size, 2, none⟩ = some (.int .u64 eo) ∧ W.cell? ⟨w.heap.size, 3, none⟩ = some (.int .u64 ea) ∧ W.cell? ⟨w.heap.size, 4, none⟩ = some (.slice esa els.length esc) ∧ W.cell? ⟨w.heap.size + 1, 0, none⟩ = some (.int .i64 fg) ∧ W.cell? ⟨w.heap.size + 1, 1, none⟩ = some (.int .i64 fk) ∧ W.cell? ⟨w.heap.size + 1, 2, none⟩ = some (.int .u64 fo) ∧ W.cell? ⟨w.heap.size + 1, 3, none⟩ = some (.int .u64 fa) ∧ W.cell? ⟨w.heap.size + 1, 4, none⟩ = some (.slice fsa fls.length fsc) ∧ W.cell? ⟨b, off, none⟩ = some (.int .i64 pg) ∧ W.cell? ⟨b, off + 1, none⟩ = some (.int .i64 pk) ∧ W.cell? ⟨b, off + 2, none⟩ = some (.int .u64 po) ∧ W.cell? ⟨b, off + 3, none⟩ = some (.int .u64 pa) ∧ W.cell? ⟨b, off + 4, none⟩ = some (.slice psa pls.length psc) ∧ W.cell? ⟨b, off + 5, none⟩ = some (.int .i64 qg) ∧ W.cell? ⟨b, off + 5 + 1, none⟩ = some (.int .i64 qk) ∧ W.cell? ⟨b, off + 5 + 2, none⟩ = some (.int .u64 qo) ∧ W.cell? ⟨b, off + 5 + 3, none⟩ = some (.int .u64 qa) ∧ W.cell? ⟨b, off + 5 + 4, none⟩ = some (.slice qsa qls.length qsc)) (first | exact A4 | exact A5 | exact A6 | exact A7 | exact A8) (first
    | (go_at_call 16; refine HC1.out.mono ?_; rintro r w5 ⟨rfl, hb5⟩; have H5 : Hid _ := hide ((H4.out.drewN 1).below hb5); have A5 := H5.out.cells; dsimp only at A5; clear hb5)
    | (go_at_call 23; refine (HQ2.out w5 H5.out).mono ?_; rintro r w6 ⟨rfl, hb6⟩; have H6 : Hid _ := hide (H5.out.below hb6); have A6 := H6.out.cells; dsimp only at A6; clear hb6)
    | (go_at_call 24; refine (HQ3.out w6 H6.out).mono ?_; rintro r w7 ⟨rfl, hb7⟩; have H7 : Hid _ := hide (H6.out.below hb7); have A7 := H7.out.cells; dsimp only at A7; clear hb7)
    | (go_at_call 22; refine (HQ4.out w7 H7.out).mono ?_; rintro r w8 ⟨rfl, hb8⟩; have H8 : Hid _ := hide (H7.out.below hb8); have A8 := H8.out.cells; dsimp only at A8; clear hb8))
  clear A4 A5 A6 A7 HC1 HQ1 HQ2 HQ3 HQ4 hn1 hn2 H4 H5 H6 H7
  have HC5 : Hid _ := hide (HQ5.out w8.drew (H8.out.drewN 1))
  go_wp2
  go_region_held3 (fun W => W.cell? ⟨w.heap.size, 0, none⟩ = some (.int .i64 eg) ∧ W.cell? ⟨w.heap.size, 1, none⟩ = some (.int .i64 ek) ∧ W.cell? ⟨w.heap.size, 2, none⟩ = some (.int .u64 eo) ∧ W.cell? ⟨w.heap.size, 3, none⟩ = some (.int .u64 ea) ∧ W.cell? ⟨w.heap.size, 4, none⟩ = some (.slice esa els.length esc) ∧ W.cell? ⟨w.heap.size + 1, 0, none⟩ = some (.int .i64 fg) ∧ W.cell? ⟨w.heap.size + 1, 1, none⟩ = some (.int .i64 fk) ∧ W.cell? ⟨w.heap.size + 1, 2, none⟩ = some (.int .u64 fo) ∧ W.cell? ⟨w.heap.size + 1, 3, none⟩ = some (.int .u64 fa) ∧ W.cell? ⟨w.heap.size + 1, 4, none⟩ = some (.slice fsa fls.length fsc) ∧ W.cell? ⟨b, off, none⟩ = some (.int .i64 pg) ∧ W.cell? ⟨b, off + 1, none⟩ = some (.int .i64 pk) ∧ W.cell? ⟨b, off + 2, none⟩ = some (.int .u64 po) ∧ W.cell? ⟨b, off + 3, none⟩ = some (.int .u64 pa) ∧ W.cell? ⟨b, off + 4, none⟩ = some (.slice psa pls.length psc) ∧ W.cell? ⟨b, off + 5, none⟩ = some (.int .i64 qg) ∧ W.cell? ⟨b, off + 5 + 1, none⟩ = some (.int .i64 qk) ∧ W.cell? ⟨b, off + 5 + 2, none⟩ = some (.int .u64 qo) ∧ W.cell? ⟨b, off + 5 + 3, none⟩ = some (.int .u64 qa) ∧ W.cell? ⟨b, off + 5 + 4, none⟩ = some (.slice qsa qls.length qsc)) (first | exact A8 | exact A9 | exact A10) (first
    | (go_at_call 22; refine (HQ6.out w9 H9.out).mono ?_; rintro r w10 ⟨rfl, hb10⟩; have H10 : Hid _ := hide (H9.out.below hb10); have A10 := H10.out.cells; dsimp only at A10; clear hb10)
    | (go_at_call 22; refine HC5.out.mono ?_; rintro r w9 ⟨rfl, hb9⟩; have H9 : Hid _ := hide ((H8.out.drewN 1).below hb9); have A9 := H9.out.cells; dsimp only at A9; clear hb9))
  go_wp2
  go_ret
  exact ⟨rfl, H10.out.bel⟩
end Go.Proofs.YtifbehkdhalfcaaDoor
