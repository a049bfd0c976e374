/-
  What twinTrace answers; EventChecks.
-/
import Derived.Test.YtifbehkdhalfcaaDoorEvtX
import Derived.Test.YtifbehkdhalfcaaDoorEvtS
namespace Go.Proofs.YtifbehkdhalfcaaDoor
open Go.RowKit Go.Maps Go.Shelf
theorem ecells_get {l : List Ev} {i : Nat} {e : Ev} (h : l[i]? = some e) {t : Nat} (ht : t < 5) : (ecells l)[i * 5 + t]? = (ecell e)[t]? := by
  induction l generalizing i with
  | nil => simp at h
  | cons x l ih =>
    cases i with
    | zero =>
      simp at h; subst h
      rw [ecells, Nat.zero_mul, Nat.zero_add, List.getElem?_append_left (by simpa [ecell] using ht)]
    | succ i =>
      rw [ecells, List.getElem?_append_right (by simp [ecell]; omega)]
      have e1 : (i + 1) * 5 + t - (ecell x).length = i * 5 + t := by simp [ecell]; omega
      rw [e1]
      exact ih (by simpa using h)
theorem Tw.form {w0 wr : World} {es fs : List Ev} {n : Nat} {v : Value} (h : Tw w0 wr es n fs v) : ∃ a c, v = .slice a n c ∧ ERow wr a n fs ∧ n ≤ c := by
  have ho := h.own
  rcases ho.2 with ⟨hv, h0⟩ | ⟨g, cap, cur, hv, hb, hg, hn, hm, hs, ht⟩
  · subst h0; exact ⟨none, 0, hv, ⟨h.len, .inl rfl⟩, Nat.le_refl _⟩
  · refine ⟨some ⟨g, 0, none⟩, cap, hv, ⟨h.len, .inr ⟨g, 0, rfl, fun i f hf => ?_⟩⟩, hn⟩
    have hc : ∀ t (ht : t < 5), wr.cell? ⟨g, 0 + i * 5 + t, none⟩ = (ecell f)[t]? := by
      intro t ht5
      have hlt := (List.getElem?_eq_some_iff.1 hf).1
      subst hv
      have := ho.cellAt (i * 5 + t) (by rw [h.len] at hlt; omega)
      rw [Nat.zero_add, this, ecells_get hf ht5]
    obtain ⟨e, _, _, _, _, h5⟩ := h.each i f hf
    exact ⟨hc 0 (by omega), hc 1 (by omega), hc 2 (by omega), hc 3 (by omega), hc 4 (by omega), SRow.of_own h5⟩
theorem Tw.get {w0 wr : World} {es fs : List Ev} {n : Nat} {v : Value} (h : Tw w0 wr es n fs v) {i : Nat} {e : Ev} (he : es[i]? = some e) (hi : i < n) : ∃ f, fs[i]? = some f ∧ e.twin f := by
  have hl : i < fs.length := by rw [h.len]; exact hi
  obtain ⟨e', h1, h2, _⟩ := h.each i fs[i] (List.getElem?_eq_getElem hl)
  rw [he] at h1
  cases h1
  exact ⟨_, List.getElem?_eq_getElem hl, h2⟩
/-- One event written down. -/
theorem erow_one {w : World} {b : Nat} {e : Ev} (h : EvB w b e.g e.k e.o e.a e.sa e.ls.length e.sc) (hs : e.at w) : ERow w (some ⟨b, 0, none⟩) 1 [e] := by
  refine ⟨rfl, .inr ⟨b, 0, rfl, fun i f hf => ?_⟩⟩
  match i, hf with
  | 0, hf => simp at hf; subst hf; exact ⟨h.c0, h.c1, h.c2, h.c3, h.c4, hs⟩
/-- Two events in blocks of their own, and the tables. -/
structure Two (w0 W : World) (B C : Nat) (g k o a : Int) (sa : Option Addr) (sc : Nat) (ta : Option Addr) (tc : Nat) (ls : List ByteArray) : Prop where
  bel : Below w0.heap.size w0 W
  kr : Kr W
  e1 : EvB W B g k o a sa ls.length sc
  e2 : EvB W C g k o a ta ls.length tc
  s1 : SRow W sa ls.length ls
  s2 : SRow W ta ls.length ls
theorem Two.below {w0 W W' : World} {B C : Nat} {g k o a : Int} {sa ta : Option Addr} {sc tc : Nat} {ls : List ByteArray} (h : Two w0 W B C g k o a sa sc ta tc ls) (hb : Below W.heap.size W W') : Two w0 W' B C g k o a sa sc ta tc ls :=
  ⟨h.bel.trans (hb.mono h.bel.size), h.kr.below hb (by have := h.kr.size; omega), h.e1.below hb, h.e2.below hb, h.s1.bel hb, h.s2.bel hb⟩
theorem Two.drewN {w0 W : World} {B C : Nat} {g k o a : Int} {sa ta : Option Addr} {sc tc : Nat} {ls : List ByteArray} (h : Two w0 W B C g k o a sa sc ta tc ls) (j : Nat) : Two w0 (W.drewN j) B C g k o a sa sc ta tc ls := h.below (below_drewN (Below.refl _ _) j)
/-- Both events' cells. -/
def Cells (W : World) (B C : Nat) (g k o a : Int) (sa : Option Addr) (sc : Nat) (ta : Option Addr) (tc n : Nat) : Prop :=
  W.cell? ⟨B, 0, none⟩ = some (.int .i64 g) ∧ W.cell? ⟨B, 1, none⟩ = some (.int .i64 k) ∧ W.cell? ⟨B, 2, none⟩ = some (.int .u64 o) ∧ W.cell? ⟨B, 3, none⟩ = some (.int .u64 a) ∧ W.cell? ⟨B, 4, none⟩ = some (.slice sa n sc) ∧
  W.cell? ⟨C, 0, none⟩ = some (.int .i64 g) ∧ W.cell? ⟨C, 1, none⟩ = some (.int .i64 k) ∧ W.cell? ⟨C, 2, none⟩ = some (.int .u64 o) ∧ W.cell? ⟨C, 3, none⟩ = some (.int .u64 a) ∧ W.cell? ⟨C, 4, none⟩ = some (.slice ta n tc)
theorem Two.cells {w0 W : World} {B C : Nat} {g k o a : Int} {sa ta : Option Addr} {sc tc : Nat} {ls : List ByteArray} (h : Two w0 W B C g k o a sa sc ta tc ls) : Cells W B C g k o a sa sc ta tc ls.length :=
  ⟨h.e1.c0, h.e1.c1, h.e1.c2, h.e1.c3, h.e1.c4, h.e2.c0, h.e2.c1, h.e2.c2, h.e2.c3, h.e2.c4⟩
theorem sameB_twin (g k o a : Int) (ls : List ByteArray) : sameB g k o a ls g k o a ls = true := by
  unfold sameB; rw [eqB_self]; simp
set_option maxRecDepth 4000 in
set_option maxHeartbeats 4000000 in
theorem checks_any (e : Ev) (w : World) (h : Kr w) (hok : e.ok) (hs : e.at w) :
    Calls Tryd.prog 7 #[.agg #[.int .i64 e.g, .int .i64 e.k, .int .u64 e.o, .int .u64 e.a, .slice e.sa e.ls.length e.sc]] w fun r w' => r = .returned (.bool true) ∧ Below w.heap.size w w' := by
  obtain ⟨eg, ek, eo, ea, esa, esc, els⟩ := e
  dsimp only
  have hO := hok
  have hlen : (els.length : Int) ≤ 9223372036854775806 := by have := hok.len; dsimp only at this; omega
  obtain ⟨W1, hW1⟩ : ∃ W1, W1 = w.alloc (.cells #[.int .i64 eg, .int .i64 ek, .int .u64 eo, .int .u64 ea, .slice esa els.length esc] 35) := ⟨_, rfl⟩
  have hb1 : Below w.heap.size w W1 := by rw [hW1]; exact below_new w _
  have he1 : EvB W1 w.heap.size eg ek eo ea esa els.length esc := by rw [hW1]; exact EvB.new
  have hz1 : W1.heap.size = w.heap.size + 1 := by rw [hW1]; simp
  obtain ⟨W2, hW2⟩ : ∃ W2, W2 = W1.alloc (.cells #[.int .i64 eg, .int .i64 ek, .int .u64 eo, .int .u64 ea, .slice esa els.length esc] 35) := ⟨_, rfl⟩
  have hb2 : Below W1.heap.size W1 W2 := by rw [hW2]; exact below_new W1 _
  have he2 : EvB W2 W1.heap.size eg ek eo ea esa els.length esc := by rw [hW2]; exact EvB.new
  have hs1 : SRow W1 esa els.length els := SRow.bel hs hb1
  have hs2 : SRow W2 esa els.length els := hs1.bel hb2
  have HT : Hid _ := hide (twin_any (some ⟨W1.heap.size, 0, none⟩) 1 1 [⟨eg, ek, eo, ea, esa, esc, els⟩] W2 (erow_one he2 hs2) (by intro x hx; simp at hx; subst hx; exact hO) (by omega))
  have hb12 : Below w.heap.size w W2 := hb1.trans (hb2.mono hb1.size)
  have HB : Hid _ := hide hb12
  have HK : Hid _ := hide (h.below hb12 (by have := h.size; omega))
  have HE1 : Hid _ := hide (he1.below hb2)
  have HS : Hid _ := hide hs2
  have HO : Hid _ := hide hO
  rw [hz1] at HT
  have hWW : W2 = (w.alloc (.cells #[.int .i64 eg, .int .i64 ek, .int .u64 eo, .int .u64 ea, .slice esa els.length esc] 35)).alloc (.cells #[.int .i64 eg, .int .i64 ek, .int .u64 eo, .int .u64 ea, .slice esa els.length esc] 35) := by rw [hW2, hW1]
  have HWW : Hid _ := hide hWW
  rw [hWW] at HT
  clear hW1 hW2 hb1 hb2 he1 he2 hs1 hs2 hb12 h hok hs hO hWW hz1
  go_enter Tryd.func7, Tryd.ntmps7
  go_wp2_with fail
  refine HT.out.mono ?_
  rw [← HWW.out]
  rintro r w3 ⟨fs, v, rfl, htw⟩
  clear HT HWW
  obtain ⟨va, vc, rfl, hrow, hvc⟩ := htw.form
  obtain ⟨f, hf, htwin⟩ := htw.get (i := 0) rfl (by omega)
  obtain ⟨b, off, f', rfl, hf', c0, c1, c2, c3, c4, hfs⟩ := hrow.at (i := 0) (by omega)
  rw [hf] at hf'
  cases hf'
  obtain ⟨t1, t2, t3, t4, t5⟩ := htwin
  obtain ⟨fg, fk, fo, fa, fsa, fsc, fls⟩ := f
  dsimp only at t1 t2 t3 t4 t5 c0 c1 c2 c3 c4
  subst t1 t2 t3 t4 t5
  rw [Nat.zero_mul, Nat.add_zero] at c0 c1 c2 c3 c4
  have hb3 := htw.bel
  have HB3 : Hid _ := hide (HB.out.trans (hb3.mono HB.out.size))
  have HK3 : Hid _ := hide (HK.out.below hb3 (by have := HK.out.size; omega))
  have HE3 : Hid _ := hide (HE1.out.below hb3)
  have HS3 : Hid _ := hide (HS.out.bel hb3)
  have HF3 : Hid _ := hide hfs
  clear htw hrow hf hb3 hfs HB HK HE1 HS
  obtain ⟨W4, hW4⟩ : ∃ W4, W4 = w3.alloc (.cells #[.int .i64 fg, .int .i64 fk, .int .u64 fo, .int .u64 fa, .slice fsa fls.length fsc] 35) := ⟨_, rfl⟩
  have h4 : Two w W4 w.heap.size w3.heap.size fg fk fo fa esa esc fsa fsc fls := by
    have hb4 : Below w3.heap.size w3 W4 := by rw [hW4]; exact below_new w3 _
    exact ⟨HB3.out.trans (hb4.mono HB3.out.size), HK3.out.below hb4 (by have := HK3.out.size; omega), HE3.out.below hb4, by rw [hW4]; exact EvB.new, HS3.out.bel hb4, SRow.bel HF3.out hb4⟩
  have H4 : Hid _ := hide h4
  have A4 := h4.cells
  have HQ1 : Hid (Calls Tryd.prog 14 #[.agg #[.int .i64 fg, .int .i64 fk, .int .u64 fo, .int .u64 fa, .slice esa fls.length esc]] W4.drew fun e w' => e = .returned (.int .i64 (chk fg fk fo fa fls)) ∧ Below W4.drew.heap.size W4.drew w') := hide (check_any fg fk fo fa esa fls.length esc fls W4.drew (h4.kr.drewN 1) (h4.s1.drewN 1) hlen)
  have ho := HO.out.ho
  have ha := HO.out.ha
  dsimp only at ho ha
  have HQ2 : Hid (∀ W, Two w W w.heap.size w3.heap.size fg fk fo fa esa esc fsa fsc fls → Calls Tryd.prog 20 #[.agg #[.int .i64 fg, .int .i64 fk, .int .u64 fo, .int .u64 fa, .slice fsa fls.length fsc]] W fun e w' => e = .returned (.int .i64 (chk fg fk fo fa fls)) ∧ Below W.heap.size W w') := hide (fun W h => rcheck_any fg fk fo fa fsa fls.length fsc fls W h.s2 hlen ho ha)
  have HA : Hid (∀ W, Two w W w.heap.size w3.heap.size fg fk fo fa esa esc fsa fsc fls → Calls Tryd.prog 15 #[.agg #[.int .i64 fg, .int .i64 fk, .int .u64 fo, .int .u64 fa, .slice esa fls.length esc]] W fun e w' => e = .returned (.tuple #[.int .u64 (acc0 fk fo fa), .int .u64 (acc1 fk fo fa), .bool (acc2 fk fo fa), .bool (accB fk fo fa)]) ∧ Below W.heap.size W w') := hide (fun W h => access_any fg fk fo fa esa fls.length esc W h.kr ho)
  have HA2 : Hid (∀ W, Two w W w.heap.size w3.heap.size fg fk fo fa esa esc fsa fsc fls → Calls Tryd.prog 21 #[.agg #[.int .i64 fg, .int .i64 fk, .int .u64 fo, .int .u64 fa, .slice fsa fls.length fsc]] W fun e w' => e = .returned (.tuple #[.int .u64 (acc0 fk fo fa), .int .u64 (acc1 fk fo fa), .bool (acc2 fk fo fa), .bool (accB fk fo fa)]) ∧ Below W.heap.size W w') := hide (fun W h => raccess_any fg fk fo fa fsa fls.length fsc W ho ha)
  have HSm : Hid (∀ W, Two w W w.heap.size w3.heap.size fg fk fo fa esa esc fsa fsc fls → Calls Tryd.prog 22 #[.agg #[.int .i64 fg, .int .i64 fk, .int .u64 fo, .int .u64 fa, .slice esa fls.length esc], .agg #[.int .i64 fg, .int .i64 fk, .int .u64 fo, .int .u64 fa, .slice fsa fls.length fsc]] W fun e w' => e = .returned (.bool true) ∧ Below W.heap.size W w') := hide (fun W h => by
    have := rsame_any fg fk fo fa esa fls.length esc fls fg fk fo fa fsa fls.length fsc fls W h.s1 h.s2 hlen
    rwa [sameB_twin] at this)
  clear HB3 HK3 HE3 HS3 HF3 HO h4 ho ha
  generalize chk fg fk fo fa fls = R at HQ1 HQ2
  generalize acc0 fk fo fa = x0 at HA HA2
  generalize acc1 fk fo fa = x1 at HA HA2
  generalize acc2 fk fo fa = x2 at HA HA2
  generalize accB fk fo fa = x3 at HA HA2
  have hR : (R != R) = false := by simp
  go_wp2
  rw [← hW4]
  clear hW4 c0 c1 c2 c3 c4
  go_region_held3 (fun W => W.cell? ⟨w.heap.size, 0, none⟩ = some (.int .i64 fg) ∧ W.cell? ⟨w.heap.size, 1, none⟩ = some (.int .i64 fk) ∧ W.cell? ⟨w.heap.size, 2, none⟩ = some (.int .u64 fo) ∧ W.cell? ⟨w.heap.size, 3, none⟩ = some (.int .u64 fa) ∧ W.cell? ⟨w.heap.size, 4, none⟩ = some (.slice esa fls.length esc) ∧ W.cell? ⟨w3.heap.size, 0, none⟩ = some (.int .i64 fg) ∧ W.cell? ⟨w3.heap.size, 1, none⟩ = some (.int .i64 fk) ∧ W.cell? ⟨w3.heap.size, 2, none⟩ = some (.int .u64 fo) ∧ W.cell? ⟨w3.heap.size, 3, none⟩ = some (.int .u64 fa) ∧ W.cell? ⟨w3.heap.size, 4, none⟩ = some (.slice fsa fls.length fsc)) (first | exact A4 | exact A5 | exact A6) (first
    | (go_at_call 14; refine HQ1.out.mono ?_; rintro e w5 ⟨rfl, hb5⟩; have H5 : Hid _ := hide ((H4.out.drewN 1).below hb5); have A5 := H5.out.cells; clear hb5)
    | (go_at_call 20; refine (HQ2.out w5 H5.out).mono ?_; rintro e w6 ⟨rfl, hb6⟩; have H6 : Hid _ := hide (H5.out.below hb6); have A6 := H6.out.cells; clear hb6))
  clear A4 A5 A6 HQ1 HQ2 hR
  have HA6 : Hid _ := hide (HA.out w6 H6.out)
  obtain ⟨a0, a1, a2, a3, a4, _⟩ := H6.out.cells
  go_wp2_with fail
  refine HA6.out.mono ?_
  rintro e w7 ⟨rfl, hb7⟩
  have H7 : Hid _ := hide (H6.out.below hb7)
  have HA7 : Hid _ := hide (HA2.out w7 H7.out)
  obtain ⟨_, _, _, _, _, d0, d1, d2, d3, d4⟩ := H7.out.cells
  clear hb7 a0 a1 a2 a3 a4 HA6 HA H6 H5 H4
  go_wp2_with fail
  refine HA7.out.mono ?_
  rintro e w8 ⟨rfl, hb8⟩
  have H8 : Hid _ := hide (H7.out.below hb8)
  have HS8 : Hid _ := hide (HSm.out w8 H8.out)
  clear hb8 d0 d1 d2 d3 d4 HA7 HA2 H7
  obtain ⟨a0, a1, a2, a3, a4, d0, d1, d2, d3, d4⟩ := H8.out.cells
  have g0 : (x0 == x0) = true := by simp
  have g1 : (x1 == x1) = true := by simp
  have g2 : (x2 == x2) = true := by simp
  have g3 : (x3 == x3) = true := by simp
  go_wp2_with fail
  refine HS8.out.mono ?_
  rintro e w9 ⟨rfl, hb9⟩
  have HB9 : Hid _ := hide (H8.out.below hb9).bel
  clear hb9
  go_wp2
  go_ret
  exact ⟨rfl, HB9.out⟩
end Go.Proofs.YtifbehkdhalfcaaDoor
