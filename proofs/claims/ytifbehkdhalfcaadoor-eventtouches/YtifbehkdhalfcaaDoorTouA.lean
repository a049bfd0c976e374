/-
  EventTouches.
-/
import Derived.Test.YtifbehkdhalfcaaDoorAliA
namespace Go.Proofs.YtifbehkdhalfcaaDoor
open Go.RowKit Go.Maps Go.Shelf
structure Duo (w0 W : World) (B C : Nat) (e f : Ev) : Prop where
  bel : Below w0.heap.size w0 W
  kr : Kr W
  e1 : EvB W B e.g e.k e.o e.a e.sa e.ls.length e.sc
  e2 : EvB W C f.g f.k f.o f.a f.sa f.ls.length f.sc
theorem Duo.below {w0 W W' : World} {B C : Nat} {e f : Ev} (h : Duo w0 W B C e f) (hb : Below W.heap.size W W') : Duo w0 W' B C e f :=
  ⟨h.bel.trans (hb.mono h.bel.size), h.kr.below hb (by have := h.kr.size; omega), h.e1.below hb, h.e2.below hb⟩
theorem Duo.drewN {w0 W : World} {B C : Nat} {e f : Ev} (h : Duo w0 W B C e f) (j : Nat) : Duo w0 (W.drewN j) B C e f := h.below (below_drewN (Below.refl _ _) j)
theorem Duo.cells {w0 W : World} {B C : Nat} {e f : Ev} (h : Duo w0 W B C e f) : W.cell? ⟨B, 0, none⟩ = some (.int .i64 e.g) ∧ W.cell? ⟨B, 1, none⟩ = some (.int .i64 e.k) ∧ W.cell? ⟨B, 2, none⟩ = some (.int .u64 e.o) ∧ W.cell? ⟨B, 3, none⟩ = some (.int .u64 e.a) ∧ W.cell? ⟨B, 4, none⟩ = some (.slice e.sa e.ls.length e.sc) ∧ W.cell? ⟨C, 0, none⟩ = some (.int .i64 f.g) ∧ W.cell? ⟨C, 1, none⟩ = some (.int .i64 f.k) ∧ W.cell? ⟨C, 2, none⟩ = some (.int .u64 f.o) ∧ W.cell? ⟨C, 3, none⟩ = some (.int .u64 f.a) ∧ W.cell? ⟨C, 4, none⟩ = some (.slice f.sa f.ls.length f.sc) :=
  ⟨h.e1.c0, h.e1.c1, h.e1.c2, h.e1.c3, h.e1.c4, h.e2.c0, h.e2.c1, h.e2.c2, h.e2.c3, h.e2.c4⟩
theorem clash_comm (k o a k' o' a' : Int) : clashB k' o' a' k o a = clashB k o a k' o' a' := by
  unfold clashB
  cases accB k o a <;> cases accB k' o' a' <;> cases acc2 k o a <;> cases acc2 k' o' a' <;> simp [Bool.and_comm]
theorem clash_not {k o a k' o' a' : Int} (h : accB k o a = false ∨ accB k' o' a' = false) : clashB k o a k' o' a' = false := by
  unfold clashB
  rcases h with h | h <;> rw [h] <;> simp
theorem acc_not {k o a : Int} (h : accB k o a = false) : acc0 k o a = 0 ∧ acc1 k o a = 0 ∧ acc2 k o a = false := by
  unfold acc0 acc1 acc2; rw [h]; exact ⟨rfl, rfl, rfl⟩
theorem acc_yes {k o a : Int} (h : accB k o a = true) : acc0 k o a = o ∧ acc1 k o a = o + (a - 1) ∧ acc2 k o a = (k == 2) ∧ (k = 1 ∨ k = 2) ∧ 1 ≤ a ∧ a ≤ 64 ∧ o + (a - 1) ≤ 18446744073709551615 := by
  have h' := of_decide_eq_true h
  unfold acc0 acc1 acc2; rw [h]
  exact ⟨rfl, rfl, rfl, h'⟩
theorem clash_yes_eq {k o a k' o' a' : Int} (h1 : accB k o a = true) (h2 : accB k' o' a' = true) : clashB k o a k' o' a' = ((acc2 k o a || acc2 k' o' a') && decide (acc0 k o a ≤ acc1 k' o' a' ∧ acc0 k' o' a' ≤ acc1 k o a)) := by
  unfold clashB; rw [h1, h2]
  by_cases hx : acc0 k o a ≤ acc1 k' o' a' <;> by_cases hy : acc0 k' o' a' ≤ acc1 k o a <;> simp [hx, hy]
set_option maxRecDepth 8000 in
set_option maxHeartbeats 8000000 in
theorem touches_any (e f : Ev) (w : World) (h : Kr w) (ho : 0 ≤ e.o ∧ e.o ≤ 18446744073709551615) (ho' : 0 ≤ f.o ∧ f.o ≤ 18446744073709551615) :
    Calls Tryd.prog 5 #[.agg #[.int .i64 e.g, .int .i64 e.k, .int .u64 e.o, .int .u64 e.a, .slice e.sa e.ls.length e.sc], .agg #[.int .i64 f.g, .int .i64 f.k, .int .u64 f.o, .int .u64 f.a, .slice f.sa f.ls.length f.sc]] w fun r w' => r = .returned (.bool true) ∧ Below w.heap.size w w' := by
  obtain ⟨W1, hW1⟩ : ∃ W1, W1 = (w.alloc (.cells #[.int .i64 e.g, .int .i64 e.k, .int .u64 e.o, .int .u64 e.a, .slice e.sa e.ls.length e.sc] 35)).alloc (.cells #[.int .i64 f.g, .int .i64 f.k, .int .u64 f.o, .int .u64 f.a, .slice f.sa f.ls.length f.sc] 35) := ⟨_, rfl⟩
  have hD1 : Duo w W1 w.heap.size (w.heap.size + 1) e f := by
    have hb1 : Below w.heap.size w W1 := by rw [hW1]; exact (below_new w _).trans ((below_new _ _).mono (below_new w _).size)
    refine ⟨hb1, h.below hb1 (by have := h.size; omega), by rw [hW1]; exact EvB.below EvB.new (below_new _ _), ?_⟩
    have := EvB.new (w := w.alloc (.cells #[.int .i64 e.g, .int .i64 e.k, .int .u64 e.o, .int .u64 e.a, .slice e.sa e.ls.length e.sc] 35)) (g := f.g) (k := f.k) (o := f.o) (a := f.a) (sa := f.sa) (sn := f.ls.length) (sc := f.sc)
    rw [hW1]; simpa using this
  have HAl : Hid _ := hide (alive_any W1 hD1.kr)
  rw [hW1] at HAl
  have HD1 : Hid _ := hide hD1
  have HW1 : Hid _ := hide hW1
  have HQ1 : Hid (∀ W, Duo w W w.heap.size (w.heap.size + 1) e f → Calls Tryd.prog 15 #[.agg #[.int .i64 e.g, .int .i64 e.k, .int .u64 e.o, .int .u64 e.a, .slice e.sa e.ls.length e.sc]] W fun r w' => r = .returned (.tuple #[.int .u64 (acc0 e.k e.o e.a), .int .u64 (acc1 e.k e.o e.a), .bool (acc2 e.k e.o e.a), .bool (accB e.k e.o e.a)]) ∧ Below W.heap.size W w') := hide (fun W h => access_any _ _ _ _ _ _ _ W h.kr ho)
  have HQ2 : Hid (∀ W, Duo w W w.heap.size (w.heap.size + 1) e f → Calls Tryd.prog 15 #[.agg #[.int .i64 f.g, .int .i64 f.k, .int .u64 f.o, .int .u64 f.a, .slice f.sa f.ls.length f.sc]] W fun r w' => r = .returned (.tuple #[.int .u64 (acc0 f.k f.o f.a), .int .u64 (acc1 f.k f.o f.a), .bool (acc2 f.k f.o f.a), .bool (accB f.k f.o f.a)]) ∧ Below W.heap.size W w') := hide (fun W h => access_any _ _ _ _ _ _ _ W h.kr ho')
  have HQ3 : Hid (∀ W, Duo w W w.heap.size (w.heap.size + 1) e f → Calls Tryd.prog 16 #[.agg #[.int .i64 e.g, .int .i64 e.k, .int .u64 e.o, .int .u64 e.a, .slice e.sa e.ls.length e.sc], .agg #[.int .i64 f.g, .int .i64 f.k, .int .u64 f.o, .int .u64 f.a, .slice f.sa f.ls.length f.sc]] W fun r w' => r = .returned (.bool (clashB e.k e.o e.a f.k f.o f.a)) ∧ Below W.heap.size W w') := hide (fun W h => clash_any _ _ _ _ _ _ _ _ _ _ _ _ _ _ W h.kr ho ho')
  have HQ4 : Hid (∀ W, Duo w W w.heap.size (w.heap.size + 1) e f → Calls Tryd.prog 16 #[.agg #[.int .i64 f.g, .int .i64 f.k, .int .u64 f.o, .int .u64 f.a, .slice f.sa f.ls.length f.sc], .agg #[.int .i64 e.g, .int .i64 e.k, .int .u64 e.o, .int .u64 e.a, .slice e.sa e.ls.length e.sc]] W fun r w' => r = .returned (.bool (clashB e.k e.o e.a f.k f.o f.a)) ∧ Below W.heap.size W w') := hide (fun W h => by
    have := clash_any f.g f.k f.o f.a f.sa f.ls.length f.sc e.g e.k e.o e.a e.sa e.ls.length e.sc W h.kr ho' ho
    rwa [clash_comm] at this)
  have hcn := @clash_not e.k e.o e.a f.k f.o f.a
  have hcy := @clash_yes_eq e.k e.o e.a f.k f.o f.a
  have hen := @acc_not e.k e.o e.a
  have hfn := @acc_not f.k f.o f.a
  have hey := @acc_yes e.k e.o e.a
  have hfb := @acc_bd f.k f.o f.a ho'.1
  have HCN : Hid _ := hide hcn
  have HCY : Hid _ := hide hcy
  have HEN : Hid _ := hide hen
  have HFN : Hid _ := hide hfn
  have HEY : Hid _ := hide hey
  have HFB : Hid _ := hide hfb
  have HHO : Hid _ := hide ho
  clear hW1 hD1 h hcn hcy hen hfn hey hfb ho ho'
  obtain ⟨eg, ek, eo, ea, esa, esc, els⟩ := e
  obtain ⟨fg, fk, fo, fa, fsa, fsc, fls⟩ := f
  dsimp only at HAl HW1 HQ1 HQ2 HQ3 HQ4 HCN HCY HEN HFN HEY HFB HHO ⊢
  go_enter Tryd.func5, Tryd.ntmps5
  go_wp2_with fail
  refine HAl.out.mono ?_
  rw [← HW1.out]
  rintro r w2 ⟨rfl, hb2⟩
  have HD2 : Hid _ := hide (HD1.out.below hb2)
  have HC1 : Hid _ := hide (HQ1.out w2 HD2.out)
  clear HAl HW1 hb2 HD1 HQ1
  have A2 := HD2.out.cells
  dsimp only at A2
  obtain ⟨p0, p1, p2, p3, p4, _⟩ := A2
  go_wp2_with fail
  refine HC1.out.mono ?_
  rintro r w3 ⟨rfl, hb3⟩
  have HD3 : Hid _ := hide (HD2.out.below hb3)
  have HC2 : Hid _ := hide (HQ2.out w3 HD3.out)
  clear HC1 hb3 HD2 HQ2 p0 p1 p2 p3 p4
  have A3 := HD3.out.cells
  dsimp only at A3
  obtain ⟨_, _, _, _, _, p0, p1, p2, p3, p4⟩ := A3
  go_wp2_with fail
  refine HC2.out.mono ?_
  rintro r w4 ⟨rfl, hb4⟩
  have HD4 : Hid _ := hide (HD3.out.below hb4)
  have HC3 : Hid _ := hide (HQ3.out w4.drew (HD4.out.drewN 1))
  clear HC2 hb4 HD3 HQ3 p0 p1 p2 p3 p4
  have A4 := HD4.out.cells
  dsimp only at A4
  generalize clashB ek eo ea fk fo fa = X at HC3 HQ4 HCN HCY
  go_wp2
  go_region_held3 (fun W => W.cell? ⟨w.heap.size, 0, none⟩ = some (.int .i64 eg) ∧ W.cell? ⟨w.heap.size, 1, none⟩ = some (.int .i64 ek) ∧ W.cell? ⟨w.heap.size, 2, none⟩ = some (.int .u64 eo) ∧ W.cell? ⟨w.heap.size, 3, none⟩ = some (.int .u64 ea) ∧ W.cell? ⟨w.heap.size, 4, none⟩ = some (.slice esa els.length esc) ∧ W.cell? ⟨w.heap.size + 1, 0, none⟩ = some (.int .i64 fg) ∧ W.cell? ⟨w.heap.size + 1, 1, none⟩ = some (.int .i64 fk) ∧ W.cell? ⟨w.heap.size + 1, 2, none⟩ = some (.int .u64 fo) ∧ W.cell? ⟨w.heap.size + 1, 3, none⟩ = some (.int .u64 fa) ∧ W.cell? ⟨w.heap.size + 1, 4, none⟩ = some (.slice fsa fls.length fsc)) (first | exact A4 | exact A5 | exact A6) (first
    | (go_at_call 16; refine (HQ4.out w5 H5.out).mono ?_; rintro r w6 ⟨rfl, hb6⟩; have H6 : Hid _ := hide (H5.out.below hb6); have A6 := H6.out.cells; dsimp only at A6; clear hb6)
    | (go_at_call 16; refine HC3.out.mono ?_; rintro r w5 ⟨rfl, hb5⟩; have H5 : Hid _ := hide ((HD4.out.drewN 1).below hb5); have A5 := H5.out.cells; dsimp only at A5; clear hb5))
  clear A4 A5 HC3 HQ4 HD4 H5
  have hXX : (X != X) = false := by simp
  cases hE : accB ek eo ea
  · obtain ⟨z0, z1, z2⟩ := HEN.out hE
    rw [z0, z1, z2]
    obtain rfl := HCN.out (.inl hE)
    cases hF : accB fk fo fa
    · obtain ⟨y0, y1, y2⟩ := HFN.out hF
      rw [y0, y1, y2]
      go_wp2
      go_ret
      exact ⟨rfl, H6.out.bel⟩
    · go_wp2
      go_ret
      exact ⟨rfl, H6.out.bel⟩
  · cases hF : accB fk fo fa
    · obtain ⟨y0, y1, y2⟩ := HFN.out hF
      rw [y0, y1, y2]
      obtain rfl := HCN.out (.inr hF)
      go_wp2
      go_ret
      exact ⟨rfl, H6.out.bel⟩
    · have hX := HCY.out hE hF
      obtain ⟨z0, z1, z2, zk, za1, za2, zl⟩ := HEY.out hE
      have hb := HFB.out
      rw [z0, z1, z2] at hX
      rw [z0, z1, z2]
      obtain ⟨x1, hx1⟩ : ∃ x1, x1 = eo + (ea - 1) := ⟨_, rfl⟩
      rw [← hx1] at hX zl ⊢
      generalize acc0 fk fo fa = y0 at hX hb ⊢
      generalize acc1 fk fo fa = y1 at hX hb ⊢
      generalize acc2 fk fo fa = y2 at hX ⊢
      obtain ⟨by1, by2, by3, by4⟩ := hb
      obtain ⟨ho1, ho2⟩ := HHO.out
      obtain ⟨a0, a1, a2, a3, a4, _⟩ := A6
      have HX : Hid _ := hide hX
      have w1 : IntKind.u64.wrap (x1 - eo) = x1 - eo := by rw [IntKind.wrap_u64]; omega
      have w2 : IntKind.u64.wrap (ea - 1) = ea - 1 := by rw [IntKind.wrap_u64]; omega
      have w3 : IntKind.u64.wrap (y1 - y0) = y1 - y0 := by rw [IntKind.wrap_u64]; omega
      have f1 : ((x1 - eo) != (ea - 1)) = false := by rw [bne_eq_false_iff_eq]; omega
      have f2 : decide (x1 < eo) = false := by simp; omega
      have f3 : (eo != eo) = false := by simp
      have f4 : (decide ((63 : Int) < x1 - eo)) = false := by simp; omega
      have hbk : ∃ b : Bool, (ek == 2) = b ∧ (ek != 1) = b ∧ (ek != 2) = !b := by
        rcases zk with rfl | rfl
        · exact ⟨false, rfl, rfl, rfl⟩
        · exact ⟨true, rfl, rfl, rfl⟩
      obtain ⟨bk, k1, k2, k3⟩ := hbk
      rw [k1] at HX ⊢
      have f5 : (bk != bk) = false := by simp
      clear zk z0 z1 z2 hX HEN HFN HEY HCY HCN HFB HHO hE hF
      clear a0 a1 a2 a3 a4
      have HK : Hid _ := hide H6.out.bel
      cases bk <;> (
        obtain ⟨_, a1, a2, a3, _, _⟩ := H6.out.cells
        dsimp only at a1 a2 a3
        go_wp2
        clear a1 a2 a3 f1 f2 f3 f4 f5 k1 k2 k3 w2 hXX
        go_loopw [16, 17] (fun cm i wr => ∃ (cb : Bool) (j : Int), 0 ≤ j ∧ j ≤ x1 - eo + 1 ∧ i = .int .u64 j ∧ cm = .bool cb ∧ wr = w6 ∧ (cb = true ↔ ∃ t, 0 ≤ t ∧ t < j ∧ y0 ≤ eo + t ∧ eo + t ≤ y1)) (fun _ i _ => (x1 - eo + 1 - intOf i).toNat)
        case atStart => exact ⟨false, 0, by omega, by omega, rfl, rfl, rfl, by simp; intro t h1 h2; omega⟩
        case round =>
          obtain ⟨cb, j, hj0, hj1, rfl, rfl, rfl, hcb⟩ := hrel
          by_cases hlt : j ≤ x1 - eo
          · have w4 : IntKind.u64.wrap (eo + j) = eo + j := by rw [IntKind.wrap_u64]; omega
            have w5 : IntKind.u64.wrap (j + 1) = j + 1 := by rw [IntKind.wrap_u64]; omega
            have HCB : Hid _ := hide hcb
            clear hcb
            go_wp2
            rename World => Wk
            go_loopw [16, 18] (fun cm i wq => ∃ (cb' : Bool) (q : Int), 0 ≤ q ∧ q ≤ y1 - y0 + 1 ∧ i = .int .u64 q ∧ cm = .bool cb' ∧ wq = Wk ∧ (cb' = true ↔ (cb = true ∨ ∃ s, 0 ≤ s ∧ s < q ∧ eo + j = y0 + s))) (fun _ i _ => (y1 - y0 + 1 - intOf i).toNat)
            case atStart => exact ⟨cb, 0, by omega, by omega, rfl, rfl, rfl, by
              constructor
              · intro h; exact .inl h
              · rintro (h | ⟨s, h1, h2, _⟩)
                · exact h
                · omega⟩
            case round =>
              obtain ⟨cb', q, hq0, hq1, rfl, rfl, rfl, hcb'⟩ := hrel
              by_cases hql : q ≤ y1 - y0
              · have d64 : decide (q < 64) = true := by simp; omega
                have dq : decide (q ≤ y1 - y0) = true := by simp; omega
                have w6' : IntKind.u64.wrap (y0 + q) = y0 + q := by rw [IntKind.wrap_u64]; omega
                have w7 : IntKind.u64.wrap (q + 1) = q + 1 := by rw [IntKind.wrap_u64]; omega
                by_cases heq : eo + j = y0 + q
                · have e1 : (eo + j == y0 + q) = true := by rw [beq_iff_eq]; exact heq
                  have HN : Hid (true = true ↔ (cb = true ∨ ∃ s, 0 ≤ s ∧ s < q + 1 ∧ eo + j = y0 + s)) := hide ⟨fun _ => .inr ⟨q, hq0, by omega, heq⟩, fun _ => rfl⟩
                  clear hcb' heq
                  go_wp2
                  exact ⟨⟨true, q + 1, by omega, by omega, by go_num, rfl, by trivial, HN.out⟩, by simp [intOf]; omega⟩
                · have e1 : (eo + j == y0 + q) = false := by rw [beq_eq_false_iff_ne]; exact heq
                  have HN : Hid (cb' = true ↔ (cb = true ∨ ∃ s, 0 ≤ s ∧ s < q + 1 ∧ eo + j = y0 + s)) := hide (by
                    rw [hcb']
                    constructor
                    · rintro (h | ⟨s, h1, h2, h3⟩)
                      · exact .inl h
                      · exact .inr ⟨s, h1, by omega, h3⟩
                    · rintro (h | ⟨s, h1, h2, h3⟩)
                      · exact .inl h
                      · refine .inr ⟨s, h1, ?_, h3⟩
                        by_cases e : s = q
                        · subst e; exact absurd h3 heq
                        · omega)
                  clear hcb' heq
                  go_wp2
                  exact ⟨⟨cb', q + 1, by omega, by omega, by go_num, rfl, by trivial, HN.out⟩, by simp [intOf]; omega⟩
              · have dq : decide (q ≤ y1 - y0) = false := by simp; omega
                have HN : Hid (cb' = true ↔ ∃ t, 0 ≤ t ∧ t < j + 1 ∧ y0 ≤ eo + t ∧ eo + t ≤ y1) := hide (by
                  rw [hcb', HCB.out]
                  constructor
                  · rintro (⟨t, h1, h2, h3⟩ | ⟨s, h1, h2, h3⟩)
                    · exact ⟨t, h1, by omega, h3⟩
                    · exact ⟨j, hj0, by omega, by omega, by omega⟩
                  · rintro ⟨t, h1, h2, h3, h4⟩
                    by_cases e : t = j
                    · subst e; exact .inr ⟨eo + t - y0, by omega, by omega, by omega⟩
                    · exact .inl ⟨t, h1, by omega, h3, h4⟩)
                clear hcb'
                go_wp2
                exact ⟨⟨cb', j + 1, by omega, by omega, by go_num, rfl, by trivial, HN.out⟩, by simp [intOf]; omega⟩
          · have hX2 := HX.out
            have hdec : decide (eo ≤ y1 ∧ y0 ≤ x1) = cb := by
              rw [Bool.eq_iff_iff, hcb, decide_eq_true_eq]
              constructor
              · rintro ⟨h1, h2⟩
                by_cases e : eo ≤ y0
                · exact ⟨y0 - eo, by omega, by omega, by omega, by omega⟩
                · exact ⟨0, by omega, by omega, by omega, by omega⟩
              · rintro ⟨t, h1, h2, h3, h4⟩
                exact ⟨by omega, by omega⟩
            rw [hdec] at hX2
            clear hcb hdec HX
            cases cb <;> cases y2 <;> (
              subst hX2
              go_wp2
              go_ret
              exact ⟨rfl, HK.out⟩))
end Go.Proofs.YtifbehkdhalfcaaDoor
