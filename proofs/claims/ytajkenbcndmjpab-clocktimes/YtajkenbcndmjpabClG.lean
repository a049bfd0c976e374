/-
  Meet.
-/
import Derived.Test.YtajkenbcndmjpabClF
import Derived.Laws.MakeOwn
namespace Go.Proofs.Ytajkenbcndmjpab
open Go.RowKit Go.Maps Go.Shelf
attribute [local go_sem] Oper.semAt_some
set_option maxRecDepth 100000 in
set_option maxHeartbeats 4000000 in
theorem meet_bad (aa ab : Option Addr) (na ca nb cb : Nat) (A B : List Tk) (w : World) (hA : TRow layT w aa na A) (hB : TRow layT w ab nb B) (hna : (na : Int) ≤ 8796093022208) (hnb : (nb : Int) ≤ 8796093022208) (h : gd 0 A = false ∨ gd 0 B = false) :
    Calls Try.prog 31 #[.slice aa na ca, .slice ab nb cb] w fun e w' => e = .returned (.tuple #[.slice none 0 0, .int .i64 170]) ∧ Below w.heap.size w w' := by
  have HGa := hide (fun V (hV : Below w.heap.size w V) => good_any aa na ca A V (hA.below hV) hna)
  have HGb := hide (fun V (hV : Below w.heap.size w V) => good_any ab nb cb B V (hB.below hV) hnb)
  clear hA hB
  cases hga : gd 0 A with
  | false =>
    rw [hga] at HGa
    clear hga h
    go_enter Try.func31, Try.ntmps31
    go_wp2_with fail
    refine (HGa.out w (Below.refl _ _)).mono ?_
    rintro e w1 ⟨rfl, hb1⟩
    have HB1 := hide hb1
    clear hb1
    go_wp2
    go_ret2
    exact ⟨rfl, HB1.out⟩
  | true =>
    have hgb : gd 0 B = false := by rcases h with h | h; · rw [hga] at h; cases h
                                    · exact h
    rw [hga] at HGa
    rw [hgb] at HGb
    clear hga hgb h
    go_enter Try.func31, Try.ntmps31
    go_wp2_with fail
    refine (HGa.out w (Below.refl _ _)).mono ?_
    rintro e w1 ⟨rfl, hb1⟩
    have HB1 := hide hb1
    clear hb1
    go_wp2_with fail
    refine (HGb.out w1 HB1.out).mono ?_
    rintro e w2 ⟨rfl, hb2⟩
    have HB2 := hide (Below.on HB1.out hb2)
    clear hb2
    go_wp2
    go_ret2
    exact ⟨rfl, HB2.out⟩
set_option maxRecDepth 100000 in
set_option maxHeartbeats 4000000 in
theorem meet_ok (aa ab : Option Addr) (na ca nb cb : Nat) (A B : List Tk) (w : World) (hA : TRow layT w aa na A) (hB : TRow layT w ab nb B) (hca : na ≤ ca) (hcb : nb ≤ cb) (ha : gd 0 A = true) (hb : gd 0 B = true) :
    Calls Try.prog 31 #[.slice aa na ca, .slice ab nb cb] w fun e w' => ∃ v J, e = .returned (.tuple #[v, .int .i64 0]) ∧ Own layT 43 w' w.heap.size v J ∧ gd 0 J = true ∧ (∀ g, tm g J = min (tm g A) (tm g B)) ∧ Below w.heap.size w w' := by
  have hla := gd_len0 ha
  have hlb := gd_len0 hb
  rw [hA.len] at hla
  rw [hB.len] at hlb
  have hna : (na : Int) ≤ 8796093022208 := by omega
  have hnb : (nb : Int) ≤ 8796093022208 := by omega
  have HGa := hide (fun V (hV : Below w.heap.size w V) => good_any aa na ca A V (hA.below hV) hna)
  have HGb := hide (fun V (hV : Below w.heap.size w V) => good_any ab nb cb B V (hB.below hV) hnb)
  rw [ha] at HGa
  rw [hb] at HGb
  obtain ⟨M, hM⟩ : ∃ M : Nat, M = min na nb := ⟨_, rfl⟩
  have hmx : min (na : Int) (nb : Int) = (M : Int) := by omega
  have hMl : M ≤ 65536 := by omega
  have HA := hide ha
  have HB := hide hb
  have TA := hide hA
  have TB := hide hB
  have HC := hide (And.intro hca hcb)
  have HML := hide hMl
  clear hA hB ha hb hca hcb hna hnb hla hlb hM hMl
  obtain ⟨i0, hi, hz0, hz1, hz2⟩ := info_parts Try.infoT
  refine (callsIn_wide (n := 4)).1 ?_
  refine callsIn_of_wp_marks Try.func31 rfl trivial ?_ rfl
  simp only [Try.ntmps31, List.size_toArray, List.length_cons, List.length_nil, Nat.reduceAdd, Nat.reduceSub, Array.replicate_succ, Array.replicate_zero, List.push_toArray, List.append_toArray, List.nil_append, List.cons_append]
  gi_wp2_with fail
  refine ⟨trivial, CallsIn.mono (callsIn_wide.2 (HGa.out w (Below.refl _ _))) ?_⟩
  rintro e w1 ⟨rfl, hb1⟩
  have HB1 := hide hb1
  clear hb1
  gi_wp2_with fail
  refine ⟨trivial, CallsIn.mono (callsIn_wide.2 (HGb.out w1 HB1.out)) ?_⟩
  rintro e w2 ⟨rfl, hb2⟩
  have HB2 := hide (Below.on HB1.out hb2)
  clear hb2 HB1
  obtain ⟨w3, hmk, own3, gr3⟩ := run_make_own (P := Try.prog) w2 w2.heap.size 22 43 i0 _ 2 Try.underlying22 hi hz0 hz1 .i64 .i64 M (by rw [hz2]; have := HML.out; omega) (by unfold maxLen; have := HML.out; omega) (Nat.le_refl _)
  have b23 : Below w2.heap.size w2 w3 := (Below.refl w2.heap.size w2).grown gr3 (Nat.le_refl _) (fun k h => by cases h)
  have HO3 : Hid (Own layT 43 w3 w2.heap.size (.slice (some ⟨w2.heap.size, 0, none⟩) 0 M) []) := hide own3
  have hsz3 : w2.heap.size < w3.heap.size := by
    obtain ⟨cu, hcu⟩ := own_ty HO3.out (b := w2.heap.size) rfl
    exact get_lt' hcu
  obtain ⟨W3, hW3⟩ : ∃ W3, W3 = w3.alloc (.cells #[.slice (some ⟨w2.heap.size, 0, none⟩) 0 M] 22) := ⟨_, rfl⟩
  have hj : W3.heap[w3.heap.size]? = some (.cells #[.slice (some ⟨w2.heap.size, 0, none⟩) 0 M] 22 (0, 0)) := by rw [hW3]; exact heap_new _ _
  have b33 : Below w3.heap.size w3 W3 := by rw [hW3]; exact below_alloc1 _ _
  have HOW : Hid (Own layT 43 W3 w2.heap.size (.slice (some ⟨w2.heap.size, 0, none⟩) 0 M) []) := hide (HO3.out.below b33)
  have HBW := hide (Below.on HB2.out (Below.on b23 b33))
  have hs33 : W3.heap.size = w3.heap.size + 1 := by rw [hW3]; simp
  have HJ3 := hide hj
  have HSZ : Hid (w2.heap.size < w3.heap.size ∧ W3.heap.size = w3.heap.size + 1) := hide ⟨hsz3, hs33⟩
  have HS2 : Hid (w.heap.size ≤ w2.heap.size) := hide HB2.out.size
  clear own3 gr3 b23 b33 hj hs33 hsz3 HO3
  gi_wp2_with fail
  rw [← hW3]
  clear hW3 hmk
  refine ⟨trivial, CallsIn.mono (callsIn_wide.2 (both_any aa ab na ca nb cb W3)) ?_⟩
  rintro e w4 ⟨rfl, hw4⟩
  have b34 : Below W3.heap.size W3 w4 := by rw [hw4]; exact below_alloc2 _ _ _
  have HB4 := hide (Below.on HBW.out b34)
  have HX1 : Hid (w4.heap[W3.heap.size]? = some (.cells #[.slice aa na ca] 22 (0, 0))) := hide (by rw [hw4]; exact heap_old (heap_new _ _))
  have HX2 : Hid (w4.heap[W3.heap.size + 1]? = some (.cells #[.slice ab nb cb] 22 (0, 0))) := hide (by rw [hw4]; exact heap_new2 _ _ _)
  have HJ4 : Hid (w4.heap[w3.heap.size]? = some (.cells #[.slice (some ⟨w2.heap.size, 0, none⟩) 0 M] 22 (0, 0))) := hide ((b34.block _ (get_lt' HJ3.out)).trans HJ3.out)
  have HO4 : Hid (Own layT 43 w4 w2.heap.size (.slice (some ⟨w2.heap.size, 0, none⟩) 0 M) []) := hide (HOW.out.below b34)
  have HZ : Hid (w4.heap.size = w3.heap.size + 3 ∧ W3.heap.size = w3.heap.size + 1 ∧ w2.heap.size < w3.heap.size ∧ w.heap.size ≤ w2.heap.size) := hide (by
    have h1 : w4.heap.size = W3.heap.size + 2 := by rw [hw4]; simp
    have h2 := HSZ.out
    have h3 := HS2.out
    omega)
  clear hw4 b34 HJ3 HOW HBW HSZ HS2
  gi_wp2_with fail
  refine range_turn (n := 4) (by omega) (gf := 45) (lb := #[.pointer (some ⟨W3.heap.size, 0, none⟩), .pointer (some ⟨W3.heap.size + 1, 0, none⟩)]) rfl (enters_of Try.func45 (by kernel_rfl) rfl) (σ := List Tk × List Tk) (ε := Int × Int × Int)
    (fun x => #[.int .i64 x.1, .agg #[.int .i64 x.2.1, .int .i64 x.2.2]]) (fun _ => rfl) (fun s W => JnI (fun x y => min x y) A B w2.heap.size w3.heap.size w4 s W) (fun _ => False) (fun s => s = ([], [])) (A, B) Stp ?hI ?hIx ?hIb ?hTk ?h0 ?hseq
    (fun x W a1 W3' => W3' = W.alloc (.cells #[.int .i64 x.2.1, .int .i64 x.2.2] 66) ∧ a1 = { tmps := #[.slice aa na ca, .slice ab nb cb, undef, undef, .slice none 0 0, .int .i64 0, .pointer (some ⟨w3.heap.size, 0, none⟩), .int .i64 x.1, .pointer (some ⟨W.heap.size, 0, none⟩), .slice aa na ca, .bool true, .bool false, .bool false, .slice ab nb cb, .bool true, .bool false, .bool false, .slice aa na ca, .int .i64 na, .slice ab nb cb, .int .i64 nb, .int .i64 M, .slice (some ⟨w2.heap.size, 0, none⟩) 0 M, .slice aa na ca, .slice ab nb cb,
      .func (.func 45) #[] #[.pointer (some ⟨W3.heap.size, 0, none⟩), .pointer (some ⟨W3.heap.size + 1, 0, none⟩)], .int .i64 x.1, .agg #[.int .i64 x.2.1, .int .i64 x.2.2], undef, undef, undef, undef, undef, undef, undef, undef, undef], defers := [] }) ?hA ?hassign ?hbody ?hdone ?hstop
  case hI =>
    rintro s W o o' h hl
    have z := HZ.out
    exact h.put (by omega) (by omega) hl o'
  case hIx =>
    rintro W o o' h hl
    exact h
  case hIb =>
    rintro s W W' h hb
    exact h.below hb
  case hTk =>
    rintro s x W W2 s2 _ tk
    exact ⟨fun o ho => (tk.bel.block _ (get_lt' ho)).trans ho, fun ho => (tk.bel.block _ (get_lt' ho)).trans ho⟩
  case h0 => exact ⟨_, _, 0, Rst.start HA.out HB.out, Mde.start (by decide) HA.out HB.out, HJ4.out, HO4.out, But.refl _ _, fun q hq => .inl (by have e9 : some w2.heap.size = some q := hq; injection e9 with e9; exact e9.symm)⟩
  case hseq =>
    intro l J Jx W hJI hJb hY hJ0
    refine both1_in 3 (by omega) l W3.heap.size (W3.heap.size + 1) aa ab na ca nb cb A B J Jx (fun s W1 hj => ?_) hJb HA.out HB.out HC.out.1 HC.out.2 hY W hJ0
    have hb := (hJI s W1 hj).but
    have z := HZ.out
    have b01 : Below w.heap.size w W1 := HB4.out.trans (hb.below HB4.out.size (fun k hk => by omega))
    exact ⟨cell_at ((hb.block _ (get_lt' HX1.out) (by omega)).trans HX1.out) rfl, cell_at ((hb.block _ (get_lt' HX2.out) (by omega)).trans HX2.out) rfl, TA.out.below b01, TB.out.below b01⟩
  case hA =>
    rintro x W a1 W3 ⟨rfl, _⟩
    exact below_alloc1 _ _
  case hassign =>
    intro l s x s2 W W2 K hI tk hK
    gi_wp2
  case hbody =>
    intro l s x s2 W W2 a1 W3' o o' hI tk hA hlt hl hd
    obtain ⟨rfl, rfl⟩ := hA
    have z := HZ.out
    obtain ⟨U, hU⟩ : ∃ U, U = (W2.alloc (.cells #[.int .i64 x.2.1, .int .i64 x.2.2] 66)).putObj (w4.heap.size + 1) (.loop o') := ⟨_, rfl⟩
    rw [← hU]
    have hne : ¬ W2.heap.size = w4.heap.size + 1 := fun e => by
      rw [← e, World.alloc_heap_new] at hl
      cases hl
    have hIU := ((hI.below tk.bel).below (below_alloc1 W2 (.cells #[.int .i64 x.2.1, .int .i64 x.2.2] 66))).put (by omega) (by omega) hl (.loop o')
    rw [← hU] at hIU
    have t0 : U.heap[W2.heap.size]? = some (.cells #[.int .i64 x.2.1, .int .i64 x.2.2] 66 (0, 0)) := by rw [hU]; exact (World.putObj_heap_other hne).trans (heap_new _ _)
    have c0 : U.cell? ⟨W2.heap.size, 0, none⟩ = some (.int .i64 x.2.1) := cell_at t0 rfl
    have c1 : U.cell? ⟨W2.heap.size, 1, none⟩ = some (.int .i64 x.2.2) := cell_at t0 rfl
    have HL : Hid (U.heap[w4.heap.size + 1]? = some (.loop o')) := hide (by rw [hU]; exact World.putObj_heap_same (get_lt' hl))
    have HD : Hid (U.heap[w4.heap.size]? = some (.deferred (some []))) := hide (by rw [hU]; exact (World.putObj_heap_other (by omega)).trans hd)
    obtain ⟨v, J, m, h1, h2, h3, h4, h5, h6⟩ := hIU
    have hlen := gd_len0 h2.gj
    have hsU : w2.heap.size ≤ U.heap.size := by have := h5.size; omega
    have HP := hide (put_any w2.heap.size v J x.1 (min x.2.1 x.2.2) U h4 (by omega) hsU)
    have jc : U.cell? ⟨w3.heap.size, 0, none⟩ = some v := cell_at h3 rfl
    have HT := hide tk
    have HI5 : Hid (∃ (_ : Rst A B m s.1 s.2) (_ : Mde (fun x y => min x y) A B m J) (_ : U.heap[w3.heap.size]? = some (.cells #[v] 22 (0, 0))) (_ : Own layT 43 U w2.heap.size v J) (_ : But (fun k => k = w2.heap.size ∨ k = w3.heap.size) w4 U), ∀ q, v.ownBlock = some q → q = w2.heap.size ∨ w4.heap.size ≤ q) := hide ⟨h1, h2, h3, h4, h5, h6⟩
    obtain ⟨a0, c0', rfl, -, -⟩ := own_form h4
    obtain ⟨xg, x1, x2⟩ := x
    dsimp only at c0 c1 HP HT ⊢
    obtain ⟨mx, hmx1⟩ : ∃ mx, min x1 x2 = mx := ⟨_, rfl⟩
    rw [hmx1] at HP
    have HMX := hide hmx1
    generalize hJn : J.length = jn at *
    clear hI tk hU hne t0 h1 h2 h3 h4 h5 h6 hlen hsU hl hd hlt z hmx
    gi_wp2_with fail
    refine ⟨trivial, CallsIn.mono (callsIn_wide.2 HP.out) ?_⟩
    rintro e w5 ⟨v', rfl, o5, b5, l5⟩
    obtain ⟨g1, g2, g3, g4, g5, g6⟩ := HI5.out
    obtain ⟨jb5, d5, l5'⟩ : w5.heap[w3.heap.size]? = some (.cells #[.slice a0 jn c0'] 22 (0, 0)) ∧ w5.heap[w4.heap.size]? = some (.deferred (some [])) ∧ w5.heap[w4.heap.size + 1]? = some (.loop o') := by
      refine ⟨(b5.block _ (get_lt' g3) (fun e => own_ne_cells g4 g3 (by decide) e)).trans g3, (b5.block _ (get_lt' HD.out) (fun e => ?_)).trans HD.out, (b5.block _ (get_lt' HL.out) (fun e => ?_)).trans HL.out⟩
      · obtain ⟨cu, hcu⟩ := own_ty g4 e
        rw [HD.out] at hcu
        cases hcu
      · obtain ⟨cu, hcu⟩ := own_ty g4 e
        rw [HL.out] at hcu
        cases hcu
    have jc5 : w5.cell? ⟨w3.heap.size, 0, none⟩ = some (.slice a0 jn c0') := cell_at jb5 rfl
    have fz5 := frz jb5 0
    obtain ⟨a2, n2, rfl, -, -⟩ := own_form o5
    have HO5 := hide o5
    have HB5 := hide b5
    have HL5 := hide l5
    have HJ5 := hide jb5
    have HD5 := hide d5
    have HLo5 := hide l5'
    generalize hPn : (pt J xg mx).length = pn at *
    clear g1 g2 g3 g4 g5 g6 jb5 d5 l5' o5 b5 l5 jc c0 c1
    gi_wp2
    obtain ⟨g1, g2, g3, g4, g5, g6⟩ := HI5.out
    have z := HZ.out
    have hst := g1.step HT.out.ne
    obtain ⟨s1, s3, s4, s5, s6, s7⟩ := hst
    have hx1 : xg = nx s.1 s.2 := HT.out.x1
    have hx2 : x1 = tm xg A := by rw [hx1, ← s4]; exact HT.out.x2
    have hx3 : x2 = tm xg B := by rw [hx1, ← s5]; exact HT.out.x3
    have hmd := g2.step (g := xg) (by decide) (fun x y hx hy => by omega) HA.out HB.out (by rw [hx1]; exact s1) (by rw [hx1]; exact s3) g1.m0 (by rw [hx1]; exact s6)
    have hmx9 : mx = min (tm xg A) (tm xg B) := by rw [← HMX.out, hx2, hx3]
    have hbs := but_setC w5 ⟨w3.heap.size, 0, none⟩ (.slice a2 pn n2)
    have hbb : But (fun k => k = w2.heap.size ∨ k = w3.heap.size) w4 w5 := g5.trans HB5.out (fun q hq e => (g6 q e).elim .inl (fun h => absurd hq (by omega)))
    have hod : ¬ (Value.slice a2 pn n2).ownBlock = some w3.heap.size := fun e => own_ne_cells HO5.out HJ5.out (by decide) e
    refine ⟨⟨.slice a2 pn n2, pt J xg mx, xg + 1, ?_, ?_, set1_heap _ HJ5.out, ?_, hbb.trans hbs (fun _ _ e => .inr e), ?_⟩, ?_, ?_⟩
    · rw [hx1, HT.out.s1, HT.out.s3]; exact s7
    · rw [hmx9]; exact hmd
    · exact HO5.out.but hbs (fun q hq e => hod (by rw [hq, e]))
    · intro q hq
      have hs5 := HB5.out.size
      have hs4 := g5.size
      rcases HL5.out with e | ⟨q', e, hle⟩
      · rw [hq] at e
        exact g6 q e.symm
      · rw [hq] at e
        injection e with e
        exact .inr (by omega)
    · exact (hbs.block _ (get_lt' HD5.out) (by dsimp only; omega)).trans HD5.out
    · exact (hbs.block _ (get_lt' HLo5.out) (by dsimp only; omega)).trans HLo5.out
  case hdone =>
    rintro s W rfl h hd
    obtain ⟨v, J, m, h1, h2, h3, h4, h5, h6⟩ := h
    have hdn := h2.done (by decide) h1
    have z := HZ.out
    have BW : Below w.heap.size w W := HB4.out.trans (h5.below HB4.out.size (fun k hk => by omega))
    have jc : W.cell? ⟨w3.heap.size, 0, none⟩ = some v := cell_at h3 rfl
    have HDn := hide hdn
    have HD := hide hd
    have HBW := hide BW
    have HO := hide (h4.mono z.2.2.2)
    have hdo : ¬ v.ownBlock = some w4.heap.size := fun e => by
      obtain ⟨cu, hcu⟩ := own_ty h4 e
      rw [hd] at hcu
      cases hcu
    have HDO := hide hdo
    obtain ⟨a0, c0', rfl, -, -⟩ := own_form h4
    generalize hJn : J.length = jn at *
    clear h1 h2 h3 h4 h5 h6 hdn hd BW hdo hmx z
    gi_wp2_with fail
    have z := HZ.out
    refine ⟨by simp, .inl ⟨_, _, rfl, run_takeDeferred HD.out, ?_⟩⟩
    have hp := but_put W w4.heap.size (.deferred .none)
    refine ⟨_, results_tmp2 rfl _ _ _, _, J, rfl, HO.out.but hp (fun q hq e => HDO.out (by rw [hq, e])), HDn.out.1, HDn.out.2, HBW.out.trans (hp.below HBW.out.size (fun k hk => by have e : k = w4.heap.size := hk; omega))⟩
  case hstop =>
    rintro X h hd
    exact h.elim
end Go.Proofs.Ytajkenbcndmjpab
