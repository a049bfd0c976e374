/-
  Leq, Apart.
-/
import Derived.Test.YtajkenbcndmjpabRgT
namespace Go.Proofs.Ytajkenbcndmjpab
open Go.RowKit Go.Maps Go.Shelf
attribute [local go_sem] Oper.semAt_some
theorem get_lt' {w : World} {q : Nat} {o : Obj} (h : w.heap[q]? = some o) : q < w.heap.size := (Array.getElem?_eq_some_iff.1 h).1
theorem heap_old {w : World} {q : Nat} {o ob : Obj} (h : w.heap[q]? = some ob) : (w.alloc o).heap[q]? = some ob := (Below.heap_alloc _ _ _ (get_lt' h)).trans h
theorem but_setC (W : World) (p : Addr) (v : Value) : But (fun q => q = p.block) W (W.setCell p v) := (But.refl (fun q => q = p.block) W).setCell p (fun _ => rfl) v
theorem load_bool {w : World} {g : Nat} {v : Value} {t : TypeId} (h : w.heap[g]? = some (.cells #[v] t (0, 0))) : (loadVar 4 ⟨g, 0, none⟩).run Try.prog w = .ok v w := by
  have c : w.cell? ⟨g, 0, none⟩ = some v := cell_at h rfl
  go_simp
theorem load_err {w : World} {g : Nat} {v : Value} {t : TypeId} (h : w.heap[g]? = some (.cells #[v] t (0, 0))) : (loadVar 25 ⟨g, 0, none⟩).run Try.prog w = .ok v w := by
  have c : w.cell? ⟨g, 0, none⟩ = some v := cell_at h rfl
  go_simp
theorem results_cc {P : Program} {fn : Func} {t u : Tmp} {ti te : TypeId} (h : fn.results = #[.cell t ti, .cell u te]) (tmps : Array Value) (w : World) (g1 g2 : Nat) (v1 v2 : Value)
    (hp1 : tmps.getD t undef = .pointer (some ⟨g1, 0, none⟩)) (hr1 : (loadVar ti ⟨g1, 0, none⟩).run P w = .ok v1 w) (hp2 : tmps.getD u undef = .pointer (some ⟨g2, 0, none⟩)) (hr2 : (loadVar te ⟨g2, 0, none⟩).run P w = .ok v2 w) :
    (results fn tmps).run P w = .ok (.tuple #[v1, v2]) w := by
  have hp1' : tmps[t]?.getD undef = .pointer (some ⟨g1, 0, none⟩) := by simpa using hp1
  have hp2' : tmps[u]?.getD undef = .pointer (some ⟨g2, 0, none⟩) := by simpa using hp2
  simp [results, h, hp1', hp2', asAddr, hr1, hr2]
/-- Two variables that hold a Bool and an error, written. -/
theorem two_set {W : World} {p : Nat} {u v : Value} {T S : TypeId} (h0 : W.heap[p]? = some (.cells #[u] T (0, 0))) (h1 : W.heap[p + 1]? = some (.cells #[v] S (0, 0))) (x y : Value) :
    ((W.setCell ⟨p, 0, none⟩ x).setCell ⟨p + 1, 0, none⟩ y).heap[p]? = some (.cells #[x] T (0, 0)) ∧ ((W.setCell ⟨p, 0, none⟩ x).setCell ⟨p + 1, 0, none⟩ y).heap[p + 1]? = some (.cells #[y] S (0, 0)) ∧ But (fun q => q = p ∨ q = p + 1) W ((W.setCell ⟨p, 0, none⟩ x).setCell ⟨p + 1, 0, none⟩ y) := by
  have a0 := set1_heap (i := 0) x h0
  have a1 := ((but_setC W ⟨p, 0, none⟩ x).block (p + 1) (get_lt' h1) (by simp)).trans h1
  have b0 := ((but_setC (W.setCell ⟨p, 0, none⟩ x) ⟨p + 1, 0, none⟩ y).block p (get_lt' a0) (by simp)).trans a0
  have b1 := set1_heap (i := 0) y a1
  exact ⟨b0, b1, ((But.refl (fun q => q = p ∨ q = p + 1) W).setCell ⟨p, 0, none⟩ (fun _ => .inl rfl) x).setCell ⟨p + 1, 0, none⟩ (fun _ => .inr rfl) y⟩
/-- What is looked for in two clocks: no time of the first above the second's, so far. -/
structure Lsq (a b : List Tk) (s : List Tk × List Tk) : Prop where
  ex : ∃ m, Rst a b m s.1 s.2 ∧ ∀ g, g < m → tm g a ≤ tm g b
theorem Lsq.start {a b : List Tk} (ha : gd 0 a = true) (hb : gd 0 b = true) : Lsq a b (a, b) := ⟨0, Rst.start ha hb, fun g hg => by rw [tm_low ha hg, tm_low hb hg]; exact Int.le_refl _⟩
theorem Lsq.step {a b : List Tk} {s s2 : List Tk × List Tk} {x : Int × Int × Int} {W W2 : World} (h : Lsq a b s) (t : Stp s x W W2 s2) : (x.2.1 ≤ x.2.2 → Lsq a b s2) ∧ (¬ x.2.1 ≤ x.2.2 → ∃ g, tm g b < tm g a) := by
  obtain ⟨m, hr, hl⟩ := h.ex
  obtain ⟨s1, s3, s4, s5, s6, s7⟩ := hr.step t.ne
  rw [t.x2, t.x3, s4, s5]
  constructor
  · intro hx
    refine ⟨nx s.1 s.2 + 1, by rw [t.s1, t.s3]; exact s7, fun g hg => ?_⟩
    by_cases e : g < m
    · exact hl g e
    · by_cases e2 : g = nx s.1 s.2
      · rw [e2]; exact hx
      · obtain ⟨z1, z2⟩ := s6 g (by omega) (by omega)
        rw [z1, z2]; exact Int.le_refl _
  · intro hx
    exact ⟨nx s.1 s.2, by omega⟩
theorem Lsq.done {a b : List Tk} (ha : gd 0 a = true) (hb : gd 0 b = true) (h : Lsq a b ([], [])) : leB a b = true := by
  obtain ⟨m, hr, hl⟩ := h.ex
  refine (leB_iff ha hb).2 (fun g => ?_)
  by_cases e : g < m
  · exact hl g e
  · obtain ⟨z1, z2⟩ := hr.done g (by omega)
    rw [z1, z2]; exact Int.le_refl _
set_option maxRecDepth 100000 in
set_option maxHeartbeats 4000000 in
theorem leq_bad (aa ab : Option Addr) (na ca nb cb : Nat) (A B : List Tk) (w : World) (hA : TRow layT w aa na A) (hB : TRow layT w ab nb B) (hna : (na : Int) ≤ 8796093022208) (hnb : (nb : Int) ≤ 8796093022208) (h : gd 0 A = false ∨ gd 0 B = false) :
    Calls Try.prog 32 #[.slice aa na ca, .slice ab nb cb] w fun e w' => e = .returned (.tuple #[.bool false, .int .i64 170]) ∧ Below w.heap.size w w' := by
  obtain ⟨W0, hW0⟩ : ∃ W0, W0 = (w.alloc (.cells #[.bool false] 4)).alloc (.cells #[.int .i64 0] 25) := ⟨_, rfl⟩
  have b0 : Below w.heap.size w W0 := by rw [hW0]; exact below_alloc2 _ _ _
  have z0 : W0.heap[w.heap.size]? = some (.cells #[.bool false] 4 (0, 0)) := by rw [hW0]; exact heap_old (heap_new _ _)
  have z1 : W0.heap[w.heap.size + 1]? = some (.cells #[.int .i64 0] 25 (0, 0)) := by rw [hW0]; exact heap_new2 _ _ _
  have HGa := hide (fun V (hV : Below w.heap.size w V) => good_any aa na ca A V (hA.below hV) hna)
  have HGb := hide (fun V (hV : Below w.heap.size w V) => good_any ab nb cb B V (hB.below hV) hnb)
  have Z0 := hide z0
  have Z1 := hide z1
  have B0 := hide b0
  have hend : ∀ V, Below W0.heap.size W0 V → ∃ r0 r1, V.heap[w.heap.size]? = some (.cells #[r0] 4 (0, 0)) ∧ V.heap[w.heap.size + 1]? = some (.cells #[r1] 25 (0, 0)) ∧ Below w.heap.size w V := fun V hV => ⟨_, _, (hV.block _ (get_lt' z0)).trans z0, (hV.block _ (get_lt' z1)).trans z1, Below.on b0 hV⟩
  have HE := hide hend
  clear z0 z1 b0 hend hA hB
  have hfin : ∀ V, Below W0.heap.size W0 V → ∀ X, X = (V.setCell ⟨w.heap.size, 0, none⟩ (.bool false)).setCell ⟨w.heap.size + 1, 0, none⟩ (.int .i64 170) → X.heap[w.heap.size]? = some (.cells #[.bool false] 4 (0, 0)) ∧ X.heap[w.heap.size + 1]? = some (.cells #[.int .i64 170] 25 (0, 0)) ∧ Below w.heap.size w X := fun V hV X hX => by
    obtain ⟨r0, r1, e0, e1, eb⟩ := HE.out V hV
    obtain ⟨q0, q1, q2⟩ := two_set e0 e1 (.bool false) (.int .i64 170)
    rw [hX]
    exact ⟨q0, q1, Below.trans eb (q2.below eb.size (fun k hk => by rcases hk with e | e <;> omega))⟩
  have HF := hide hfin
  clear hfin
  cases hga : gd 0 A with
  | false =>
    rw [hga] at HGa
    clear hga h
    go_enter Try.func32, Try.ntmps32
    go_wp2_with fail
    rw [← hW0]
    refine (HGa.out W0 B0.out).mono ?_
    rintro e w1 ⟨rfl, hb1⟩
    obtain ⟨r0, r1, e0, e1, eb⟩ := HE.out w1 hb1
    have c0 : w1.cell? ⟨w.heap.size, 0, none⟩ = some r0 := cell_at e0 rfl
    have c1 : w1.cell? ⟨w.heap.size + 1, 0, none⟩ = some r1 := cell_at e1 rfl
    have f0 := frz e0 0
    have f1 := frz e1 0
    have HB1 := hide hb1
    clear hb1 e0 e1 eb hW0
    go_wp2
    obtain ⟨q0, q1, q2⟩ := HF.out w1 HB1.out _ rfl
    refine bodyPost_ret (results_cc Try.results32 _ _ w.heap.size (w.heap.size + 1) _ _ rfl (load_bool q0) rfl (load_err q1)) rfl ?_
    exact ⟨rfl, q2⟩
  | true =>
    have hgb : gd 0 B = false := by rcases h with h | h; · rw [hga] at h; cases h
                                    · exact h
    rw [hga] at HGa
    rw [hgb] at HGb
    clear hga hgb h
    go_enter Try.func32, Try.ntmps32
    go_wp2_with fail
    rw [← hW0]
    refine (HGa.out W0 B0.out).mono ?_
    rintro e w1 ⟨rfl, hb1⟩
    have HB1 := hide hb1
    clear hb1 hW0
    go_wp2_with fail
    refine (HGb.out w1 (Below.on B0.out HB1.out)).mono ?_
    rintro e w2 ⟨rfl, hb2⟩
    have hb12 := Below.on HB1.out hb2
    obtain ⟨r0, r1, e0, e1, eb⟩ := HE.out w2 hb12
    have c0 : w2.cell? ⟨w.heap.size, 0, none⟩ = some r0 := cell_at e0 rfl
    have c1 : w2.cell? ⟨w.heap.size + 1, 0, none⟩ = some r1 := cell_at e1 rfl
    have f0 := frz e0 0
    have f1 := frz e1 0
    have HB2 := hide hb12
    clear hb2 hb12 e0 e1 eb
    go_wp2
    obtain ⟨q0, q1, q2⟩ := HF.out w2 HB2.out _ rfl
    refine bodyPost_ret (results_cc Try.results32 _ _ w.heap.size (w.heap.size + 1) _ _ rfl (load_bool q0) rfl (load_err q1)) rfl ?_
    exact ⟨rfl, q2⟩
set_option maxRecDepth 100000 in
set_option maxHeartbeats 4000000 in
theorem leq_ok (aa ab : Option Addr) (na ca nb cb : Nat) (A B : List Tk) (w : World) (hA : TRow layT w aa na A) (hB : TRow layT w ab nb B) (hca : na ≤ ca) (hcb : nb ≤ cb) (ha : gd 0 A = true) (hb : gd 0 B = true) :
    Calls Try.prog 32 #[.slice aa na ca, .slice ab nb cb] w fun e w' => e = .returned (.tuple #[.bool (leB A B), .int .i64 0]) ∧ Below w.heap.size w w' := by
  obtain ⟨W0, hW0⟩ : ∃ W0, W0 = (w.alloc (.cells #[.bool false] 4)).alloc (.cells #[.int .i64 0] 25) := ⟨_, rfl⟩
  have b0 : Below w.heap.size w W0 := by rw [hW0]; exact below_alloc2 _ _ _
  have s0 : W0.heap.size = w.heap.size + 2 := by rw [hW0]; simp
  have z0 : W0.heap[w.heap.size]? = some (.cells #[.bool false] 4 (0, 0)) := by rw [hW0]; exact heap_old (heap_new _ _)
  have z1 : W0.heap[w.heap.size + 1]? = some (.cells #[.int .i64 0] 25 (0, 0)) := by rw [hW0]; exact heap_new2 _ _ _
  have hna : (na : Int) ≤ 8796093022208 := by have := gd_len0 ha; rw [hA.len] at this; omega
  have hnb : (nb : Int) ≤ 8796093022208 := by have := gd_len0 hb; rw [hB.len] at this; omega
  have HGa := hide (fun V (hV : Below w.heap.size w V) => good_any aa na ca A V (hA.below hV) hna)
  have HGb := hide (fun V (hV : Below w.heap.size w V) => good_any ab nb cb B V (hB.below hV) hnb)
  rw [ha] at HGa
  rw [hb] at HGb
  have Z0 := hide z0
  have Z1 := hide z1
  have B0 := hide b0
  have S0 := hide s0
  have HA := hide ha
  have HB := hide hb
  have TA := hide (hA.below b0)
  have TB := hide (hB.below b0)
  have HC := hide (And.intro hca hcb)
  clear z0 z1 b0 s0 hA hB ha hb hca hcb hna hnb
  refine (callsIn_wide (n := 4)).1 ?_
  refine callsIn_of_wp_marks Try.func32 rfl trivial ?_ rfl
  simp only [Try.ntmps32, List.size_toArray, List.length_cons, List.length_nil, Nat.reduceAdd, Nat.reduceSub, Array.replicate_succ, Array.replicate_zero, List.push_toArray, List.append_toArray, List.nil_append, List.cons_append]
  gi_wp2_with fail
  rw [← hW0]
  clear hW0
  refine ⟨trivial, CallsIn.mono (callsIn_wide.2 (HGa.out W0 B0.out)) ?_⟩
  rintro e w1 ⟨rfl, hb1⟩
  have HB1 := hide hb1
  clear hb1
  gi_wp2_with fail
  refine ⟨trivial, CallsIn.mono (callsIn_wide.2 (HGb.out w1 (Below.on B0.out HB1.out))) ?_⟩
  rintro e w2 ⟨rfl, hb2⟩
  have HB2 := hide (Below.on HB1.out hb2)
  clear hb2 HB1
  gi_wp2_with fail
  refine ⟨trivial, CallsIn.mono (callsIn_wide.2 (both_any aa ab na ca nb cb w2)) ?_⟩
  rintro e w4 ⟨rfl, hw4⟩
  have HB4 := hide (Below.on HB2.out (by rw [hw4]; exact below_alloc2 _ _ _ : Below w2.heap.size w2 w4))
  have HS4 : Hid (w4.heap.size = w2.heap.size + 2) := hide (by rw [hw4]; simp)
  have HX1 : Hid (w4.heap[w2.heap.size]? = some (.cells #[.slice aa na ca] 22 (0, 0))) := hide (by rw [hw4]; exact heap_old (heap_new _ _))
  have HX2 : Hid (w4.heap[w2.heap.size + 1]? = some (.cells #[.slice ab nb cb] 22 (0, 0))) := hide (by rw [hw4]; exact heap_new2 _ _ _)
  have HS2 : Hid (w.heap.size + 2 ≤ w2.heap.size) := hide (by have h1 := HB2.out.size; rw [S0.out] at h1; exact h1)
  clear hw4
  gi_wp2_with fail
  refine range_turn (n := 4) (by omega) (gf := 45) (lb := #[.pointer (some ⟨w2.heap.size, 0, none⟩), .pointer (some ⟨w2.heap.size + 1, 0, none⟩)]) rfl (enters_of Try.func45 (by kernel_rfl) rfl) (σ := List Tk × List Tk) (ε := Int × Int × Int)
    (fun x => #[.int .i64 x.1, .agg #[.int .i64 x.2.1, .int .i64 x.2.2]]) (fun _ => rfl) (fun s W => Lsq A B s ∧ Below w4.heap.size w4 W) (fun W => leB A B = false ∧ W.heap[w.heap.size]? = some (.cells #[.bool false] 4 (0, 0)) ∧ W.heap[w.heap.size + 1]? = some (.cells #[.int .i64 0] 25 (0, 0)) ∧ But (fun q => q = w.heap.size ∨ q = w.heap.size + 1) w4 W) (fun s => s = ([], [])) (A, B) Stp ?hI ?hIx ?hIb ?hTk ?h0 ?hseq
    (fun x W a1 W3 => W3 = W.alloc (.cells #[.int .i64 x.2.1, .int .i64 x.2.2] 66) ∧ a1 = { tmps := #[.slice aa na ca, .slice ab nb cb, undef, undef, .pointer (some ⟨w.heap.size, 0, none⟩), .pointer (some ⟨w.heap.size + 1, 0, none⟩), undef, .pointer (some ⟨W.heap.size, 0, none⟩), .slice aa na ca, .bool true, .bool false, .bool false, .slice ab nb cb, .bool true, .bool false, .bool false, .slice aa na ca, .slice ab nb cb,
      .func (.func 45) #[] #[.pointer (some ⟨w2.heap.size, 0, none⟩), .pointer (some ⟨w2.heap.size + 1, 0, none⟩)], .int .i64 x.1, .agg #[.int .i64 x.2.1, .int .i64 x.2.2], undef, undef, undef, undef, undef], defers := [] }) ?hA ?hassign ?hbody ?hdone ?hstop
  case hI =>
    rintro s W o o' ⟨h1, h2⟩ hl
    exact ⟨h1, h2.trans ((but_put W _ o').below h2.size (fun k hk => by have e : k = w4.heap.size + 1 := hk; omega))⟩
  case hIx =>
    rintro W o o' ⟨h1, h2, h3, h4⟩ hl
    have z4 := HS4.out
    have z2 := HS2.out
    exact ⟨h1, (World.putObj_heap_other (by omega)).trans h2, (World.putObj_heap_other (by omega)).trans h3, h4.trans (but_put W _ o') (fun k hk e => by have e9 : k = w4.heap.size + 1 := e; omega)⟩
  case hIb =>
    rintro s W W' ⟨h1, h2⟩ hb
    exact ⟨h1, h2.trans (hb.mono h2.size)⟩
  case hTk =>
    rintro s x W W2 s2 ⟨h1, hb⟩ tk
    exact ⟨fun o ho => (tk.bel.block _ (get_lt' ho)).trans ho, fun ho => (tk.bel.block _ (get_lt' ho)).trans ho⟩
  case h0 => exact ⟨Lsq.start HA.out HB.out, Below.refl _ _⟩
  case hseq =>
    intro l J Jx W hJI hJb hY hJ0
    refine both1_in 3 (by omega) l w2.heap.size (w2.heap.size + 1) aa ab na ca nb cb A B J Jx (fun s W1 hj => ?_) hJb HA.out HB.out HC.out.1 HC.out.2 hY W hJ0
    obtain ⟨_, hb⟩ := hJI s W1 hj
    have b01 := Below.on HB4.out hb
    exact ⟨cell_at ((hb.block _ (get_lt' HX1.out)).trans HX1.out) rfl, cell_at ((hb.block _ (get_lt' HX2.out)).trans HX2.out) rfl, TA.out.below b01, TB.out.below b01⟩
  case hA =>
    rintro x W a1 W3 ⟨rfl, _⟩
    exact below_alloc1 _ _
  case hassign =>
    intro l s x s2 W W2 K hI tk hK
    gi_wp2
  case hbody =>
    intro l s x s2 W W2 a1 W3 o o' hI tk hA hlt hl hd
    obtain ⟨hls, hb⟩ := hI
    obtain ⟨rfl, rfl⟩ := hA
    obtain ⟨st1, st2⟩ := hls.step tk
    have b02 : Below w4.heap.size w4 W2 := hb.trans (tk.bel.mono hb.size)
    have z4 := HS4.out
    have z2 := HS2.out
    have zb := b02.size
    obtain ⟨U, hU⟩ : ∃ U, U = (W2.alloc (.cells #[.int .i64 x.2.1, .int .i64 x.2.2] 66)).putObj (w4.heap.size + 1) (.loop o') := ⟨_, rfl⟩
    rw [← hU]
    have hne : ¬ W2.heap.size = w4.heap.size + 1 := fun e => by
      rw [← e, World.alloc_heap_new] at hl
      cases hl
    have bU : But (fun q => q = w4.heap.size + 1) w4 U := by
      rw [hU]
      exact ((But.of_below (S := fun q => q = w4.heap.size + 1) b02).alloc _).trans (but_put _ _ _) (fun _ _ e => e)
    have BU : Below w4.heap.size w4 U := bU.below (Nat.le_refl _) (fun k hk => by omega)
    have t0 : U.heap[W2.heap.size]? = some (.cells #[.int .i64 x.2.1, .int .i64 x.2.2] 66 (0, 0)) := by rw [hU]; exact (World.putObj_heap_other hne).trans (heap_new _ _)
    have c0 : U.cell? ⟨W2.heap.size, 0, none⟩ = some (.int .i64 x.2.1) := cell_at t0 rfl
    have c1 : U.cell? ⟨W2.heap.size, 1, none⟩ = some (.int .i64 x.2.2) := cell_at t0 rfl
    have r0 : U.heap[w.heap.size]? = some (.cells #[.bool false] 4 (0, 0)) := (BU.block _ (by omega)).trans ((HB4.out.block _ (get_lt' Z0.out)).trans Z0.out)
    have r1 : U.heap[w.heap.size + 1]? = some (.cells #[.int .i64 0] 25 (0, 0)) := (BU.block _ (by omega)).trans ((HB4.out.block _ (get_lt' Z1.out)).trans Z1.out)
    have HL : Hid (U.heap[w4.heap.size + 1]? = some (.loop o')) := hide (by rw [hU]; exact World.putObj_heap_same (get_lt' hl))
    have HD : Hid (U.heap[w4.heap.size]? = some (.deferred (some []))) := hide (by rw [hU]; exact (World.putObj_heap_other (by omega)).trans hd)
    have g0 : U.cell? ⟨w.heap.size, 0, none⟩ = some (.bool false) := cell_at r0 rfl
    have g1 : U.cell? ⟨w.heap.size + 1, 0, none⟩ = some (.int .i64 0) := cell_at r1 rfl
    have f0 := frz r0 0
    have f1 := frz r1 0
    have HR := hide (two_set r0 r1 (.bool false) (.int .i64 0))
    have HBU := hide BU
    have HS1 := hide st1
    have HSt2 := hide st2
    have HZ : Hid (w.heap.size + 4 ≤ w4.heap.size) := hide (by omega)
    obtain ⟨xg, x1, x2⟩ := x
    dsimp only at c0 c1 HS1 HSt2 ⊢
    clear st1 st2 hls hb tk hU hne bU BU t0 r0 r1 z4 z2 zb b02 hl hd hlt
    by_cases hx : x1 ≤ x2
    · have d1 : decide (x2 < x1) = false := decide_eq_false (by omega)
      gi_wp2
      exact ⟨⟨HS1.out hx, HBU.out⟩, HD.out, HL.out⟩
    · have d1 : decide (x2 < x1) = true := decide_eq_true (by omega)
      gi_wp2
      obtain ⟨q0, q1, q2⟩ := HR.out
      have hz := HZ.out
      obtain ⟨g, hg⟩ := HSt2.out hx
      exact ⟨⟨leB_false HA.out HB.out hg, q0, q1, (But.of_below (S := fun q => q = w.heap.size ∨ q = w.heap.size + 1) HBU.out).trans q2 (fun _ _ e => e)⟩, (q2.block _ (get_lt' HD.out) (by omega)).trans HD.out, (q2.block _ (get_lt' HL.out) (by omega)).trans HL.out⟩
  case hdone =>
    rintro s W rfl ⟨hls, hb⟩ hd
    have HLe := hide (hls.done HA.out HB.out)
    have z4 := HS4.out
    have z2 := HS2.out
    have r0 : W.heap[w.heap.size]? = some (.cells #[.bool false] 4 (0, 0)) := (hb.block _ (by omega)).trans ((HB4.out.block _ (get_lt' Z0.out)).trans Z0.out)
    have r1 : W.heap[w.heap.size + 1]? = some (.cells #[.int .i64 0] 25 (0, 0)) := (hb.block _ (by omega)).trans ((HB4.out.block _ (get_lt' Z1.out)).trans Z1.out)
    have g0 : W.cell? ⟨w.heap.size, 0, none⟩ = some (.bool false) := cell_at r0 rfl
    have g1 : W.cell? ⟨w.heap.size + 1, 0, none⟩ = some (.int .i64 0) := cell_at r1 rfl
    have f0 := frz r0 0
    have f1 := frz r1 0
    have HR := hide (two_set r0 r1 (.bool true) (.int .i64 0))
    have HBW := hide (Below.on B0.out (Below.on HB4.out hb))
    have HD := hide hd
    have HZ : Hid (w.heap.size + 4 ≤ w4.heap.size) := hide (by omega)
    clear hls hb hd r0 r1 z4 z2
    gi_wp2_with fail
    obtain ⟨q0, q1, q2⟩ := HR.out
    generalize hX : (W.setCell ⟨w.heap.size, 0, none⟩ (.bool true)).setCell ⟨w.heap.size + 1, 0, none⟩ (.int .i64 0) = X at q0 q1 q2 ⊢
    have hz := HZ.out
    have dX := (q2.block _ (get_lt' HD.out) (by omega)).trans HD.out
    have bX : Below w.heap.size w X := HBW.out.trans (q2.below HBW.out.size (fun k hk => by rcases hk with e | e <;> omega))
    refine ⟨by simp, .inl ⟨_, _, rfl, run_takeDeferred dX, ?_⟩⟩
    have a0 := (World.putObj_heap_other (w := X) (o := .deferred none) (show w.heap.size ≠ w4.heap.size by omega)).trans q0
    have a1 := (World.putObj_heap_other (w := X) (o := .deferred none) (show w.heap.size + 1 ≠ w4.heap.size by omega)).trans q1
    refine ⟨_, results_cc Try.results32 _ _ w.heap.size (w.heap.size + 1) _ _ rfl (load_bool a0) rfl (load_err a1), by rw [HLe.out], bX.trans ((but_put X _ _).below bX.size (fun k hk => by have e : k = w4.heap.size := hk; omega))⟩
  case hstop =>
    rintro X ⟨hle, q0, q1, q2⟩ hd
    have HLe := hide hle
    have z4 := HS4.out
    have z2 := HS2.out
    have b4 := Below.on B0.out HB4.out
    have bX : Below w.heap.size w X := b4.trans (q2.below b4.size (fun k hk => by rcases hk with e | e <;> omega))
    have HD := hide hd
    have HQ := hide (And.intro q0 (And.intro q1 bX))
    clear hle q0 q1 q2 hd b4 bX z4 z2
    gi_wp2_with fail
    obtain ⟨q0, q1, bX⟩ := HQ.out
    have z4 := HS4.out
    have z2 := HS2.out
    refine ⟨by simp, .inl ⟨_, _, rfl, run_takeDeferred HD.out, ?_⟩⟩
    have a0 := (World.putObj_heap_other (w := X) (o := .deferred none) (show w.heap.size ≠ w4.heap.size by omega)).trans q0
    have a1 := (World.putObj_heap_other (w := X) (o := .deferred none) (show w.heap.size + 1 ≠ w4.heap.size by omega)).trans q1
    refine ⟨_, results_cc Try.results32 _ _ w.heap.size (w.heap.size + 1) _ _ rfl (load_bool a0) rfl (load_err a1), by rw [HLe.out], bX.trans ((but_put X _ _).below bX.size (fun k hk => by have e : k = w4.heap.size := hk; omega))⟩
end Go.Proofs.Ytajkenbcndmjpab
