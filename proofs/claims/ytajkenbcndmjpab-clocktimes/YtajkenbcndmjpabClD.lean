/-
  Apart.
-/
import Derived.Test.YtajkenbcndmjpabClC
namespace Go.Proofs.Ytajkenbcndmjpab
open Go.RowKit Go.Maps Go.Shelf
attribute [local go_sem] Oper.semAt_some
/-- What is looked for in two clocks: where is the one above the other, so far? -/
structure Apt (a b : List Tk) (s : List Tk × List Tk) (p q : Bool) : Prop where
  ex : ∃ m, Rst a b m s.1 s.2 ∧ (p = true ↔ ∃ g, g < m ∧ tm g b < tm g a) ∧ (q = true ↔ ∃ g, g < m ∧ tm g a < tm g b)
theorem Apt.start {a b : List Tk} (ha : gd 0 a = true) (hb : gd 0 b = true) : Apt a b (a, b) false false := by
  refine ⟨0, Rst.start ha hb, ⟨fun h => (by cases h), ?_⟩, ⟨fun h => (by cases h), ?_⟩⟩ <;> rintro ⟨g, hg, h⟩ <;> rw [tm_low ha hg, tm_low hb hg] at h <;> omega
theorem Apt.step {a b : List Tk} {s s2 : List Tk × List Tk} {p q : Bool} {x : Int × Int × Int} {W W2 : World} (h : Apt a b s p q) (t : Stp s x W W2 s2) : Apt a b s2 (p || decide (x.2.2 < x.2.1)) (q || decide (x.2.1 < x.2.2)) := by
  obtain ⟨m, hr, h1, h2⟩ := h.ex
  obtain ⟨s1, s3, s4, s5, s6, s7⟩ := hr.step t.ne
  rw [t.x2, t.x3, s4, s5]
  refine ⟨nx s.1 s.2 + 1, by rw [t.s1, t.s3]; exact s7, ?_, ?_⟩
  · rw [Bool.or_eq_true, h1, decide_eq_true_eq]
    constructor
    · rintro (⟨g, hg, h⟩ | h)
      · exact ⟨g, by omega, h⟩
      · exact ⟨_, by omega, h⟩
    · rintro ⟨g, hg, h⟩
      by_cases e : g < m
      · exact .inl ⟨g, e, h⟩
      · by_cases e2 : g = nx s.1 s.2
        · rw [e2] at h; exact .inr h
        · obtain ⟨z1, z2⟩ := s6 g (by omega) (by omega)
          omega
  · rw [Bool.or_eq_true, h2, decide_eq_true_eq]
    constructor
    · rintro (⟨g, hg, h⟩ | h)
      · exact ⟨g, by omega, h⟩
      · exact ⟨_, by omega, h⟩
    · rintro ⟨g, hg, h⟩
      by_cases e : g < m
      · exact .inl ⟨g, e, h⟩
      · by_cases e2 : g = nx s.1 s.2
        · rw [e2] at h; exact .inr h
        · obtain ⟨z1, z2⟩ := s6 g (by omega) (by omega)
          omega
theorem Apt.both {a b : List Tk} (ha : gd 0 a = true) (hb : gd 0 b = true) {s : List Tk × List Tk} (h : Apt a b s true true) : (!leB a b && !leB b a) = true := by
  obtain ⟨m, _, h1, h2⟩ := h.ex
  obtain ⟨g, _, hg⟩ := h1.1 rfl
  obtain ⟨k, _, hk⟩ := h2.1 rfl
  rw [leB_false ha hb hg, leB_false hb ha hk]; rfl
theorem Apt.both2 {a b : List Tk} (ha : gd 0 a = true) (hb : gd 0 b = true) {s : List Tk × List Tk} (h : Apt a b s true true) : leB a b = false ∧ leB b a = false := by
  have := h.both ha hb
  simpa using this
theorem Apt.done {a b : List Tk} (ha : gd 0 a = true) (hb : gd 0 b = true) {p q : Bool} (h : Apt a b ([], []) p q) (hpq : (p && q) = false) : (!leB a b && !leB b a) = false := by
  obtain ⟨m, hr, h1, h2⟩ := h.ex
  cases p with
  | false =>
    have : leB a b = true := (leB_iff ha hb).2 (fun g => by
      by_cases e : g < m
      · by_cases e2 : tm g b < tm g a
        · have := h1.2 ⟨g, e, e2⟩; cases this
        · omega
      · obtain ⟨z1, z2⟩ := hr.done g (by omega)
        rw [z1, z2]; exact Int.le_refl _)
    rw [this]; rfl
  | true =>
    cases q with
    | true => cases hpq
    | false =>
      have : leB b a = true := (leB_iff hb ha).2 (fun g => by
        by_cases e : g < m
        · by_cases e2 : tm g a < tm g b
          · have := h2.2 ⟨g, e, e2⟩; cases this
          · omega
        · obtain ⟨z1, z2⟩ := hr.done g (by omega)
          rw [z1, z2]; exact Int.le_refl _)
      rw [this]; simp
/-- What lies in memory while two clocks are gone through. -/
structure ApI (A B : List Tk) (pb : Nat) (w4 : World) (s : List Tk × List Tk) (W : World) : Prop where
  ex : ∃ p q, Apt A B s p q ∧ (p && q) = false ∧ W.heap[pb]? = some (.cells #[.bool p] 4 (0, 0)) ∧ W.heap[pb + 1]? = some (.cells #[.bool q] 4 (0, 0)) ∧ But (fun k => k = pb ∨ k = pb + 1) w4 W
/-- .. and where both are known. -/
structure ApX (A B : List Tk) (rb pb : Nat) (w4 W : World) : Prop where
  l1 : leB A B = false
  l2 : leB B A = false
  r0 : W.heap[rb]? = some (.cells #[.bool true] 4 (0, 0))
  r1 : W.heap[rb + 1]? = some (.cells #[.int .i64 0] 25 (0, 0))
  but : But (fun q => (q = rb ∨ q = rb + 1) ∨ (q = pb ∨ q = pb + 1)) w4 W
set_option maxRecDepth 100000 in
set_option maxHeartbeats 4000000 in
theorem apart_bad (aa ab : Option Addr) (na ca nb cb : Nat) (A B : List Tk) (w : World) (hA : TRow layT w aa na A) (hB : TRow layT w ab nb B) (hna : (na : Int) ≤ 8796093022208) (hnb : (nb : Int) ≤ 8796093022208) (h : gd 0 A = false ∨ gd 0 B = false) :
    Calls Try.prog 33 #[.slice aa na ca, .slice ab nb cb] w fun e w' => e = .returned (.tuple #[.bool false, .int .i64 170]) ∧ Below w.heap.size w w' := by
  obtain ⟨W0, hW0⟩ : ∃ W0, W0 = (w.alloc (.cells #[.bool false] 4)).alloc (.cells #[.int .i64 0] 25) := ⟨_, rfl⟩
  have b0 : Below w.heap.size w W0 := by rw [hW0]; exact below_alloc2 _ _ _
  have z0 : W0.heap[w.heap.size]? = some (.cells #[.bool false] 4 (0, 0)) := by rw [hW0]; exact heap_old (heap_new _ _)
  have z1 : W0.heap[w.heap.size + 1]? = some (.cells #[.int .i64 0] 25 (0, 0)) := by rw [hW0]; exact heap_new2 _ _ _
  have HGa := hide (fun V (hV : Below w.heap.size w V) => good_any aa na ca A V (hA.below hV) hna)
  have HGb := hide (fun V (hV : Below w.heap.size w V) => good_any ab nb cb B V (hB.below hV) hnb)
  have Z0 := hide z0
  have Z1 := hide z1
  have B0 := hide b0
  have hend : ∀ V, Below W0.heap.size W0 V → ∃ r0 r1, V.heap[w.heap.size]? = some (.cells #[r0] 4 (0, 0)) ∧ V.heap[w.heap.size + 1]? = some (.cells #[r1] 25 (0, 0)) ∧ Below w.heap.size w V := fun V hV => ⟨_, _, (hV.block _ (get_lt' z0)).trans z0, (hV.block _ (get_lt' z1)).trans z1, Below.on b0 hV⟩
  have HE := hide hend
  clear z0 z1 b0 hend hA hB
  have hfin : ∀ V, Below W0.heap.size W0 V → ∀ X, X = (V.setCell ⟨w.heap.size, 0, none⟩ (.bool false)).setCell ⟨w.heap.size + 1, 0, none⟩ (.int .i64 170) → X.heap[w.heap.size]? = some (.cells #[.bool false] 4 (0, 0)) ∧ X.heap[w.heap.size + 1]? = some (.cells #[.int .i64 170] 25 (0, 0)) ∧ Below w.heap.size w X := fun V hV X hX => by
    obtain ⟨r0, r1, e0, e1, eb⟩ := HE.out V hV
    obtain ⟨q0, q1, q2⟩ := two_set e0 e1 (.bool false) (.int .i64 170)
    rw [hX]
    exact ⟨q0, q1, Below.trans eb (q2.below eb.size (fun k hk => by rcases hk with e | e <;> omega))⟩
  have HF := hide hfin
  clear hfin
  cases hga : gd 0 A with
  | false =>
    rw [hga] at HGa
    clear hga h
    go_enter Try.func33, Try.ntmps33
    go_wp2_with fail
    rw [← hW0]
    refine (HGa.out W0 B0.out).mono ?_
    rintro e w1 ⟨rfl, hb1⟩
    obtain ⟨r0, r1, e0, e1, eb⟩ := HE.out w1 hb1
    have c0 : w1.cell? ⟨w.heap.size, 0, none⟩ = some r0 := cell_at e0 rfl
    have c1 : w1.cell? ⟨w.heap.size + 1, 0, none⟩ = some r1 := cell_at e1 rfl
    have f0 := frz e0 0
    have f1 := frz e1 0
    have HB1 := hide hb1
    clear hb1 e0 e1 eb hW0
    go_wp2
    obtain ⟨q0, q1, q2⟩ := HF.out w1 HB1.out _ rfl
    refine bodyPost_ret (results_cc Try.results33 _ _ w.heap.size (w.heap.size + 1) _ _ rfl (load_bool q0) rfl (load_err q1)) rfl ?_
    exact ⟨rfl, q2⟩
  | true =>
    have hgb : gd 0 B = false := by rcases h with h | h; · rw [hga] at h; cases h
                                    · exact h
    rw [hga] at HGa
    rw [hgb] at HGb
    clear hga hgb h
    go_enter Try.func33, Try.ntmps33
    go_wp2_with fail
    rw [← hW0]
    refine (HGa.out W0 B0.out).mono ?_
    rintro e w1 ⟨rfl, hb1⟩
    have HB1 := hide hb1
    clear hb1 hW0
    go_wp2_with fail
    refine (HGb.out w1 (Below.on B0.out HB1.out)).mono ?_
    rintro e w2 ⟨rfl, hb2⟩
    have hb12 := Below.on HB1.out hb2
    obtain ⟨r0, r1, e0, e1, eb⟩ := HE.out w2 hb12
    have c0 : w2.cell? ⟨w.heap.size, 0, none⟩ = some r0 := cell_at e0 rfl
    have c1 : w2.cell? ⟨w.heap.size + 1, 0, none⟩ = some r1 := cell_at e1 rfl
    have f0 := frz e0 0
    have f1 := frz e1 0
    have HB2 := hide hb12
    clear hb2 hb12 e0 e1 eb
    go_wp2
    obtain ⟨q0, q1, q2⟩ := HF.out w2 HB2.out _ rfl
    refine bodyPost_ret (results_cc Try.results33 _ _ w.heap.size (w.heap.size + 1) _ _ rfl (load_bool q0) rfl (load_err q1)) rfl ?_
    exact ⟨rfl, q2⟩
set_option maxRecDepth 100000 in
set_option maxHeartbeats 4000000 in
theorem apart_ok (aa ab : Option Addr) (na ca nb cb : Nat) (A B : List Tk) (w : World) (hA : TRow layT w aa na A) (hB : TRow layT w ab nb B) (hca : na ≤ ca) (hcb : nb ≤ cb) (ha : gd 0 A = true) (hb : gd 0 B = true) :
    Calls Try.prog 33 #[.slice aa na ca, .slice ab nb cb] w fun e w' => e = .returned (.tuple #[.bool (!leB A B && !leB B A), .int .i64 0]) ∧ Below w.heap.size w w' := by
  obtain ⟨W0, hW0⟩ : ∃ W0, W0 = (w.alloc (.cells #[.bool false] 4)).alloc (.cells #[.int .i64 0] 25) := ⟨_, rfl⟩
  have b0 : Below w.heap.size w W0 := by rw [hW0]; exact below_alloc2 _ _ _
  have s0 : W0.heap.size = w.heap.size + 2 := by rw [hW0]; simp
  have z0 : W0.heap[w.heap.size]? = some (.cells #[.bool false] 4 (0, 0)) := by rw [hW0]; exact heap_old (heap_new _ _)
  have z1 : W0.heap[w.heap.size + 1]? = some (.cells #[.int .i64 0] 25 (0, 0)) := by rw [hW0]; exact heap_new2 _ _ _
  have hna : (na : Int) ≤ 8796093022208 := by have := gd_len0 ha; rw [hA.len] at this; omega
  have hnb : (nb : Int) ≤ 8796093022208 := by have := gd_len0 hb; rw [hB.len] at this; omega
  have HGa := hide (fun V (hV : Below w.heap.size w V) => good_any aa na ca A V (hA.below hV) hna)
  have HGb := hide (fun V (hV : Below w.heap.size w V) => good_any ab nb cb B V (hB.below hV) hnb)
  rw [ha] at HGa
  rw [hb] at HGb
  have Z0 := hide z0
  have Z1 := hide z1
  have B0 := hide b0
  have S0 := hide s0
  have HA := hide ha
  have HB := hide hb
  have TA := hide (hA.below b0)
  have TB := hide (hB.below b0)
  have HC := hide (And.intro hca hcb)
  clear z0 z1 b0 s0 hA hB ha hb hca hcb hna hnb
  refine (callsIn_wide (n := 4)).1 ?_
  refine callsIn_of_wp_marks Try.func33 rfl trivial ?_ rfl
  simp only [Try.ntmps33, List.size_toArray, List.length_cons, List.length_nil, Nat.reduceAdd, Nat.reduceSub, Array.replicate_succ, Array.replicate_zero, List.push_toArray, List.append_toArray, List.nil_append, List.cons_append]
  gi_wp2_with fail
  rw [← hW0]
  clear hW0
  refine ⟨trivial, CallsIn.mono (callsIn_wide.2 (HGa.out W0 B0.out)) ?_⟩
  rintro e w1 ⟨rfl, hb1⟩
  have HB1 := hide hb1
  clear hb1
  gi_wp2_with fail
  refine ⟨trivial, CallsIn.mono (callsIn_wide.2 (HGb.out w1 (Below.on B0.out HB1.out))) ?_⟩
  rintro e w2 ⟨rfl, hb2⟩
  have HB2 := hide (Below.on HB1.out hb2)
  clear hb2 HB1
  obtain ⟨W3, hW3⟩ : ∃ W3, W3 = (w2.alloc (.cells #[.bool false] 4)).alloc (.cells #[.bool false] 4) := ⟨_, rfl⟩
  have b23 : Below w2.heap.size w2 W3 := by rw [hW3]; exact below_alloc2 _ _ _
  have y0 : W3.heap[w2.heap.size]? = some (.cells #[.bool false] 4 (0, 0)) := by rw [hW3]; exact heap_old (heap_new _ _)
  have y1 : W3.heap[w2.heap.size + 1]? = some (.cells #[.bool false] 4 (0, 0)) := by rw [hW3]; exact heap_new2 _ _ _
  have s3 : W3.heap.size = w2.heap.size + 2 := by rw [hW3]; simp
  have Y0 := hide y0
  have Y1 := hide y1
  have S3 := hide s3
  have HS2 : Hid (w.heap.size + 2 ≤ w2.heap.size) := hide (by have h1 := HB2.out.size; rw [S0.out] at h1; exact h1)
  have HB3 := hide (Below.on HB2.out b23)
  clear b23 y0 y1 s3
  gi_wp2_with fail
  rw [← hW3]
  clear hW3
  refine ⟨trivial, CallsIn.mono (callsIn_wide.2 (both_any aa ab na ca nb cb W3)) ?_⟩
  rintro e w4 ⟨rfl, hw4⟩
  have b34 : Below W3.heap.size W3 w4 := by rw [hw4]; exact below_alloc2 _ _ _
  have HB4 := hide (Below.on HB3.out b34)
  have HS4 : Hid (w4.heap.size = W3.heap.size + 2) := hide (by rw [hw4]; simp)
  have HX1 : Hid (w4.heap[W3.heap.size]? = some (.cells #[.slice aa na ca] 22 (0, 0))) := hide (by rw [hw4]; exact heap_old (heap_new _ _))
  have HX2 : Hid (w4.heap[W3.heap.size + 1]? = some (.cells #[.slice ab nb cb] 22 (0, 0))) := hide (by rw [hw4]; exact heap_new2 _ _ _)
  have HY0 : Hid (w4.heap[w2.heap.size]? = some (.cells #[.bool false] 4 (0, 0))) := hide ((b34.block _ (get_lt' Y0.out)).trans Y0.out)
  have HY1 : Hid (w4.heap[w2.heap.size + 1]? = some (.cells #[.bool false] 4 (0, 0))) := hide ((b34.block _ (get_lt' Y1.out)).trans Y1.out)
  have HZ4 : Hid (w4.heap.size = w2.heap.size + 4 ∧ w.heap.size + 2 ≤ w2.heap.size) := hide (by have h1 := HS4.out; have h2 := S3.out; have h3 := HS2.out; omega)
  have HW3 := S3
  clear hw4 b34 Y0 Y1 HS4 HS2
  gi_wp2_with fail
  refine range_turn (n := 4) (by omega) (gf := 45) (lb := #[.pointer (some ⟨W3.heap.size, 0, none⟩), .pointer (some ⟨W3.heap.size + 1, 0, none⟩)]) rfl (enters_of Try.func45 (by kernel_rfl) rfl) (σ := List Tk × List Tk) (ε := Int × Int × Int)
    (fun x => #[.int .i64 x.1, .agg #[.int .i64 x.2.1, .int .i64 x.2.2]]) (fun _ => rfl) (fun s W => ApI A B w2.heap.size w4 s W) (fun W => ApX A B w.heap.size w2.heap.size w4 W) (fun s => s = ([], [])) (A, B) Stp ?hI ?hIx ?hIb ?hTk ?h0 ?hseq
    (fun x W a1 W3' => W3' = W.alloc (.cells #[.int .i64 x.2.1, .int .i64 x.2.2] 66) ∧ a1 = { tmps := #[.slice aa na ca, .slice ab nb cb, undef, undef, .pointer (some ⟨w.heap.size, 0, none⟩), .pointer (some ⟨w.heap.size + 1, 0, none⟩), .pointer (some ⟨w2.heap.size, 0, none⟩), .pointer (some ⟨w2.heap.size + 1, 0, none⟩), undef, .pointer (some ⟨W.heap.size, 0, none⟩), .slice aa na ca, .bool true, .bool false, .bool false, .slice ab nb cb, .bool true, .bool false, .bool false, .slice aa na ca, .slice ab nb cb,
      .func (.func 45) #[] #[.pointer (some ⟨W3.heap.size, 0, none⟩), .pointer (some ⟨W3.heap.size + 1, 0, none⟩)], .int .i64 x.1, .agg #[.int .i64 x.2.1, .int .i64 x.2.2], undef, undef, undef, undef, undef, undef, undef, undef, undef, undef, undef, undef, undef, undef, undef, undef, undef, undef, undef, undef], defers := [] }) ?hA ?hassign ?hbody ?hdone ?hstop
  case hI =>
    rintro s W o o' ⟨p, q, h1, h2, h3, h4, h5⟩ hl
    have z4 := HZ4.out
    exact ⟨p, q, h1, h2, (World.putObj_heap_other (by omega)).trans h3, (World.putObj_heap_other (by omega)).trans h4, h5.trans (but_put W _ o') (fun k hk e => by have e9 : k = w4.heap.size + 1 := e; omega)⟩
  case hIx =>
    rintro W o o' ⟨h1, h1b, h2, h3, h4⟩ hl
    have z4 := HZ4.out
    exact ⟨h1, h1b, (World.putObj_heap_other (by omega)).trans h2, (World.putObj_heap_other (by omega)).trans h3, h4.trans (but_put W _ o') (fun k hk e => by have e9 : k = w4.heap.size + 1 := e; omega)⟩
  case hIb =>
    rintro s W W' ⟨p, q, h1, h2, h3, h4, h5⟩ hb
    exact ⟨p, q, h1, h2, (hb.block _ (get_lt' h3)).trans h3, (hb.block _ (get_lt' h4)).trans h4, h5.on hb⟩
  case hTk =>
    rintro s x W W2 s2 _ tk
    exact ⟨fun o ho => (tk.bel.block _ (get_lt' ho)).trans ho, fun ho => (tk.bel.block _ (get_lt' ho)).trans ho⟩
  case h0 => exact ⟨false, false, Apt.start HA.out HB.out, rfl, HY0.out, HY1.out, But.refl _ _⟩
  case hseq =>
    intro l J Jx W hJI hJb hY hJ0
    refine both1_in 3 (by omega) l W3.heap.size (W3.heap.size + 1) aa ab na ca nb cb A B J Jx (fun s W1 hj => ?_) hJb HA.out HB.out HC.out.1 HC.out.2 hY W hJ0
    obtain ⟨p, q, _, _, _, _, hb⟩ := hJI s W1 hj
    have z4 := HZ4.out
    have z3 := HW3.out
    have z0 := S0.out
    have b01 : Below W0.heap.size W0 W1 := HB4.out.trans (hb.below HB4.out.size (fun k hk => by omega))
    exact ⟨cell_at ((hb.block _ (get_lt' HX1.out) (by omega)).trans HX1.out) rfl, cell_at ((hb.block _ (get_lt' HX2.out) (by omega)).trans HX2.out) rfl, TA.out.below b01, TB.out.below b01⟩
  case hA =>
    rintro x W a1 W3 ⟨rfl, _⟩
    exact below_alloc1 _ _
  case hassign =>
    intro l s x s2 W W2 K hI tk hK
    gi_wp2
  case hbody =>
    intro l s x s2 W W2 a1 W3' o o' hI tk hA hlt hl hd
    obtain ⟨p, q, hap, hpq, hp, hq, hb⟩ := hI
    obtain ⟨rfl, rfl⟩ := hA
    have st := hap.step tk
    have z4 := HZ4.out
    have z0 := S0.out
    have zb := hb.size
    have zt := tk.bel.size
    obtain ⟨U, hU⟩ : ∃ U, U = (W2.alloc (.cells #[.int .i64 x.2.1, .int .i64 x.2.2] 66)).putObj (w4.heap.size + 1) (.loop o') := ⟨_, rfl⟩
    rw [← hU]
    have hne : ¬ W2.heap.size = w4.heap.size + 1 := fun e => by
      rw [← e, World.alloc_heap_new] at hl
      cases hl
    have bU : But (fun k => k = w4.heap.size + 1) W U := by
      rw [hU]
      exact ((But.of_below (S := fun k => k = w4.heap.size + 1) tk.bel).alloc _).trans (but_put _ _ _) (fun _ _ e => e)
    have BU : But (fun k => k = w2.heap.size ∨ k = w2.heap.size + 1) w4 U := hb.trans bU (fun k hk e => by omega)
    have t0 : U.heap[W2.heap.size]? = some (.cells #[.int .i64 x.2.1, .int .i64 x.2.2] 66 (0, 0)) := by rw [hU]; exact (World.putObj_heap_other hne).trans (heap_new _ _)
    have c0 : U.cell? ⟨W2.heap.size, 0, none⟩ = some (.int .i64 x.2.1) := cell_at t0 rfl
    have c1 : U.cell? ⟨W2.heap.size, 1, none⟩ = some (.int .i64 x.2.2) := cell_at t0 rfl
    have r0 : U.heap[w.heap.size]? = some (.cells #[.bool false] 4 (0, 0)) := (BU.block _ (by omega) (by omega)).trans ((HB4.out.block _ (get_lt' Z0.out)).trans Z0.out)
    have r1 : U.heap[w.heap.size + 1]? = some (.cells #[.int .i64 0] 25 (0, 0)) := (BU.block _ (by omega) (by omega)).trans ((HB4.out.block _ (get_lt' Z1.out)).trans Z1.out)
    have p0 : U.heap[w2.heap.size]? = some (.cells #[.bool p] 4 (0, 0)) := (bU.block _ (by omega) (by omega)).trans hp
    have p1 : U.heap[w2.heap.size + 1]? = some (.cells #[.bool q] 4 (0, 0)) := (bU.block _ (by omega) (by omega)).trans hq
    have HL : Hid (U.heap[w4.heap.size + 1]? = some (.loop o')) := hide (by rw [hU]; exact World.putObj_heap_same (get_lt' hl))
    have HD : Hid (U.heap[w4.heap.size]? = some (.deferred (some []))) := hide (by rw [hU]; exact (World.putObj_heap_other (by omega)).trans hd)
    obtain ⟨xg, x1, x2⟩ := x
    dsimp only at c0 c1 t0 st ⊢
    obtain ⟨P, hP⟩ : ∃ P, (p || decide (x2 < x1)) = P := ⟨_, rfl⟩
    obtain ⟨Q, hQ⟩ : ∃ Q, (q || decide (x1 < x2)) = Q := ⟨_, rfl⟩
    rw [hP, hQ] at st
    have HSt := hide st
    obtain ⟨k0, k1, kb⟩ := two_set p0 p1 (.bool P) (.bool Q)
    have hV : True := trivial
    have v0 : ((U.setCell ⟨w2.heap.size, 0, none⟩ (.bool P)).setCell ⟨w2.heap.size + 1, 0, none⟩ (.bool Q)).heap[w.heap.size]? = some (.cells #[.bool false] 4 (0, 0)) := (kb.block _ (get_lt' r0) (by omega)).trans r0
    have v1 : ((U.setCell ⟨w2.heap.size, 0, none⟩ (.bool P)).setCell ⟨w2.heap.size + 1, 0, none⟩ (.bool Q)).heap[w.heap.size + 1]? = some (.cells #[.int .i64 0] 25 (0, 0)) := (kb.block _ (get_lt' r1) (by omega)).trans r1
    have g0 : U.cell? ⟨w.heap.size, 0, none⟩ = some (.bool false) := cell_at r0 rfl
    have g1 : U.cell? ⟨w.heap.size + 1, 0, none⟩ = some (.int .i64 0) := cell_at r1 rfl
    have f0 := frz r0 0
    have f1 := frz r1 0
    have n1 : ¬ w.heap.size = w2.heap.size := by omega
    have n2 : ¬ w.heap.size = w2.heap.size + 1 := by omega
    have n3 : ¬ w.heap.size + 1 = w2.heap.size := by omega
    have HPQ := hide hpq
    have e0 : U.cell? ⟨w2.heap.size, 0, none⟩ = some (.bool p) := cell_at p0 rfl
    have e1 : U.cell? ⟨w2.heap.size + 1, 0, none⟩ = some (.bool q) := cell_at p1 rfl
    have ef0 := frz p0 0
    have ef1 := frz p1 0
    have HR := hide (two_set v0 v1 (.bool true) (.int .i64 0))
    have HVD : Hid (((U.setCell ⟨w2.heap.size, 0, none⟩ (.bool P)).setCell ⟨w2.heap.size + 1, 0, none⟩ (.bool Q)).heap[w4.heap.size]? = some (.deferred (some []))) := hide ((kb.block _ (get_lt' HD.out) (by omega)).trans HD.out)
    have HVL : Hid (((U.setCell ⟨w2.heap.size, 0, none⟩ (.bool P)).setCell ⟨w2.heap.size + 1, 0, none⟩ (.bool Q)).heap[w4.heap.size + 1]? = some (.loop o')) := hide ((kb.block _ (get_lt' HL.out) (by omega)).trans HL.out)
    have HBV : Hid (But (fun k => k = w2.heap.size ∨ k = w2.heap.size + 1) w4 ((U.setCell ⟨w2.heap.size, 0, none⟩ (.bool P)).setCell ⟨w2.heap.size + 1, 0, none⟩ (.bool Q))) := hide (BU.trans kb (fun _ _ e => e))
    have HK := hide (And.intro k0 k1)
    have hne2 : ¬ W2.heap.size = w2.heap.size := by omega
    have hne3 : ¬ W2.heap.size = w2.heap.size + 1 := by omega
    have HZ : Hid (w4.heap.size = w2.heap.size + 4 ∧ w.heap.size + 2 ≤ w2.heap.size) := HZ4
    have HP := hide hP
    have HQ := hide hQ
    clear st hap hpq hb tk hU hne bU BU t0 r0 r1 z4 zb zt z0 hl hd hlt p0 p1 k0 k1 kb v0 v1 hp hq HL HD hP hQ
    have HPQ2 := HPQ
    rcases Int.lt_trichotomy x1 x2 with hx | hx | hx
    · have d1 : decide (x2 < x1) = false := decide_eq_false (by omega)
      have d2 : decide (x1 < x2) = true := decide_eq_true hx
      cases p <;> cases q <;> first
        | (exfalso; exact absurd HPQ2.out (by decide))
        | (have hP2 := HP.out.symm
           have hQ2 := HQ.out.symm
           rw [d1] at hP2
           rw [d2] at hQ2
           simp at hP2 hQ2
           subst hP2
           subst hQ2
           clear hV HP HQ
           gi_wp2
           first
            | exact ⟨⟨⟨_, _, HSt.out, rfl, HK.out.1, HK.out.2, HBV.out⟩⟩, HVD.out, HVL.out⟩
            | (obtain ⟨q0, q1, q2⟩ := HR.out
               have z4 := HZ4.out
               refine ⟨⟨(HSt.out.both2 HA.out HB.out).1, (HSt.out.both2 HA.out HB.out).2, q0, q1, (HBV.out.mono (T := fun k => (k = w.heap.size ∨ k = w.heap.size + 1) ∨ (k = w2.heap.size ∨ k = w2.heap.size + 1)) (fun _ e => .inr e)).trans q2 (fun _ _ e => .inl e)⟩, (q2.block _ (get_lt' HVD.out) (by omega)).trans HVD.out, (q2.block _ (get_lt' HVL.out) (by omega)).trans HVL.out⟩))
    · have d1 : decide (x2 < x1) = false := decide_eq_false (by omega)
      have d2 : decide (x1 < x2) = false := decide_eq_false (by omega)
      cases p <;> cases q <;> first
        | (exfalso; exact absurd HPQ2.out (by decide))
        | (have hP2 := HP.out.symm
           have hQ2 := HQ.out.symm
           rw [d1] at hP2
           rw [d2] at hQ2
           simp at hP2 hQ2
           subst hP2
           subst hQ2
           clear hV HP HQ
           gi_wp2
           first
            | exact ⟨⟨⟨_, _, HSt.out, rfl, HK.out.1, HK.out.2, HBV.out⟩⟩, HVD.out, HVL.out⟩
            | (obtain ⟨q0, q1, q2⟩ := HR.out
               have z4 := HZ4.out
               refine ⟨⟨(HSt.out.both2 HA.out HB.out).1, (HSt.out.both2 HA.out HB.out).2, q0, q1, (HBV.out.mono (T := fun k => (k = w.heap.size ∨ k = w.heap.size + 1) ∨ (k = w2.heap.size ∨ k = w2.heap.size + 1)) (fun _ e => .inr e)).trans q2 (fun _ _ e => .inl e)⟩, (q2.block _ (get_lt' HVD.out) (by omega)).trans HVD.out, (q2.block _ (get_lt' HVL.out) (by omega)).trans HVL.out⟩))
    · have d1 : decide (x2 < x1) = true := decide_eq_true hx
      have d2 : decide (x1 < x2) = false := decide_eq_false (by omega)
      cases p <;> cases q <;> first
        | (exfalso; exact absurd HPQ2.out (by decide))
        | (have hP2 := HP.out.symm
           have hQ2 := HQ.out.symm
           rw [d1] at hP2
           rw [d2] at hQ2
           simp at hP2 hQ2
           subst hP2
           subst hQ2
           clear hV HP HQ
           gi_wp2
           first
            | exact ⟨⟨⟨_, _, HSt.out, rfl, HK.out.1, HK.out.2, HBV.out⟩⟩, HVD.out, HVL.out⟩
            | (obtain ⟨q0, q1, q2⟩ := HR.out
               have z4 := HZ4.out
               refine ⟨⟨(HSt.out.both2 HA.out HB.out).1, (HSt.out.both2 HA.out HB.out).2, q0, q1, (HBV.out.mono (T := fun k => (k = w.heap.size ∨ k = w.heap.size + 1) ∨ (k = w2.heap.size ∨ k = w2.heap.size + 1)) (fun _ e => .inr e)).trans q2 (fun _ _ e => .inl e)⟩, (q2.block _ (get_lt' HVD.out) (by omega)).trans HVD.out, (q2.block _ (get_lt' HVL.out) (by omega)).trans HVL.out⟩))
  case hdone =>
    rintro s W rfl ⟨p, q, hap, hpq, hp, hq, hb⟩ hd
    have HLe := hide (hap.done HA.out HB.out hpq)
    have z4 := HZ4.out
    have z0 := S0.out
    have BW : Below W0.heap.size W0 W := HB4.out.trans (hb.below HB4.out.size (fun k hk => by omega))
    have r0 : W.heap[w.heap.size]? = some (.cells #[.bool false] 4 (0, 0)) := (BW.block _ (get_lt' Z0.out)).trans Z0.out
    have r1 : W.heap[w.heap.size + 1]? = some (.cells #[.int .i64 0] 25 (0, 0)) := (BW.block _ (get_lt' Z1.out)).trans Z1.out
    have g0 : W.cell? ⟨w.heap.size, 0, none⟩ = some (.bool false) := cell_at r0 rfl
    have g1 : W.cell? ⟨w.heap.size + 1, 0, none⟩ = some (.int .i64 0) := cell_at r1 rfl
    have f0 := frz r0 0
    have f1 := frz r1 0
    have HR := hide (two_set r0 r1 (.bool false) (.int .i64 0))
    have HBW := hide (Below.on B0.out BW)
    have HD := hide hd
    clear hap hpq hp hq hb hd r0 r1 z4 z0 BW
    gi_wp2_with fail
    obtain ⟨q0, q1, q2⟩ := HR.out
    generalize hX : (W.setCell ⟨w.heap.size, 0, none⟩ (.bool false)).setCell ⟨w.heap.size + 1, 0, none⟩ (.int .i64 0) = X at q0 q1 q2 ⊢
    have hz := HZ4.out
    have dX := (q2.block _ (get_lt' HD.out) (by omega)).trans HD.out
    have bX : Below w.heap.size w X := HBW.out.trans (q2.below HBW.out.size (fun k hk => by rcases hk with e | e <;> omega))
    refine ⟨by simp, .inl ⟨_, _, rfl, run_takeDeferred dX, ?_⟩⟩
    have a0 := (World.putObj_heap_other (w := X) (o := .deferred none) (show w.heap.size ≠ w4.heap.size by omega)).trans q0
    have a1 := (World.putObj_heap_other (w := X) (o := .deferred none) (show w.heap.size + 1 ≠ w4.heap.size by omega)).trans q1
    refine ⟨_, results_cc Try.results33 _ _ w.heap.size (w.heap.size + 1) _ _ rfl (load_bool a0) rfl (load_err a1), by rw [HLe.out], bX.trans ((but_put X _ _).below bX.size (fun k hk => by have e : k = w4.heap.size := hk; omega))⟩
  case hstop =>
    rintro X ⟨hle, hle2, q0, q1, q2⟩ hd
    have HLe := hide (And.intro hle hle2)
    have z4 := HZ4.out
    have z0 := S0.out
    have b4 := Below.on B0.out HB4.out
    have bX : Below w.heap.size w X := b4.trans (q2.below b4.size (fun k hk => by rcases hk with (e | e) | (e | e) <;> omega))
    have HD := hide hd
    have HQ := hide (And.intro q0 (And.intro q1 bX))
    clear hle hle2 q0 q1 q2 hd b4 bX z4 z0
    gi_wp2_with fail
    obtain ⟨q0, q1, bX⟩ := HQ.out
    have z4 := HZ4.out
    refine ⟨by simp, .inl ⟨_, _, rfl, run_takeDeferred HD.out, ?_⟩⟩
    have a0 := (World.putObj_heap_other (w := X) (o := .deferred none) (show w.heap.size ≠ w4.heap.size by omega)).trans q0
    have a1 := (World.putObj_heap_other (w := X) (o := .deferred none) (show w.heap.size + 1 ≠ w4.heap.size by omega)).trans q1
    refine ⟨_, results_cc Try.results33 _ _ w.heap.size (w.heap.size + 1) _ _ rfl (load_bool a0) rfl (load_err a1), by rw [HLe.out.1, HLe.out.2]; rfl, bX.trans ((but_put X _ _).below bX.size (fun k hk => by have e : k = w4.heap.size := hk; omega))⟩
end Go.Proofs.Ytajkenbcndmjpab
