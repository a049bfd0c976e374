/-
  Next.
-/
import Derived.Test.YtdlpffbeladgaaaMgE
namespace Go.Proofs.Ytdlpffbeladgaaa
open Go.RowKit Go.Maps Go.Shelf
attribute [local go_sem] Oper.semAt_some
theorem Mgr.not_ty {w : World} {base p ph : Nat} {rv : Value} {gs : List Int} {s : MSt} (h : Mgr w base p rv ph gs s) {q : Nat} {o : Obj} (ho : w.heap[q]? = some o) (hn : ∀ cur T, o = .cells cur T (0, 0) → T ≠ 73 ∧ T ≠ 38 ∧ T ≠ 92 ∧ T ≠ 95) : ¬ Mine p rv ph s.hv q := by
  intro hm
  obtain ⟨cur, T, h1, h2⟩ := h.ty hm
  rw [ho] at h1
  obtain ⟨n1, n2, n3, n4⟩ := hn cur T (Option.some.inj h1)
  rcases h2 with e | e | e | e
  · exact n1 e
  · exact n2 e
  · exact n3 e
  · exact n4 e
theorem Mgr.not_loop {w : World} {base p ph : Nat} {rv : Value} {gs : List Int} {s : MSt} (h : Mgr w base p rv ph gs s) {q : Nat} {o : Loop} (ho : w.heap[q]? = some (.loop o)) : ¬ Mine p rv ph s.hv q := h.not_ty ho (fun _ _ e => by cases e)
theorem Mgr.not_def {w : World} {base p ph : Nat} {rv : Value} {gs : List Int} {s : MSt} (h : Mgr w base p rv ph gs s) {q : Nat} (ho : w.heap[q]? = some (.deferred (some []))) : ¬ Mine p rv ph s.hv q := h.not_ty ho (fun _ _ e => by cases e)
theorem get_lt' {w : World} {q : Nat} {o : Obj} (h : w.heap[q]? = some o) : q < w.heap.size := (Array.getElem?_eq_some_iff.1 h).1
theorem heap_old {w : World} {q : Nat} {o ob : Obj} (h : w.heap[q]? = some ob) : (w.alloc o).heap[q]? = some ob := (Below.heap_alloc _ _ _ (get_lt' h)).trans h
theorem but_setC (W : World) (p : Addr) (v : Value) : But (fun q => q = p.block) W (W.setCell p v) := (But.refl (fun q => q = p.block) W).setCell p (fun _ => rfl) v
theorem but_setRow (W : World) (g : Nat) (cs : Array Value) : But (fun k => k = g) W (W.setRow g cs) := ⟨rfl, rfl, rfl, by simp, fun k _ hk => setRow_other W g k cs hk⟩
/-- A block that is no cells, put anew. -/
theorem Take.put {base p ph : Nat} {rv : Value} {gs : List Int} {s s2 : MSt} {x : Int × Rc} {w W : World} (h : Take base p rv ph gs s x w W s2) {q : Nat} {o : Obj} (ho : W.heap[q]? = some o) (hn : ∀ cur T, o ≠ .cells cur T (0, 0)) (hq : w.heap.size ≤ q) (o' : Obj) : Take base p rv ph gs s x w (W.putObj q o') s2 := by
  have hB := but_put W q o'
  have hm : ¬ Mine p rv ph s2.hv q := h.mgr.not_ty ho (fun cur T e => absurd e (hn cur T))
  refine ⟨h.pick, h.mgr.but hB (fun r hr e => hm (by have e9 : r = q := e; rw [← e9]; exact hr)) (fun b cur _ hb e => ?_), ?_, h.new⟩
  · have e9 : b = q := e
    rw [e9, ho] at hb
    exact hn cur _ (Option.some.inj hb)
  · exact ⟨hB.os.trans h.but.os, hB.tape.trans h.but.tape, hB.output.trans h.but.output, Nat.le_trans h.but.size hB.size, fun k hk hm => (hB.block k (by have := h.but.size; omega) (fun e => by have e9 : k = q := e; omega)).trans (h.but.block k hk hm)⟩
theorem load_3 {w : World} {g : Nat} {v : Value} {t : TypeId} (h : w.heap[g]? = some (.cells #[v] t (0, 0))) : (loadVar 3 ⟨g, 0, none⟩).run Try.prog w = .ok v w := by
  have c : w.cell? ⟨g, 0, none⟩ = some v := cell_at h rfl
  go_simp
theorem load_err {w : World} {g : Nat} {v : Value} {t : TypeId} (h : w.heap[g]? = some (.cells #[v] t (0, 0))) : (loadVar 30 ⟨g, 0, none⟩).run Try.prog w = .ok v w := by
  have c : w.cell? ⟨g, 0, none⟩ = some v := cell_at h rfl
  go_simp
theorem Take.rest {base p ph : Nat} {rv : Value} {gs : List Int} {s s2 : MSt} {x : Int × Rc} {w U X : World} (h : Take base p rv ph gs s x w U s2) {S : Nat → Prop} (hB : But S U X) (hS : ∀ q, S q → w.heap.size ≤ q ∧ ∃ cur T, U.heap[q]? = some (.cells cur T (0, 0)) ∧ T ≠ 73 ∧ T ≠ 38 ∧ T ≠ 92 ∧ T ≠ 95 ∧ T ≠ 41) : Take base p rv ph gs s x w X s2 := by
  refine ⟨h.pick, h.mgr.but hB (fun q hm hq => ?_) (fun b cur _ hb hq => ?_), ?_, h.new⟩
  · obtain ⟨_, cur, T, h1, n1, n2, n3, n4, _⟩ := hS q hq
    exact h.mgr.not_ty h1 (fun cur' T' e => by cases e; exact ⟨n1, n2, n3, n4⟩) hm
  · obtain ⟨_, cur', T, h1, _, _, _, _, n5⟩ := hS b hq
    rw [hb] at h1
    cases h1
    exact n5 rfl
  · exact ⟨hB.os.trans h.but.os, hB.tape.trans h.but.tape, hB.output.trans h.but.output, Nat.le_trans h.but.size hB.size, fun k hk hm => (hB.block k (by have := h.but.size; omega) (fun e => by have := (hS k e).1; omega)).trans (h.but.block k hk hm)⟩
/-- What Next's three variables hold, a record taken. -/
structure Gave (w : World) (base p : Nat) (rv : Value) (ph : Nat) (gs : List Int) (s : MSt) (W : World) (x : Int × Rc) (s2 : MSt) : Prop where
  ev : W.heap[w.heap.size]? = some (.cells #[.int .i64 x.1, .int .i64 x.2.kind, .int .u64 x.2.obj, .int .u64 x.2.arg, .slice none 0 0] 46 (0, 0))
  sk : W.heap[w.heap.size + 1]? = some (.cells #[.int .i64 x.2.stack] 3 (0, 0))
  er : W.heap[w.heap.size + 2]? = some (.cells #[.int .i64 0] 30 (0, 0))
  tk : Take base p rv ph gs s x w W s2
theorem Gave.put {w : World} {base p ph : Nat} {rv : Value} {gs : List Int} {s s2 : MSt} {W : World} {x : Int × Rc} (h : Gave w base p rv ph gs s W x s2) {q : Nat} {o : Obj} (ho : W.heap[q]? = some o) (hn : ∀ cur T, o ≠ .cells cur T (0, 0)) (hq : w.heap.size + 2 < q) (o' : Obj) : Gave w base p rv ph gs s (W.putObj q o') x s2 :=
  ⟨(World.putObj_heap_other (by omega)).trans h.ev, (World.putObj_heap_other (by omega)).trans h.sk, (World.putObj_heap_other (by omega)).trans h.er, h.tk.put ho hn (by omega) o'⟩
set_option maxRecDepth 100000 in
set_option maxHeartbeats 4000000 in
theorem next_any {w : World} {base p ph : Nat} {rv : Value} {gs : List Int} {s : MSt} (h : Mgr w base p rv ph gs s) (hbs : base ≤ w.heap.size) :
    Calls Try.prog 16 #[.pointer (some ⟨p, 0, none⟩)] w fun r w' => (∃ x s2, r = .returned (.tuple #[.agg #[.int .i64 x.1, .int .i64 x.2.kind, .int .u64 x.2.obj, .int .u64 x.2.arg, .slice none 0 0], .int .i64 x.2.stack, .int .i64 0]) ∧ Take base p rv ph gs s x w w' s2) ∨ (∃ f, f ≠ 0 ∧ Flt s.Ls s.at_ f ∧ r = .returned (.tuple #[.agg #[.int .i64 0, .int .i64 0, .int .u64 0, .int .u64 0, .slice none 0 0], .int .i64 0, .int .i64 f]) ∧ Below w.heap.size w w') := by
  obtain ⟨w3, hw3⟩ : ∃ w3, w3 = ((w.alloc (.cells #[.int .i64 0, .int .i64 0, .int .u64 0, .int .u64 0, .slice none 0 0] 46)).alloc (.cells #[.int .i64 0] 3)).alloc (.cells #[.int .i64 0] 30) := ⟨_, rfl⟩
  have b3 : Below w.heap.size w w3 := by rw [hw3]; exact (below_alloc2 _ _ _).alloc (by simp; omega) _
  have s3 : w3.heap.size = w.heap.size + 3 := by rw [hw3]; simp
  have t0 : w3.heap[w.heap.size]? = some (.cells #[.int .i64 0, .int .i64 0, .int .u64 0, .int .u64 0, .slice none 0 0] 46 (0, 0)) := by rw [hw3]; exact heap_old (heap_old (heap_new _ _))
  have t1 : w3.heap[w.heap.size + 1]? = some (.cells #[.int .i64 0] 3 (0, 0)) := by rw [hw3]; exact heap_old (heap_new2 _ _ _)
  have t2 : w3.heap[w.heap.size + 1 + 1]? = some (.cells #[.int .i64 0] 30 (0, 0)) := by
    rw [hw3]
    have h9 := World.alloc_heap_new ((w.alloc (.cells #[.int .i64 0, .int .i64 0, .int .u64 0, .int .u64 0, .slice none 0 0] 46)).alloc (.cells #[.int .i64 0] 3)) (.cells #[.int .i64 0] 30)
    rw [World.size_alloc, World.size_alloc] at h9
    exact h9
  have M3 := h.below b3
  have IT := inturn_any M3
  have HW3 : Hid _ := hide hw3
  have HS3 : Hid _ := hide s3
  have HM3 : Hid _ := hide M3
  have HB3 : Hid _ := hide b3
  have HT0 : Hid _ := hide t0
  have HT1 : Hid _ := hide t1
  have HT2 : Hid _ := hide t2
  have HM : Hid _ := hide h
  clear h hw3 s3 M3 b3 t0 t1 t2
  refine (callsIn_wide (n := 4)).1 ?_
  refine callsIn_of_wp_marks Try.func16 rfl trivial ?_ rfl
  simp only [Try.ntmps16, List.size_toArray, List.length_cons, List.length_nil, Nat.reduceAdd, Nat.reduceSub, Array.replicate_succ, Array.replicate_zero, List.push_toArray, List.append_toArray, List.nil_append, List.cons_append]
  gi_wp2_with fail
  rw [← HW3.out]
  refine ⟨trivial, CallsIn.mono (callsIn_wide.2 IT) ?_⟩
  rintro r w4 ⟨rfl, hw4⟩
  clear IT
  have HB4 : Hid (Below w3.heap.size w3 w4) := hide (by rw [hw4]; exact below_alloc2 _ _ _)
  have HS4 : Hid (w4.heap.size = w.heap.size + 5) := hide (by rw [hw4]; simp; have := HS3.out; omega)
  have HX1 : Hid (w4.heap[w3.heap.size]? = some (.cells #[.pointer (some ⟨p, 0, none⟩)] 25 (0, 0))) := hide (by rw [hw4]; exact heap_old (heap_new _ _))
  have HX2 : Hid (w4.heap[w3.heap.size + 1]? = some (.cells #[.pointer (some ⟨ph, 0, none⟩)] 68 (0, 0))) := hide (by rw [hw4]; exact heap_new2 _ _ _)
  have HM4 : Hid (Mgr w4 base p rv ph gs s) := hide (HM3.out.below HB4.out)
  have HB : Hid (Below w.heap.size w w4) := hide (HB3.out.trans (HB4.out.mono HB3.out.size))
  clear hw4
  gi_wp2_with fail
  refine range_turn (n := 4) (by omega) (gf := 42) (lb := #[.pointer (some ⟨w3.heap.size, 0, none⟩), .pointer (some ⟨w3.heap.size + 1, 0, none⟩)]) rfl (enters_of Try.func42 (by kernel_rfl) rfl) (σ := MSt) (ε := Int × Rc)
    (fun x => #[.int .i64 x.1, .agg #[.int .i64 x.2.stamp, .int .i64 x.2.kind, .int .u64 x.2.obj, .int .u64 x.2.arg, .int .i64 x.2.stack]]) (fun _ => rfl) (fun s' W => s' = s ∧ Below w4.heap.size w4 W) (fun W => ∃ x s2, Gave w base p rv ph gs s W x s2) (fun s' => ∃ f, Flt s'.Ls s'.at_ f ∧ f ≠ 0) s (fun s' x W W2 s2 => Take base p rv ph gs s' x W W2 s2) ?hI ?hIx ?hIb ?hTk ?h0 ?hseq
    (fun x W a1 W3 => W3 = W.alloc (.cells #[.int .i64 x.2.stamp, .int .i64 x.2.kind, .int .u64 x.2.obj, .int .u64 x.2.arg, .int .i64 x.2.stack] 41) ∧ a1 = { tmps := #[Value.pointer (some ⟨p, 0, none⟩), undef, Value.pointer (some ⟨w.heap.size, 0, none⟩), Value.pointer (some ⟨w.heap.size + 1, 0, none⟩), Value.pointer (some ⟨w.heap.size + 1 + 1, 0, none⟩), .int .i64 x.1, .pointer (some ⟨W.heap.size, 0, none⟩),
      Value.pointer (some ⟨p, 0, none⟩), Value.bool false, undef, Value.pointer (some ⟨p, 0, none⟩), Value.func (Fn.func 42) #[] #[Value.pointer (some ⟨w3.heap.size, 0, none⟩), Value.pointer (some ⟨w3.heap.size + 1, 0, none⟩)], .int .i64 x.1, .agg #[.int .i64 x.2.stamp, .int .i64 x.2.kind, .int .u64 x.2.obj, .int .u64 x.2.arg, .int .i64 x.2.stack], undef, undef, undef, undef, undef, undef, undef, undef], defers := [] }) ?hA ?hassign ?hbody ?hdone ?hstop
  case hI =>
    rintro s' W o o' ⟨h1, h2⟩ hl
    exact ⟨h1, h2.trans ((but_put W _ o').below h2.size (fun k hk => by have e : k = w4.heap.size + 1 := hk; omega))⟩
  case hIx =>
    rintro W o o' ⟨x, s2, g⟩ hl
    exact ⟨x, s2, g.put hl (fun _ _ e => by cases e) (by have := HS4.out; omega) o'⟩
  case hIb =>
    rintro s' W W' ⟨h1, h2⟩ hb
    exact ⟨h1, h2.trans (hb.mono h2.size)⟩
  case hTk =>
    rintro s' x W W2 s2 ⟨rfl, hb⟩ tk
    have M := HM4.out.below hb
    exact ⟨fun o ho => (tk.but.block _ (get_lt' ho) (M.not_loop ho)).trans ho, fun ho => (tk.but.block _ (get_lt' ho) (M.not_def ho)).trans ho⟩
  case h0 => exact ⟨rfl, Below.refl _ _⟩
  case hseq =>
    intro l J Jx W hJI hJb hY hJ0
    refine turn_in 3 l w3.heap.size (w3.heap.size + 1) base p ph rv gs J Jx (fun s' W1 hj => ?_) hJb (fun s' x W1 W2 s2 hj tk => hY s' x W1 W2 s2 hj tk) W s hJ0 (by omega)
    obtain ⟨e, hb⟩ := hJI s' W1 hj
    subst e
    have M := HM4.out.below hb
    have r1 := (hb.block _ (get_lt' HX1.out)).trans HX1.out
    have r2 := (hb.block _ (get_lt' HX2.out)).trans HX2.out
    refine ⟨M, cell_at r1 rfl, cell_at r2 rfl, fun s9 M9 => ⟨M9.not_ty r1 (fun cur T e => by cases e; decide), M9.not_ty r2 (fun cur T e => by cases e; decide)⟩, ?_⟩
    have := HS4.out; have := hb.size; omega
  case hA =>
    rintro x W a1 W3 ⟨rfl, _⟩
    exact below_alloc1 _ _
  case hassign =>
    intro l s' x s2 W W2 K hI tk hK
    gi_wp2
  case hbody =>
    intro l s' x s2 W W2 a1 W3 o o' hI tk hA hlt hl hd
    obtain ⟨e, hb⟩ := hI
    subst e
    obtain ⟨rfl, rfl⟩ := hA
    have M := HM4.out.below hb
    have z4 := HS4.out
    have zb := hb.size
    have zt := tk.but.size
    have hne : ¬ W2.heap.size = w4.heap.size + 1 := fun e => by
      rw [← e, World.alloc_heap_new] at hl
      cases hl
    obtain ⟨U, hU⟩ : ∃ U, U = (W2.alloc (.cells #[.int .i64 x.2.stamp, .int .i64 x.2.kind, .int .u64 x.2.obj, .int .u64 x.2.arg, .int .i64 x.2.stack] 41)).putObj (w4.heap.size + 1) (.loop o') := ⟨_, rfl⟩
    rw [← hU]
    have hsz : W2.heap.size < U.heap.size := by rw [hU]; simp
    have keep : ∀ q ob, q < w4.heap.size → w4.heap[q]? = some ob → ¬ Mine p rv ph s'.hv q → U.heap[q]? = some ob := fun q ob hq ho hm => by
      have a1 := (hb.block q hq).trans ho
      have a2 := (tk.but.block q (by omega) hm).trans a1
      rw [hU]
      exact (World.putObj_heap_other (by omega)).trans (heap_old a2)
    have HU0 : Hid (U.heap[w.heap.size]? = some (.cells #[.int .i64 0, .int .i64 0, .int .u64 0, .int .u64 0, .slice none 0 0] 46 (0, 0))) := hide (by
      have e0 := (HB4.out.block _ (get_lt' HT0.out)).trans HT0.out
      exact keep _ _ (by omega) e0 (HM4.out.not_ty e0 (fun cur T e => by cases e; decide)))
    have HU1 : Hid (U.heap[w.heap.size + 1]? = some (.cells #[.int .i64 0] 3 (0, 0))) := hide (by
      have e0 := (HB4.out.block _ (get_lt' HT1.out)).trans HT1.out
      exact keep _ _ (by omega) e0 (HM4.out.not_ty e0 (fun cur T e => by cases e; decide)))
    have HU2 : Hid (U.heap[w.heap.size + 1 + 1]? = some (.cells #[.int .i64 0] 30 (0, 0))) := hide (by
      have e0 := (HB4.out.block _ (get_lt' HT2.out)).trans HT2.out
      exact keep _ _ (by omega) e0 (HM4.out.not_ty e0 (fun cur T e => by cases e; decide)))
    have rU : U.heap[W2.heap.size]? = some (.cells #[.int .i64 x.2.stamp, .int .i64 x.2.kind, .int .u64 x.2.obj, .int .u64 x.2.arg, .int .i64 x.2.stack] 41 (0, 0)) := by
      rw [hU]; exact (World.putObj_heap_other hne).trans (heap_new _ _)
    have HS : Hid (∀ X, But (fun q => q = w.heap.size ∨ q = w.heap.size + 1 ∨ q = w.heap.size + 1 + 1) U X → X.cell? ⟨W2.heap.size, 0, none⟩ = some (.int .i64 x.2.stamp) ∧ X.cell? ⟨W2.heap.size, 1, none⟩ = some (.int .i64 x.2.kind) ∧ X.cell? ⟨W2.heap.size, 2, none⟩ = some (.int .u64 x.2.obj) ∧ X.cell? ⟨W2.heap.size, 3, none⟩ = some (.int .u64 x.2.arg) ∧ X.cell? ⟨W2.heap.size, 4, none⟩ = some (.int .i64 x.2.stack)) := hide (fun X hX => by
      have r9 := (hX.block _ hsz (by omega)).trans rU
      exact ⟨cell_at r9 rfl, cell_at r9 rfl, cell_at r9 rfl, cell_at r9 rfl, cell_at r9 rfl⟩)
    have HZU : Hid (w.heap.size + 5 < U.heap.size) := hide (by omega)
    have HTK : Hid (Take base p rv ph gs s' x w U s2) := hide (by
      have T1 : Take base p rv ph gs s' x w (W2.alloc (.cells #[.int .i64 x.2.stamp, .int .i64 x.2.kind, .int .u64 x.2.obj, .int .u64 x.2.arg, .int .i64 x.2.stack] 41)) s2 := ⟨tk.pick, tk.mgr.below (below_alloc1 _ _), ((But.of_below (S := Mine p rv ph s'.hv) (HB.out.trans (hb.mono HB.out.size))).trans tk.but (fun _ _ e => e)).trans (But.of_below (S := Mine p rv ph s'.hv) (below_alloc1 _ _)) (fun _ _ e => e), fun q hq => (tk.new q hq).imp id (fun h9 => by omega)⟩
      rw [hU]
      exact T1.put hl (fun _ _ e => by cases e) (by omega) _)
    have HL : Hid (U.heap[w4.heap.size + 1]? = some (.loop o')) := hide (by rw [hU]; exact World.putObj_heap_same (get_lt' hl))
    have HD : Hid (U.heap[w4.heap.size]? = some (.deferred (some []))) := hide (by rw [hU]; exact (World.putObj_heap_other (by omega)).trans hd)
    clear hU keep rU M zb zt hne hsz hlt hl hd tk hb
    gi_wp2_with fail
    refine wpIn_region_round (S := fun X => X.cell? ⟨W2.heap.size, 0, none⟩ = some (.int .i64 x.2.stamp) ∧ X.cell? ⟨W2.heap.size, 1, none⟩ = some (.int .i64 x.2.kind) ∧ X.cell? ⟨W2.heap.size, 2, none⟩ = some (.int .u64 x.2.obj) ∧ X.cell? ⟨W2.heap.size, 3, none⟩ = some (.int .u64 x.2.arg) ∧ X.cell? ⟨W2.heap.size, 4, none⟩ = some (.int .i64 x.2.stack)) (by rintro ⟨_, _, h9⟩; rcases (h9 : (_ ∨ _) ∧ _) with ⟨⟨e, _⟩ | ⟨e, _⟩, _⟩ <;> cases e) (noDefer_spec (by kernel_rfl)) (by kernel_rfl) (HS.out _ (But.refl _ _).drew) (fun hHeld => ?_)
    refine wpAnyH_take (i := 0) (oi := _) (v := ?v0) rfl (by kernel_rfl) (by kernel_rfl) (by kernel_rfl) (fun _ _ _ h => h) (Or.inl ⟨by rfl, ?y0⟩) (by assumption) ?r0
    case y0 => (intro w' hSw; (try dsimp only at hSw); go_simp; try with_reducible rfl)
    refine wpAnyH_take (i := 1) (oi := _) (v := ?v1) rfl (by kernel_rfl) (by kernel_rfl) (by kernel_rfl) (fun _ _ _ h => h) (Or.inl ⟨by rfl, ?y1⟩) (by assumption) ?r1
    case y1 => (intro w' hSw; (try dsimp only at hSw); go_simp; try with_reducible rfl)
    refine wpAnyH_take (i := 3) (oi := _) (v := ?v3) rfl (by kernel_rfl) (by kernel_rfl) (by kernel_rfl) (fun _ _ _ h => h) (Or.inl ⟨by rfl, ?y3⟩) (by assumption) ?r3
    case y3 => (intro w' hSw; (try dsimp only at hSw); go_simp; try with_reducible rfl)
    refine wpAnyH_take (i := 4) (oi := _) (v := ?v4) rfl (by kernel_rfl) (by kernel_rfl) (by kernel_rfl) (fun _ _ _ h => h) (Or.inl ⟨by rfl, ?y4⟩) (by assumption) ?r4
    case y4 => (intro w' hSw; (try dsimp only at hSw); go_simp; try with_reducible rfl)
    refine wpAnyH_ready (rs := [2]) (by kernel_rfl) (by simp) ?_
    refine AllReadyH.cons (o := _) rfl (fun KK hKK => ?_) AllReadyH.nil
    go_simp
    refine (event_any x.1 x.2 _).mono ?_
    rintro e8 U8 ⟨rfl, b8⟩
    have B8 : But (fun q => q = w.heap.size ∨ q = w.heap.size + 1 ∨ q = w.heap.size + 1 + 1) U U8 := (But.refl (fun q => q = w.heap.size ∨ q = w.heap.size + 1 ∨ q = w.heap.size + 1 + 1) U).drew.trans (But.of_below (S := fun q => q = w.heap.size ∨ q = w.heap.size + 1 ∨ q = w.heap.size + 1 + 1) b8) (fun _ _ e => e)
    have q0 := (b8.block w.heap.size (by have := HZU.out; simp; omega)).trans HU0.out
    have q1 := (b8.block (w.heap.size + 1) (by have := HZU.out; simp; omega)).trans HU1.out
    have q2 := (b8.block (w.heap.size + 1 + 1) (by have := HZU.out; simp; omega)).trans HU2.out
    have HB8 : Hid _ := hide B8
    clear b8 B8
    refine hKK.out _ _ (HS.out _ HB8.out) (fun hHeld2 => ?_)
    clear hKK KK
    refine wpAnyH_ready (rs := [5]) (by kernel_rfl) (by simp) ?_
    refine AllReadyH.cons (o := _) rfl (fun KK hKK => ?_) AllReadyH.nil
    rw [if_pos (by rfl)]
    refine wp_store_row 46 (.tmp 2) (.tmp 16) rfl w.heap.size #[.int .i64 x.1, .int .i64 x.2.kind, .int .u64 x.2.obj, .int .u64 x.2.arg, .slice none 0 0] rfl rfl 46 #[.int .i64 0, .int .i64 0, .int .u64 0, .int .u64 0, .slice none 0 0] q0 (by kernel_rfl) rfl (by simp [Value.oneCell']) ?_
    have B9 : But (fun q => q = w.heap.size ∨ q = w.heap.size + 1 ∨ q = w.heap.size + 1 + 1) U (U8.setRow w.heap.size #[.int .i64 x.1, .int .i64 x.2.kind, .int .u64 x.2.obj, .int .u64 x.2.arg, .slice none 0 0]) := HB8.out.trans (but_setRow _ _ _) (fun _ _ e => .inl e)
    have p0 := setRow_heap U8 w.heap.size _ #[.int .i64 x.1, .int .i64 x.2.kind, .int .u64 x.2.obj, .int .u64 x.2.arg, .slice none 0 0] _ _ q0
    have p1 := (setRow_other U8 w.heap.size (w.heap.size + 1) #[.int .i64 x.1, .int .i64 x.2.kind, .int .u64 x.2.obj, .int .u64 x.2.arg, .slice none 0 0] (by omega)).trans q1
    have p2 := (setRow_other U8 w.heap.size (w.heap.size + 1 + 1) #[.int .i64 x.1, .int .i64 x.2.kind, .int .u64 x.2.obj, .int .u64 x.2.arg, .slice none 0 0] (by omega)).trans q2
    generalize hU9 : U8.setRow w.heap.size #[.int .i64 x.1, .int .i64 x.2.kind, .int .u64 x.2.obj, .int .u64 x.2.arg, .slice none 0 0] = U9 at B9 p0 p1 p2
    have HB9 : Hid _ := hide B9
    have HP0 : Hid _ := hide p0
    clear B9 p0 q0 q1 q2 hU9
    refine hKK.out _ _ (HS.out _ HB9.out) (fun hHeld5 => ?_)
    clear hKK KK
    refine wpAnyH_ready (rs := [6]) (by kernel_rfl) (by simp) ?_
    refine AllReadyH.cons (o := _) rfl (fun KK hKK => ?_) AllReadyH.nil
    rw [if_pos (by rfl)]
    have c1 : U9.cell? ⟨w.heap.size + 1, 0, none⟩ = some (.int .i64 0) := cell_at p1 rfl
    have fz1 := frz p1 0
    go_simp
    have B10 : But (fun q => q = w.heap.size ∨ q = w.heap.size + 1 ∨ q = w.heap.size + 1 + 1) U (U9.setCell ⟨w.heap.size + 1, 0, none⟩ (.int .i64 x.2.stack)) := HB9.out.setCell ⟨w.heap.size + 1, 0, none⟩ (fun _ => .inr (.inl rfl)) _
    have o0 := ((but_setC U9 ⟨w.heap.size + 1, 0, none⟩ (.int .i64 x.2.stack)).block w.heap.size (get_lt' HP0.out) (by simp)).trans HP0.out
    have o1 := set1_heap (i := 0) (.int .i64 x.2.stack) p1
    have o2 := ((but_setC U9 ⟨w.heap.size + 1, 0, none⟩ (.int .i64 x.2.stack)).block (w.heap.size + 1 + 1) (get_lt' p2) (by simp)).trans p2
    generalize hU10 : U9.setCell ⟨w.heap.size + 1, 0, none⟩ (.int .i64 x.2.stack) = U10 at B10 o0 o1 o2
    have HB10 : Hid _ := hide B10
    have HO0 : Hid _ := hide o0
    have HO1 : Hid _ := hide o1
    clear B10 o0 o1 p1 p2 c1 fz1 hU10
    refine hKK.out _ _ (HS.out _ HB10.out) (fun hHeld6 => ?_)
    clear hKK KK
    refine wpAnyH_ready (rs := [7]) (by kernel_rfl) (by simp) ?_
    refine AllReadyH.cons (o := _) rfl (fun KK hKK => ?_) AllReadyH.nil
    rw [if_pos (by rfl)]
    have c2 : U10.cell? ⟨w.heap.size + 1 + 1, 0, none⟩ = some (.int .i64 0) := cell_at o2 rfl
    have fz2 := frz o2 0
    go_simp
    have B11 : But (fun q => q = w.heap.size ∨ q = w.heap.size + 1 ∨ q = w.heap.size + 1 + 1) U (U10.setCell ⟨w.heap.size + 1 + 1, 0, none⟩ (.int .i64 0)) := HB10.out.setCell ⟨w.heap.size + 1 + 1, 0, none⟩ (fun _ => .inr (.inr rfl)) _
    have n0 := ((but_setC U10 ⟨w.heap.size + 1 + 1, 0, none⟩ (.int .i64 0)).block w.heap.size (get_lt' HO0.out) (by simp; omega)).trans HO0.out
    have n1 := ((but_setC U10 ⟨w.heap.size + 1 + 1, 0, none⟩ (.int .i64 0)).block (w.heap.size + 1) (get_lt' HO1.out) (by simp)).trans HO1.out
    have n2 := set1_heap (i := 0) (.int .i64 0) o2
    generalize hU11 : U10.setCell ⟨w.heap.size + 1 + 1, 0, none⟩ (.int .i64 0) = U11 at B11 n0 n1 n2
    have HB11 : Hid _ := hide B11
    have HN0 : Hid _ := hide n0
    have HN1 : Hid _ := hide n1
    have HN2 : Hid _ := hide n2
    clear B11 n0 n1 n2 o2 c2 fz2 hU11
    refine hKK.out _ _ (HS.out _ HB11.out) (fun hHeld7 => ?_)
    clear hKK KK
    refine wpAnyH_done (by kernel_rfl) ?_ _

    clear z4
    gi_wp2
    refine ⟨⟨x.1, x.2, s2, ⟨HN0.out, HN1.out, HN2.out, HTK.out.rest HB11.out ?_⟩⟩, ?_, ?_⟩
    · rintro q (rfl | rfl | rfl)
      · exact ⟨by omega, _, _, HU0.out, by decide⟩
      · exact ⟨by omega, _, _, HU1.out, by decide⟩
      · exact ⟨by omega, _, _, HU2.out, by decide⟩
    · have z4 := HS4.out
      exact (HB11.out.block _ (get_lt' HD.out) (by omega)).trans HD.out
    · have z4 := HS4.out
      exact (HB11.out.block _ (get_lt' HL.out) (by omega)).trans HL.out
  case hdone =>
    rintro s' W ⟨f, hf, hf0⟩ ⟨e, hb⟩ hd
    subst e
    have M := HM4.out.below hb
    have FA := fault_any M
    have HF : Hid _ := hide hf
    have HF0 : Hid _ := hide hf0
    have HBW : Hid _ := hide hb
    have HD : Hid _ := hide hd
    clear M hf hf0 hb hd
    gi_wp2_with fail
    refine ⟨trivial, CallsIn.mono (callsIn_wide.2 FA) ?_⟩
    rintro r W5 ⟨f5, rfl, hf5, b5⟩
    clear FA
    obtain rfl := HF.out.uniq hf5
    have e0 := (b5.block _ (by have := HBW.out.size; have := HS4.out; omega)).trans ((HBW.out.block _ (by have := HS4.out; omega)).trans ((HB4.out.block _ (get_lt' HT0.out)).trans HT0.out))
    have e1 := (b5.block _ (by have := HBW.out.size; have := HS4.out; omega)).trans ((HBW.out.block _ (by have := HS4.out; omega)).trans ((HB4.out.block _ (get_lt' HT1.out)).trans HT1.out))
    have e2 := (b5.block _ (by have := HBW.out.size; have := HS4.out; omega)).trans ((HBW.out.block _ (by have := HS4.out; omega)).trans ((HB4.out.block _ (get_lt' HT2.out)).trans HT2.out))
    have d5 := (b5.block _ (get_lt' HD.out)).trans HD.out
    have HB5 : Hid (Below w.heap.size w W5) := hide ((HB.out.trans (HBW.out.mono HB.out.size)).trans (b5.mono (by have := HBW.out.size; have := HS4.out; omega)))
    clear b5 hf5
    have y0 : W5.cell? ⟨w.heap.size, 0, none⟩ = some (.int .i64 0) := cell_at e0 rfl
    have y1 : W5.cell? ⟨w.heap.size, 1, none⟩ = some (.int .i64 0) := cell_at e0 rfl
    have y2 : W5.cell? ⟨w.heap.size, 2, none⟩ = some (.int .u64 0) := cell_at e0 rfl
    have y3 : W5.cell? ⟨w.heap.size, 3, none⟩ = some (.int .u64 0) := cell_at e0 rfl
    have y4 : W5.cell? ⟨w.heap.size, 4, none⟩ = some (.slice none 0 0) := cell_at e0 rfl
    have y5 : W5.cell? ⟨w.heap.size + 1, 0, none⟩ = some (.int .i64 0) := cell_at e1 rfl
    have y6 : W5.cell? ⟨w.heap.size + 1 + 1, 0, none⟩ = some (.int .i64 0) := cell_at e2 rfl
    have g0 := frz e0 0
    have g1 := frz e0 1
    have g2 := frz e0 2
    have g3 := frz e0 3
    have g4 := frz e0 4
    have g5 := frz e1 0
    have g6 := frz e2 0
    have HE0 : Hid _ := hide e0
    have HE1 : Hid _ := hide e1
    have HE2 : Hid _ := hide e2
    have HD5 : Hid _ := hide d5
    clear e0 e1 e2 d5
    gi_wp2_with fail
    clear y0 y1 y2 y3 y4 y5 y6 g0 g1 g2 g3 g4 g5 g6
    have k00 := set1_heap (i := 0) (.int .i64 0) HE0.out
    have k10 := ((but_setC (W5) ⟨w.heap.size, 0, none⟩ (.int .i64 0)).block (w.heap.size + 1) (get_lt' HE1.out) (by simp <;> omega)).trans HE1.out
    have k20 := ((but_setC (W5) ⟨w.heap.size, 0, none⟩ (.int .i64 0)).block (w.heap.size + 1 + 1) (get_lt' HE2.out) (by simp <;> omega)).trans HE2.out
    have k01 := set1_heap (i := 1) (.int .i64 0) k00
    have k11 := ((but_setC ((W5).setCell ⟨w.heap.size, 0, none⟩ (.int .i64 0)) ⟨w.heap.size, 1, none⟩ (.int .i64 0)).block (w.heap.size + 1) (get_lt' k10) (by simp <;> omega)).trans k10
    have k21 := ((but_setC ((W5).setCell ⟨w.heap.size, 0, none⟩ (.int .i64 0)) ⟨w.heap.size, 1, none⟩ (.int .i64 0)).block (w.heap.size + 1 + 1) (get_lt' k20) (by simp <;> omega)).trans k20
    have k02 := set1_heap (i := 2) (.int .u64 0) k01
    have k12 := ((but_setC (((W5).setCell ⟨w.heap.size, 0, none⟩ (.int .i64 0)).setCell ⟨w.heap.size, 1, none⟩ (.int .i64 0)) ⟨w.heap.size, 2, none⟩ (.int .u64 0)).block (w.heap.size + 1) (get_lt' k11) (by simp <;> omega)).trans k11
    have k22 := ((but_setC (((W5).setCell ⟨w.heap.size, 0, none⟩ (.int .i64 0)).setCell ⟨w.heap.size, 1, none⟩ (.int .i64 0)) ⟨w.heap.size, 2, none⟩ (.int .u64 0)).block (w.heap.size + 1 + 1) (get_lt' k21) (by simp <;> omega)).trans k21
    have k03 := set1_heap (i := 3) (.int .u64 0) k02
    have k13 := ((but_setC ((((W5).setCell ⟨w.heap.size, 0, none⟩ (.int .i64 0)).setCell ⟨w.heap.size, 1, none⟩ (.int .i64 0)).setCell ⟨w.heap.size, 2, none⟩ (.int .u64 0)) ⟨w.heap.size, 3, none⟩ (.int .u64 0)).block (w.heap.size + 1) (get_lt' k12) (by simp <;> omega)).trans k12
    have k23 := ((but_setC ((((W5).setCell ⟨w.heap.size, 0, none⟩ (.int .i64 0)).setCell ⟨w.heap.size, 1, none⟩ (.int .i64 0)).setCell ⟨w.heap.size, 2, none⟩ (.int .u64 0)) ⟨w.heap.size, 3, none⟩ (.int .u64 0)).block (w.heap.size + 1 + 1) (get_lt' k22) (by simp <;> omega)).trans k22
    have k04 := set1_heap (i := 4) (.slice none 0 0) k03
    have k14 := ((but_setC (((((W5).setCell ⟨w.heap.size, 0, none⟩ (.int .i64 0)).setCell ⟨w.heap.size, 1, none⟩ (.int .i64 0)).setCell ⟨w.heap.size, 2, none⟩ (.int .u64 0)).setCell ⟨w.heap.size, 3, none⟩ (.int .u64 0)) ⟨w.heap.size, 4, none⟩ (.slice none 0 0)).block (w.heap.size + 1) (get_lt' k13) (by simp <;> omega)).trans k13
    have k24 := ((but_setC (((((W5).setCell ⟨w.heap.size, 0, none⟩ (.int .i64 0)).setCell ⟨w.heap.size, 1, none⟩ (.int .i64 0)).setCell ⟨w.heap.size, 2, none⟩ (.int .u64 0)).setCell ⟨w.heap.size, 3, none⟩ (.int .u64 0)) ⟨w.heap.size, 4, none⟩ (.slice none 0 0)).block (w.heap.size + 1 + 1) (get_lt' k23) (by simp <;> omega)).trans k23
    have k05 := ((but_setC ((((((W5).setCell ⟨w.heap.size, 0, none⟩ (.int .i64 0)).setCell ⟨w.heap.size, 1, none⟩ (.int .i64 0)).setCell ⟨w.heap.size, 2, none⟩ (.int .u64 0)).setCell ⟨w.heap.size, 3, none⟩ (.int .u64 0)).setCell ⟨w.heap.size, 4, none⟩ (.slice none 0 0)) ⟨w.heap.size + 1, 0, none⟩ (.int .i64 0)).block (w.heap.size) (get_lt' k04) (by simp <;> omega)).trans k04
    have k15 := set1_heap (i := 0) (.int .i64 0) k14
    have k25 := ((but_setC ((((((W5).setCell ⟨w.heap.size, 0, none⟩ (.int .i64 0)).setCell ⟨w.heap.size, 1, none⟩ (.int .i64 0)).setCell ⟨w.heap.size, 2, none⟩ (.int .u64 0)).setCell ⟨w.heap.size, 3, none⟩ (.int .u64 0)).setCell ⟨w.heap.size, 4, none⟩ (.slice none 0 0)) ⟨w.heap.size + 1, 0, none⟩ (.int .i64 0)).block (w.heap.size + 1 + 1) (get_lt' k24) (by simp <;> omega)).trans k24
    have k06 := ((but_setC (((((((W5).setCell ⟨w.heap.size, 0, none⟩ (.int .i64 0)).setCell ⟨w.heap.size, 1, none⟩ (.int .i64 0)).setCell ⟨w.heap.size, 2, none⟩ (.int .u64 0)).setCell ⟨w.heap.size, 3, none⟩ (.int .u64 0)).setCell ⟨w.heap.size, 4, none⟩ (.slice none 0 0)).setCell ⟨w.heap.size + 1, 0, none⟩ (.int .i64 0)) ⟨w.heap.size + 1 + 1, 0, none⟩ (.int .i64 f)).block (w.heap.size) (get_lt' k05) (by simp <;> omega)).trans k05
    have k16 := ((but_setC (((((((W5).setCell ⟨w.heap.size, 0, none⟩ (.int .i64 0)).setCell ⟨w.heap.size, 1, none⟩ (.int .i64 0)).setCell ⟨w.heap.size, 2, none⟩ (.int .u64 0)).setCell ⟨w.heap.size, 3, none⟩ (.int .u64 0)).setCell ⟨w.heap.size, 4, none⟩ (.slice none 0 0)).setCell ⟨w.heap.size + 1, 0, none⟩ (.int .i64 0)) ⟨w.heap.size + 1 + 1, 0, none⟩ (.int .i64 f)).block (w.heap.size + 1) (get_lt' k15) (by simp <;> omega)).trans k15
    have k26 := set1_heap (i := 0) (.int .i64 f) k25
    have BX : But (fun q => q = w.heap.size ∨ q = w.heap.size + 1 ∨ q = w.heap.size + 1 + 1) W5 ((((((((W5).setCell ⟨w.heap.size, 0, none⟩ (.int .i64 0)).setCell ⟨w.heap.size, 1, none⟩ (.int .i64 0)).setCell ⟨w.heap.size, 2, none⟩ (.int .u64 0)).setCell ⟨w.heap.size, 3, none⟩ (.int .u64 0)).setCell ⟨w.heap.size, 4, none⟩ (.slice none 0 0)).setCell ⟨w.heap.size + 1, 0, none⟩ (.int .i64 0)).setCell ⟨w.heap.size + 1 + 1, 0, none⟩ (.int .i64 f)) := ((((((((But.refl (fun q => q = w.heap.size ∨ q = w.heap.size + 1 ∨ q = w.heap.size + 1 + 1) W5).setCell ⟨w.heap.size, 0, none⟩ (fun _ => .inl rfl) _).setCell ⟨w.heap.size, 1, none⟩ (fun _ => .inl rfl) _).setCell ⟨w.heap.size, 2, none⟩ (fun _ => .inl rfl) _).setCell ⟨w.heap.size, 3, none⟩ (fun _ => .inl rfl) _).setCell ⟨w.heap.size, 4, none⟩ (fun _ => .inl rfl) _).setCell ⟨w.heap.size + 1, 0, none⟩ (fun _ => .inr (.inl rfl)) _).setCell ⟨w.heap.size + 1 + 1, 0, none⟩ (fun _ => .inr (.inr rfl)) _)
    generalize hX : (((((((W5).setCell ⟨w.heap.size, 0, none⟩ (.int .i64 0)).setCell ⟨w.heap.size, 1, none⟩ (.int .i64 0)).setCell ⟨w.heap.size, 2, none⟩ (.int .u64 0)).setCell ⟨w.heap.size, 3, none⟩ (.int .u64 0)).setCell ⟨w.heap.size, 4, none⟩ (.slice none 0 0)).setCell ⟨w.heap.size + 1, 0, none⟩ (.int .i64 0)).setCell ⟨w.heap.size + 1 + 1, 0, none⟩ (.int .i64 f) = X at k06 k16 k26 BX
    have z4 := HS4.out
    have dX := (BX.block _ (get_lt' HD5.out) (by omega)).trans HD5.out
    have bX : Below w.heap.size w X := HB5.out.trans (BX.below HB5.out.size (fun k hk => by rcases hk with e | e | e <;> omega))
    refine ⟨by simp, .inl ⟨_, _, rfl, run_takeDeferred dX, ?_⟩⟩
    have a0 := (World.putObj_heap_other (w := X) (o := .deferred none) (show w.heap.size ≠ w4.heap.size by omega)).trans k06
    have a1 := (World.putObj_heap_other (w := X) (o := .deferred none) (show w.heap.size + 1 ≠ w4.heap.size by omega)).trans k16
    have a2 := (World.putObj_heap_other (w := X) (o := .deferred none) (show w.heap.size + 1 + 1 ≠ w4.heap.size by omega)).trans k26
    refine ⟨_, results_ccc Try.results16 _ _ w.heap.size (w.heap.size + 1) (w.heap.size + 1 + 1) _ _ _ _ _ _ rfl a0 Try.underlying46 rfl (by kernel_rfl) rfl (load_3 a1) rfl (load_err a2), .inr ⟨f, HF0.out, HF.out, rfl, bX.trans ((but_put X _ _).below bX.size (fun k hk => by have e : k = w4.heap.size := hk; omega))⟩⟩
  case hstop =>
    rintro W ⟨x, s2, g⟩ hd
    have HG : Hid _ := hide g
    have HD : Hid _ := hide hd
    clear g hd
    gi_wp2_with fail
    refine ⟨by simp, .inl ⟨_, _, rfl, run_takeDeferred HD.out, ?_⟩⟩
    have hg := HG.out.put HD.out (fun _ _ e => by cases e) (by have := HS4.out; omega) (.deferred none)
    refine ⟨_, results_ccc Try.results16 _ _ w.heap.size (w.heap.size + 1) (w.heap.size + 1 + 1) _ _ _ _ _ _ rfl hg.ev Try.underlying46 rfl (by kernel_rfl) rfl (load_3 hg.sk) rfl (load_err hg.er), .inl ⟨x, s2, rfl, hg.tk⟩⟩
end Go.Proofs.Ytdlpffbeladgaaa
