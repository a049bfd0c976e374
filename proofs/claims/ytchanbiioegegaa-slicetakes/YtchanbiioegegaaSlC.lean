/-
  Slices: an event with a stack of its own; events in a row of one's own that are set.
-/
import Derived.Test.YtchanbiioegegaaSlB
import Derived.Laws.CopyOwn
namespace Go.Proofs.Ytchanbiioegegaa
open Go.RowKit Go.Maps
set_option linter.unusedVariables false
/-- 'append(nil, l...)' of strings. -/
theorem append_str (w : World) {ops : Array Oper} {rest : List Oper} {o : Oper} {a : Act} {Q : Exit → Act → World → Prop} (hgd : o.guard = none) (s x : Operand)
    (ho : o.op = .call { callee := .builtin .append, args := #[s, x], argTypes := #[36, 36] }) (base : Nat)
    (hs : a.eval s = .slice none 0 0)
    (ra : Option Addr) (m c : Nat) (zs : List ByteArray) (hx : a.eval x = .slice ra m c) (hr : E6.SRow w ra m zs) (h0 : ra = none → m = 0 ∧ c = 0) (hm : m * 16 ≤ 140737488355328) (hbase : base ≤ w.heap.size)
    (h : ∀ (a' : Option Addr) (c' : Nat) w', w'.ownsRow base 9 1 (.slice a' m c') m (zs.map Value.string) → w.grownBy w' none → m ≤ c' → (a' = none → m = 0 ∧ c' = 0) → wpList Try.prog ops Q rest (a.put o.dst (.slice a' m c')) w') : wpList Try.prog ops Q (o :: rest) a w := by
  obtain ⟨i0, hi, hz0, hz1, hz2⟩ := info_parts E6.Try.info9
  have hown := World.ownsRow_nil w base 9 1
  cases ra with
  | none =>
    obtain ⟨rfl, rfl⟩ := h0 rfl
    have e1 := List.length_eq_zero_iff.1 hr.len
    subst e1
    exact wpList_append_own_none hgd s x 36 ho base 9 i0 1 Try.underlying36 hi (.slice none 0 0) 0 _ hs hown hx (h none 0 w hown (World.grownBy.refl w _) (Nat.le_refl _) (fun _ => ⟨rfl, rfl⟩))
  | some ad =>
    refine wpList_append_own_at w hgd s x 36 ho base 9 i0 _ 1 16 Try.underlying36 hi hz0 hz1 hz2 rfl (by decide) (.slice none 0 0) 0 [] hs hown ad m c (zs.map Value.string) hx (by have := hr.len; simpa using this) (E6.srow_cells hr) (by intro u hu; obtain ⟨y, _, rfl⟩ := List.mem_map.1 hu; rfl) (by unfold maxLen; omega) (by omega) hbase ?_
    intro v' w' h2 h3 _ _
    rw [Nat.zero_add] at h2
    obtain ⟨a', c', rfl, h4, h5⟩ := own_form h2
    exact h a' c' w' (by simpa using h2) h3 h5 h4
/-- An event box and one for the answer, behind an append. -/
structure Ow (w w2 : World) (g k o a : Int) (s : Value) : Prop where
  bel : Below w.heap.size w w2
  one : w2.heap[w.heap.size]? = some (.cells #[.int .i64 g, .int .i64 k, .int .u64 o, .int .u64 a, s] 38 (0, 0))
  two : w2.heap[w.heap.size + 1]? = some (.cells #[.int .i64 0, .int .i64 0, .int .u64 0, .int .u64 0, .slice none 0 0] 38 (0, 0))
section
variable {w w2 w3 : World} {g k o a : Int} {s s' : Value} {g' : Nat} {cs cs' : Array Value}
theorem Ow.new (w : World) (g k o a : Int) (s : Value) : Ow w ((w.alloc (.cells #[.int .i64 g, .int .i64 k, .int .u64 o, .int .u64 a, s] 38)).alloc (.cells #[.int .i64 0, .int .i64 0, .int .u64 0, .int .u64 0, .slice none 0 0] 38)) g k o a s :=
  ⟨below_alloc2 w _ _, ((below_alloc1 _ _).block _ (by simp)).trans (heap_new _ _), heap_new2 _ _ _⟩
theorem Ow.on (h : Ow w w2 g k o a s) (hb : Below w2.heap.size w2 w3) : Ow w w3 g k o a s :=
  ⟨Below.on h.bel hb, (hb.block _ (get_ltA h.one)).trans h.one, (hb.block _ (get_ltA h.two)).trans h.two⟩
where
  get_ltA {w : World} {i : Nat} {x : Obj} (h : w.heap[i]? = some x) : i < w.heap.size := (Array.getElem?_eq_some_iff.1 h).1
theorem Ow.cells (h : Ow w w2 g k o a s) : w2.cell? ⟨w.heap.size, 0, none⟩ = some (.int .i64 g) ∧ w2.cell? ⟨w.heap.size, 1, none⟩ = some (.int .i64 k) ∧ w2.cell? ⟨w.heap.size, 2, none⟩ = some (.int .u64 o) ∧ w2.cell? ⟨w.heap.size, 3, none⟩ = some (.int .u64 a) ∧ w2.cell? ⟨w.heap.size, 4, none⟩ = some s ∧ w2.frozen? ⟨w.heap.size, 4, none⟩ = false :=
  ⟨cell_at h.one rfl, cell_at h.one rfl, cell_at h.one rfl, cell_at h.one rfl, cell_at h.one rfl, frz h.one 4⟩
theorem Ow.set (h : Ow w w2 g k o a s) (s' : Value) : Ow w (w2.setCell ⟨w.heap.size, 4, none⟩ s') g k o a s' := by
  have hk : But (fun q => q = w.heap.size) w2 (w2.setCell ⟨w.heap.size, 4, none⟩ s') := (But.refl (fun q => q = w.heap.size) w2).setCell ⟨w.heap.size, 4, none⟩ (fun _ => rfl) _
  refine ⟨?_, heap_setCell_same w2 w.heap.size 4 _ 38 _ h.one, ?_⟩
  · exact h.bel.trans (hk.below h.bel.size (fun q e => by have e9 : q = w.heap.size := e; omega))
  · exact (hk.block _ (Array.getElem?_eq_some_iff.1 h.two).1 (fun e => by have e9 : w.heap.size + 1 = w.heap.size := e; omega)).trans h.two
theorem Ow.but (h : Ow w w2 g k o a s) (s' : Value) : But (fun q => q = w.heap.size) w2 (w2.setCell ⟨w.heap.size, 4, none⟩ s') := (But.refl (fun q => q = w.heap.size) w2).setCell ⟨w.heap.size, 4, none⟩ (fun _ => rfl) _
theorem but_setRow (w : World) (g' : Nat) (cs : Array Value) : But (fun q => q = g') w (w.setRow g' cs) := ⟨rfl, rfl, rfl, by simp, fun q _ hq => setRow_other w g' q cs hq⟩
/-- What is answered, and what is its own. -/
theorem Ow.fin (h : Ow w w2 g k o a s) {m : Nat} {v : Value} {xs : List Value} (ho : w2.ownsRow w.heap.size 9 1 v m xs) (cs : Array Value) :
    (w2.setRow (w.heap.size + 1) cs).heap[w.heap.size + 1]? = some (.cells cs 38 (0, 0)) ∧ Below w.heap.size w (w2.setRow (w.heap.size + 1) cs) ∧ (w2.setRow (w.heap.size + 1) cs).ownsRow w.heap.size 9 1 v m xs := by
  refine ⟨setRow_heap _ _ _ _ _ _ h.two, below_setRow h.bel (by omega) _, own_but ho (but_setRow w2 (w.heap.size + 1) cs) (fun q hq e => ?_)⟩
  have e9 : q = w.heap.size + 1 := e
  rw [e9] at hq
  exact own_ne_cells ho h.two (by decide) hq
theorem Ow.own (h : Ow w w2 g k o a s) {m : Nat} {v : Value} {xs : List Value} (ho : w2.ownsRow w.heap.size 9 1 v m xs) (s' : Value) : (w2.setCell ⟨w.heap.size, 4, none⟩ s').ownsRow w.heap.size 9 1 v m xs := by
  refine own_but ho (h.but s') (fun q hq e => ?_)
  have e9 : q = w.heap.size := e
  rw [e9] at hq
  exact own_ne_cells ho h.one (by decide) hq
end
theorem infoE1 : (Try.prog.info? 38).map (·.size) = some 5 := by kernel_rfl
theorem ev_one (g k o a : Int) (x : Option Addr) (m c : Nat) : (#[.int .i64 g, .int .i64 k, .int .u64 o, .int .u64 a, .slice x m c] : Array Value).all (·.oneCell') = true := by first | kernel_rfl | simp [Value.oneCell']
/-- What 'own' answers. -/
def OwnR (e : E6.Ev) (w : World) (r : Ending) (w' : World) : Prop :=
  ∃ sa sc, r = .returned (.agg #[.int .i64 e.g, .int .i64 e.k, .int .u64 e.o, .int .u64 e.a, .slice sa e.ls.length sc]) ∧ w'.ownsRow w.heap.size 9 1 (.slice sa e.ls.length sc) e.ls.length (e.ls.map Value.string) ∧ e.ls.length ≤ sc ∧ (sa = none → e.ls.length = 0 ∧ sc = 0) ∧ Below w.heap.size w w'
set_option maxRecDepth 8000 in
set_option maxHeartbeats 2000000 in
theorem own_any (e : E6.Ev) (w : World) (hs : E6.SRow w e.sa e.ls.length e.ls) (hm : e.ls.length * 16 ≤ 140737488355328) (hz : e.sa = none → e.ls.length = 0 ∧ e.sc = 0) :
    Calls Try.prog 12 #[.agg #[.int .i64 e.g, .int .i64 e.k, .int .u64 e.o, .int .u64 e.a, .slice e.sa e.ls.length e.sc]] w (OwnR e w) := by
  obtain ⟨g, k, o, a, sa, sc, ls⟩ := e
  dsimp only at hs hm hz ⊢
  obtain ⟨W, hW⟩ : ∃ W, W = (w.alloc (.cells #[.int .i64 g, .int .i64 k, .int .u64 o, .int .u64 a, .slice sa ls.length sc] 38)).alloc (.cells #[.int .i64 0, .int .i64 0, .int .u64 0, .int .u64 0, .slice none 0 0] 38) := ⟨_, rfl⟩
  have hO : Ow w W g k o a (.slice sa ls.length sc) := by rw [hW]; exact Ow.new _ _ _ _ _ _
  have HS := hide (E6.SRow.bel hs hO.bel)
  have HO := hide hO
  have HW := hide hW
  obtain ⟨p0, p1, p2, p3, p4, f4⟩ := hO.cells
  have hlt : w.heap.size < W.heap.size := World.block_lt_of_cell? W _ p0
  have HZ := hide hz
  have HM := hide hm
  clear hs hO hW hz hm
  go_enter Try.func12, Try.ntmps12
  go_wp2_with (first
    | (at_builtin; rw [← HW.out]; refine append_str _ rfl _ _ rfl w.heap.size rfl sa ls.length sc ls rfl HS.out HZ.out HM.out HO.out.bel.size ?_
       intro a' c' w2 o2 g2 hc2 hn2
       have hb2 : Below W.heap.size W w2 := ⟨g2.os, g2.tape, g2.output, g2.size, fun q hq => g2.block q hq (by simp)⟩
       have HO2 := hide (HO.out.on hb2)
       have HO3 := hide (HO2.out.set (.slice a' ls.length c'))
       have HR3 := hide (HO2.out.own o2 (.slice a' ls.length c'))
       have HC := hide (And.intro hc2 hn2)
       obtain ⟨q0, q1, q2, q3, q4, f5⟩ := HO2.out.cells
       have hlt2 : w.heap.size < w2.heap.size := World.block_lt_of_cell? w2 _ q0
       clear o2 g2 hc2 hn2 hb2 p0 p1 p2 p3 p4 f4 hlt HS HO)
    | (refine wpList_store_row rfl 38 (.tmp 2) (.tmp 7) rfl (w.heap.size + 1) #[.int .i64 g, .int .i64 k, .int .u64 o, .int .u64 a, .slice a' ls.length c'] rfl rfl 38 #[.int .i64 0, .int .i64 0, .int .u64 0, .int .u64 0, .slice none 0 0] HO3.out.two infoE1 rfl (ev_one _ _ _ _ _ _ _) ?_))
  obtain ⟨z1, z2, z3⟩ := HO3.out.fin HR3.out #[.int .i64 g, .int .i64 k, .int .u64 o, .int .u64 a, .slice a' ls.length c']
  refine bodyPost_ret (v := .agg #[.int .i64 g, .int .i64 k, .int .u64 o, .int .u64 a, .slice a' ls.length c']) ?_ ?_ ?_
  · exact results_cell_row Try.results12 _ _ (w.heap.size + 1) 38 _ (0, 0) _ rfl z1 Try.underlying38 rfl infoE1
  · rfl
  · exact ⟨a', c', rfl, z3, HC.out.1, HC.out.2, z2⟩
set_option maxRecDepth 8000 in
set_option maxHeartbeats 2000000 in
theorem rown_any (e : E6.Ev) (w : World) (hs : E6.SRow w e.sa e.ls.length e.ls) (hm : e.ls.length * 16 ≤ 140737488355328) (hz : e.sa = none → e.ls.length = 0 ∧ e.sc = 0) :
    Calls Try.prog 13 #[.agg #[.int .i64 e.g, .int .i64 e.k, .int .u64 e.o, .int .u64 e.a, .slice e.sa e.ls.length e.sc]] w (OwnR e w) := by
  obtain ⟨g, k, o, a, sa, sc, ls⟩ := e
  dsimp only at hs hm hz ⊢
  obtain ⟨W, hW⟩ : ∃ W, W = (w.alloc (.cells #[.int .i64 g, .int .i64 k, .int .u64 o, .int .u64 a, .slice sa ls.length sc] 38)).alloc (.cells #[.int .i64 0, .int .i64 0, .int .u64 0, .int .u64 0, .slice none 0 0] 38) := ⟨_, rfl⟩
  have hO : Ow w W g k o a (.slice sa ls.length sc) := by rw [hW]; exact Ow.new _ _ _ _ _ _
  have HS := hide (E6.SRow.bel hs hO.bel)
  have HO := hide hO
  have HW := hide hW
  obtain ⟨p0, p1, p2, p3, p4, f4⟩ := hO.cells
  have hlt : w.heap.size < W.heap.size := World.block_lt_of_cell? W _ p0
  have HZ := hide hz
  have HM := hide hm
  clear hs hO hW hz hm
  go_enter Try.func13, Try.ntmps13
  go_wp2_with (first
    | (at_builtin; rw [← HW.out]; refine append_str _ rfl _ _ rfl w.heap.size rfl sa ls.length sc ls rfl HS.out HZ.out HM.out HO.out.bel.size ?_
       intro a' c' w2 o2 g2 hc2 hn2
       have hb2 : Below W.heap.size W w2 := ⟨g2.os, g2.tape, g2.output, g2.size, fun q hq => g2.block q hq (by simp)⟩
       have HO2 := hide (HO.out.on hb2)
       have HO3 := hide (HO2.out.set (.slice a' ls.length c'))
       have HR3 := hide (HO2.out.own o2 (.slice a' ls.length c'))
       have HC := hide (And.intro hc2 hn2)
       obtain ⟨q0, q1, q2, q3, q4, f5⟩ := HO2.out.cells
       have hlt2 : w.heap.size < w2.heap.size := World.block_lt_of_cell? w2 _ q0
       clear o2 g2 hc2 hn2 hb2 p0 p1 p2 p3 p4 f4 hlt HS HO)
    | (refine wpList_store_row rfl 38 (.tmp 2) (.tmp 10) rfl (w.heap.size + 1) #[.int .i64 g, .int .i64 k, .int .u64 o, .int .u64 a, .slice a' ls.length c'] rfl rfl 38 #[.int .i64 0, .int .i64 0, .int .u64 0, .int .u64 0, .slice none 0 0] HO3.out.two infoE1 rfl (ev_one _ _ _ _ _ _ _) ?_))
  obtain ⟨z1, z2, z3⟩ := HO3.out.fin HR3.out #[.int .i64 g, .int .i64 k, .int .u64 o, .int .u64 a, .slice a' ls.length c']
  refine bodyPost_ret (v := .agg #[.int .i64 g, .int .i64 k, .int .u64 o, .int .u64 a, .slice a' ls.length c']) ?_ ?_ ?_
  · exact results_cell_row Try.results13 _ _ (w.heap.size + 1) 38 _ (0, 0) _ rfl z1 Try.underlying38 rfl infoE1
  · rfl
  · exact ⟨a', c', rfl, z3, HC.out.1, HC.out.2, z2⟩
end Go.Proofs.Ytchanbiioegegaa
