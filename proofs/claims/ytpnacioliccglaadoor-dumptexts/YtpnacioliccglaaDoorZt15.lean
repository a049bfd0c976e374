import Derived.Test.YtpnacioliccglaaDoorZt14
import Derived.Laws.CopyOwn
import Derived.Test.YtpnacioliccglaaDoorZt12
import Derived.Test.YtpnacioliccglaaDoorZt09
set_option maxRecDepth 8000
set_option maxHeartbeats 8000000
set_option linter.unusedVariables false
/-
  roomy: an event with a stack of its own, room behind it.
-/
namespace Go.Proofs.YtpnacioliccglaaDoor
open Go.RowKit Go.Maps Go.Shelf
set_option linter.unusedVariables false
/-- Texts in a row. -/
def layZ : Lay ByteArray := ⟨fun s => [.string s], 1, by decide, fun _ => rfl, fun a u hu => by rw [List.mem_singleton] at hu; rw [hu]; rfl⟩
theorem zInfo : (Tryd.prog.info? 9).map (fun i => (i.zero, i.size, i.bytes)) = some (some (.string ⟨#[]⟩), 1, 16) := by kernel_rfl
theorem zfl (L : List ByteArray) : layZ.fl L = L.map Value.string := by
  induction L with
  | nil => rfl
  | cons x L ih => rw [layZ.fl_cons, ih]; rfl
theorem zrow {w : World} {a : Option Addr} {n : Nat} {L : List ByteArray} (h : E6.SRow w a n L) : TRow layZ w a n L := by
  refine ⟨h.len, ?_⟩
  rcases Nat.eq_zero_or_pos n with h0 | h0
  · exact .inl h0
  · obtain ⟨b, off, ha, _⟩ := h.at h0
    refine .inr ⟨b, off, ha, fun i x hx t u hu => ?_⟩
    have hl := (List.getElem?_eq_some_iff.1 hx).1
    obtain ⟨b', off', ha', hc⟩ := h.at (i := i) (by rw [← h.len]; exact hl)
    rw [ha] at ha'
    cases ha'
    have ht : t = 0 := by have := (List.getElem?_eq_some_iff.1 hu).1; simp [layZ] at this; exact this
    subst ht
    have hu' : u = .string x := by simp [layZ] at hu; exact hu.symm
    subst hu'
    rw [E6.getD_get hl] at hx
    cases hx
    simpa [layZ] using hc
theorem zown {w : World} {base g n c : Nat} {L : List ByteArray} (h : Own layZ 9 w base (.slice (some ⟨g, 0, none⟩) n c) L) : ∀ i (hi : i < L.length), w.cell? ⟨g, i, none⟩ = some (.string (L.getD i ByteArray.empty)) := by
  intro i hi
  have := h.cell (i := i) (E6.getD_get hi) 0 (u := .string (L.getD i ByteArray.empty)) rfl
  simpa [layZ] using this
def room : ByteArray := ⟨#[114, 111, 111, 109]⟩
/-- The boxes of roomy: the event, the answer, the event that is made. -/
structure Rm (w w2 : World) (g k o a : Int) (s0 s : Value) : Prop where
  bel : Below w.heap.size w w2
  arg : w2.heap[w.heap.size]? = some (.cells #[.int .i64 g, .int .i64 k, .int .u64 o, .int .u64 a, s0] 25 (0, 0))
  two : w2.heap[w.heap.size + 1]? = some (.cells #[.int .i64 0, .int .i64 0, .int .u64 0, .int .u64 0, .slice none 0 0] 25 (0, 0))
  one : w2.heap[w.heap.size + 2]? = some (.cells #[.int .i64 g, .int .i64 k, .int .u64 o, .int .u64 a, s] 25 (0, 0))
section
variable {w w2 w3 : World} {g k o a : Int} {s0 s s' : Value}
theorem Rm.new (w : World) (g k o a : Int) (s s' : Value) : Rm w (((w.alloc (.cells #[.int .i64 g, .int .i64 k, .int .u64 o, .int .u64 a, s] 25)).alloc (.cells #[.int .i64 0, .int .i64 0, .int .u64 0, .int .u64 0, .slice none 0 0] 25)).alloc (.cells #[.int .i64 g, .int .i64 k, .int .u64 o, .int .u64 a, s'] 25)) g k o a s s' := by
  refine ⟨(below_alloc2 w _ _).alloc (by simp; omega) _, ?_, ?_, ?_⟩
  · exact ((below_alloc1 _ _).block _ (by simp; omega)).trans (((below_alloc1 _ _).block _ (by simp)).trans (heap_new _ _))
  · exact ((below_alloc1 _ _).block _ (by simp)).trans (heap_new2 _ _ _)
  · exact heap_newS (by simp)
theorem Rm.on (h : Rm w w2 g k o a s0 s) (hb : Below w2.heap.size w2 w3) : Rm w w3 g k o a s0 s :=
  ⟨Below.on h.bel hb, (hb.block _ (Array.getElem?_eq_some_iff.1 h.arg).1).trans h.arg, (hb.block _ (Array.getElem?_eq_some_iff.1 h.two).1).trans h.two, (hb.block _ (Array.getElem?_eq_some_iff.1 h.one).1).trans h.one⟩
/-- An append to the row of one's own. -/
theorem Rm.grown {v : Value} {L : List ByteArray} (h : Rm w w2 g k o a s0 s) (ho : Own layZ 9 w2 w.heap.size v L) (hg : w2.grownBy w3 v.ownBlock) : Rm w w3 g k o a s0 s := by
  have hk : ∀ (q : Nat) (cs : Array Value), w2.heap[q]? = some (Obj.cells cs 25 (0, 0)) → w3.heap[q]? = some (Obj.cells cs 25 (0, 0)) := fun q cs hq =>
    (hg.block q (Array.getElem?_eq_some_iff.1 hq).1 (fun e => own_ne_cells ho hq (by decide) e.symm)).trans hq
  exact ⟨h.bel.grown hg h.bel.size (fun q hq => (ho.lt q hq).1), hk _ _ h.arg, hk _ _ h.two, hk _ _ h.one⟩
theorem Rm.cells (h : Rm w w2 g k o a s0 s) : w2.cell? ⟨w.heap.size + 2, 0, none⟩ = some (.int .i64 g) ∧ w2.cell? ⟨w.heap.size + 2, 1, none⟩ = some (.int .i64 k) ∧ w2.cell? ⟨w.heap.size + 2, 2, none⟩ = some (.int .u64 o) ∧ w2.cell? ⟨w.heap.size + 2, 3, none⟩ = some (.int .u64 a) ∧ w2.cell? ⟨w.heap.size + 2, 4, none⟩ = some s ∧ w2.frozen? ⟨w.heap.size + 2, 4, none⟩ = false :=
  ⟨cell_at h.one rfl, cell_at h.one rfl, cell_at h.one rfl, cell_at h.one rfl, cell_at h.one rfl, frz h.one 4⟩
theorem Rm.set (h : Rm w w2 g k o a s0 s) (s' : Value) : Rm w (w2.setCell ⟨w.heap.size + 2, 4, none⟩ s') g k o a s0 s' := by
  have hk : But (fun q => q = w.heap.size + 2) w2 (w2.setCell ⟨w.heap.size + 2, 4, none⟩ s') := (But.refl (fun q => q = w.heap.size + 2) w2).setCell ⟨w.heap.size + 2, 4, none⟩ (fun _ => rfl) _
  refine ⟨?_, ?_, ?_, heap_setCell_same w2 (w.heap.size + 2) 4 _ 25 _ h.one⟩
  · exact h.bel.trans (hk.below h.bel.size (fun q e => by have e9 : q = w.heap.size + 2 := e; omega))
  · exact (hk.block _ (Array.getElem?_eq_some_iff.1 h.arg).1 (fun e => by have e9 : w.heap.size = w.heap.size + 2 := e; omega)).trans h.arg
  · exact (hk.block _ (Array.getElem?_eq_some_iff.1 h.two).1 (fun e => by have e9 : w.heap.size + 1 = w.heap.size + 2 := e; omega)).trans h.two
theorem Rm.own (h : Rm w w2 g k o a s0 s) {v : Value} {L : List ByteArray} (ho : Own layZ 9 w2 w.heap.size v L) (s' : Value) : Own layZ 9 (w2.setCell ⟨w.heap.size + 2, 4, none⟩ s') w.heap.size v L := by
  have hk : But (fun q => q = w.heap.size + 2) w2 (w2.setCell ⟨w.heap.size + 2, 4, none⟩ s') := (But.refl (fun q => q = w.heap.size + 2) w2).setCell ⟨w.heap.size + 2, 4, none⟩ (fun _ => rfl) _
  refine ho.but hk (fun q hq e => ?_)
  have e9 : q = w.heap.size + 2 := e
  rw [e9] at hq
  exact own_ne_cells ho h.one (by decide) hq
theorem dbut_setRow (w : World) (g' : Nat) (cs : Array Value) : But (fun q => q = g') w (w.setRow g' cs) := ⟨rfl, rfl, rfl, by simp, fun q _ hq => setRow_other w g' q cs hq⟩
/-- What is answered, and what is its own. -/
theorem Rm.fin (h : Rm w w2 g k o a s0 s) {v : Value} {L : List ByteArray} (ho : Own layZ 9 w2 w.heap.size v L) (cs : Array Value) :
    (w2.setRow (w.heap.size + 1) cs).heap[w.heap.size + 1]? = some (.cells cs 25 (0, 0)) ∧ Below w.heap.size w (w2.setRow (w.heap.size + 1) cs) ∧ Own layZ 9 (w2.setRow (w.heap.size + 1) cs) w.heap.size v L := by
  refine ⟨setRow_heap _ _ _ _ _ _ h.two, below_setRow h.bel (by omega) _, ho.but (dbut_setRow w2 (w.heap.size + 1) cs) (fun q hq e => ?_)⟩
  have e9 : q = w.heap.size + 1 := e
  rw [e9] at hq
  exact own_ne_cells ho h.two (by decide) hq
end
theorem dinfoE : (Tryd.prog.info? 25).map (·.size) = some 5 := by kernel_rfl
theorem dev_one (g k o a : Int) (x : Option Addr) (m c : Nat) : (#[.int .i64 g, .int .i64 k, .int .u64 o, .int .u64 a, .slice x m c] : Array Value).all (·.oneCell') = true := by first | kernel_rfl | simp [Value.oneCell']
/-- 'append(s, x...)' of texts. -/
theorem append_z (w : World) {ops : Array Oper} {rest : List Oper} {o : Oper} {a : Act} {Q : Exit → Act → World → Prop} (hgd : o.guard = none) (s x : Operand)
    (ho : o.op = .call { callee := .builtin .append, args := #[s, x], argTypes := #[23, 23] }) (B : Nat) (v : Value) (L : List ByteArray) (hs : a.eval s = v) (hown : Own layZ 9 w B v L)
    (ra : Option Addr) (m c : Nat) (M : List ByteArray) (hx : a.eval x = .slice ra m c) (hr : TRow layZ w ra m M) (h0 : ra = none → m = 0 ∧ c = 0)
    (hb : (L.length + m) * 16 ≤ 140737488355328) (hB : B ≤ w.heap.size)
    (h : ∀ v' w', Own layZ 9 w' B v' (L ++ M) → w.grownBy w' v.ownBlock → wpList Tryd.prog ops Q rest (a.put o.dst v') w') : wpList Tryd.prog ops Q (o :: rest) a w := by
  obtain ⟨i0, hi0, hz0, hz1, hz2⟩ := info_parts zInfo
  exact append_lay layZ w 23 9 i0 _ 16 Tryd.underlying23 hi0 hz0 hz1 hz2 rfl hgd s x ho B v L hs hown ra m c M hx hr h0 (by unfold maxLen; omega) hb hB (fun v' w' h1 h2 _ => h v' w' h1 h2)
/-- What roomy answers: its stack in its own row, seventy more behind it. -/
def RoomyR (g k o a : Int) (ls : List ByteArray) (w : World) (r : Ending) (w' : World) : Prop :=
  ∃ rb rc, r = .returned (.agg #[.int .i64 g, .int .i64 k, .int .u64 o, .int .u64 a, .slice (some ⟨rb, 0, none⟩) ls.length rc]) ∧ Own layZ 9 w' w.heap.size (.slice (some ⟨rb, 0, none⟩) (ls.length + 70) rc) (ls ++ List.replicate 70 room) ∧ ls.length + 70 ≤ rc ∧ Below w.heap.size w w'
set_option maxRecDepth 8000 in
set_option maxHeartbeats 2000000 in
theorem roomy_any (g k o a : Int) (sa : Option Addr) (sc : Nat) (ls : List ByteArray) (w : World) (hs : E6.SRow w sa ls.length ls) (hm : (ls.length : Int) ≤ 8796093021952) (hz : sa = none → ls.length = 0 ∧ sc = 0) :
    Calls Tryd.prog 6 #[.agg #[.int .i64 g, .int .i64 k, .int .u64 o, .int .u64 a, .slice sa ls.length sc]] w (RoomyR g k o a ls w) := by
  obtain ⟨n, hn⟩ : ∃ n, n = ls.length := ⟨_, rfl⟩
  unfold RoomyR
  rw [← hn] at hs hm hz ⊢
  obtain ⟨W, hW⟩ : ∃ W, W = (((w.alloc (.cells #[.int .i64 g, .int .i64 k, .int .u64 o, .int .u64 a, .slice sa n sc] 25)).alloc (.cells #[.int .i64 0, .int .i64 0, .int .u64 0, .int .u64 0, .slice none 0 0] 25)).alloc (.cells #[.int .i64 g, .int .i64 k, .int .u64 o, .int .u64 a, .slice none 0 0] 25)) := ⟨_, rfl⟩
  have hO : Rm w W g k o a (.slice sa n sc) (.slice none 0 0) := by rw [hW]; exact Rm.new _ _ _ _ _ _ _
  have HS := hide (zrow (hs.bel hO.bel))
  have HO := hide hO
  have HW := hide hW
  have HZ := hide hz
  have HM := hide hm
  have HN := hide hn
  clear hs hO hW hz hm hn
  go_enter Tryd.func6, Tryd.ntmps6
  go_wp2_with (at_builtin; go_loud (rw [← HW.out]); go_loud (refine append_z _ rfl _ _ rfl w.heap.size (.slice none 0 0) [] rfl (Own.nil _ _ _ _) sa n sc ls rfl HS.out HZ.out (by have := HM.out; simp only [List.length_nil]; omega) HO.out.bel.size ?_); intro v1 w2 o2 g2; obtain ⟨a1, c1, e1, _, _⟩ := own_form o2; generalize ([] ++ ls).length = m1 at e1; subst e1; have HO3 := hide (HO.out.grown (Own.nil layZ 9 W w.heap.size) g2); have HO4 := hide (HO3.out.set (.slice a1 m1 c1)); have HR4 := hide (HO3.out.own o2 (.slice a1 m1 c1)); obtain ⟨z0, z1, z2, z3, z4, z5⟩ := HO3.out.cells; have hlt2 := World.block_lt_of_cell? w2 _ z0; clear o2 g2 HS HO HW)
  go_wp2
  go_loopw [4] (fun i wr => ∃ j : Nat, j ≤ 70 ∧ i = .int .i64 j ∧ ∃ a' m' c', Rm w wr g k o a (.slice sa n sc) (.slice a' m' c') ∧ Own layZ 9 wr w.heap.size (.slice a' m' c') (ls ++ List.replicate j room)) (fun i _ => 70 - (intOf i).toNat)
  case atStart => exact ⟨0, Nat.zero_le _, rfl, a1, m1, c1, HO4.out, by simpa using HR4.out⟩
  case round =>
    obtain ⟨j, hj, rfl, a', m', c', hR, ho⟩ := hrel
    have HR := hide hR
    have HOw := hide ho
    obtain ⟨p0, p1, p2, p3, p4, f4⟩ := hR.cells
    have hlt := World.block_lt_of_cell? wr _ p0
    have q4 : wr.cell? ⟨w.heap.size, 4, none⟩ = some (.slice sa n sc) := cell_at hR.arg rfl
    clear hR ho
    by_cases hjl : j < 70
    · go_wp2_with (at_builtin; go_loud (refine append_z _ rfl _ _ rfl w.heap.size (.slice a' m' c') (ls ++ List.replicate j room) rfl (HOw.out.below (below_alloc1 _ _)) (some ⟨wr.heap.size, 0, none⟩) 1 1 [room] rfl (TRow.one (heap_new _ _)) (fun e => by cases e) (by have := HM.out; have := HN.out; simp only [List.length_append, List.length_replicate]; omega) (by rw [World.size_alloc]; exact Nat.le_succ_of_le HR.out.bel.size) ?_); intro v3 w3 o3 g3; obtain ⟨a3, c3, e3, _, _⟩ := own_form o3; generalize (ls ++ List.replicate j room ++ [room]).length = m3 at e3; subst e3; have HO5 := hide ((HR.out.on (below_alloc1 _ _)).grown (HOw.out.below (below_alloc1 _ _)) g3); have HO6 := hide (HO5.out.set (.slice a3 m3 c3)); have HR6 := hide (HO5.out.own o3 (.slice a3 m3 c3)); obtain ⟨z0, z1, z2, z3, z4, z5⟩ := HO5.out.cells; have hlt3 := World.block_lt_of_cell? w3 _ z0; clear o3 g3 p0 p1 p2 p3 p4 f4 q4 hlt)
      go_wp2
      refine ⟨⟨j + 1, by omega, by go_num, a3, m3, c3, HO6.out, ?_⟩, by simp [intOf]; omega⟩
      have h1 := HR6.out
      rwa [List.append_assoc, ← List.replicate_succ'] at h1
    · have hj70 : j = 70 := by omega
      subst hj70
      have hlen : (ls ++ List.replicate 70 room).length = n + 70 := by rw [List.length_append, List.length_replicate, HN.out]
      obtain ⟨rb, rc, hv, _, _, hcap⟩ := HOw.out.frm (by omega)
      rw [hlen] at hv hcap
      injection hv with e1 e2 e3
      subst e1 e2 e3
      have hnc : n ≤ c' := by omega
      have HC := hide hcap
      have HO7 := hide (HR.out.set (.slice (some ⟨rb, 0, none⟩) n c'))
      have HR7 := hide (HR.out.own HOw.out (.slice (some ⟨rb, 0, none⟩) n c'))
      clear hlen hcap hjl hj HR HOw
      go_wp2_with (refine wpList_store_row rfl 25 (.tmp 2) (.tmp 29) rfl (w.heap.size + 1) #[.int .i64 g, .int .i64 k, .int .u64 o, .int .u64 a, .slice (some ⟨rb, 0, none⟩) n c'] rfl rfl 25 #[.int .i64 0, .int .i64 0, .int .u64 0, .int .u64 0, .slice none 0 0] HO7.out.two dinfoE rfl (dev_one _ _ _ _ _ _ _) ?_)
      obtain ⟨y1, y2, y3⟩ := HO7.out.fin HR7.out #[.int .i64 g, .int .i64 k, .int .u64 o, .int .u64 a, .slice (some ⟨rb, 0, none⟩) n c']
      refine bodyPost_ret (v := .agg #[.int .i64 g, .int .i64 k, .int .u64 o, .int .u64 a, .slice (some ⟨rb, 0, none⟩) n c']) ?_ ?_ ?_
      · exact results_cell_row Tryd.results6 _ _ (w.heap.size + 1) 25 _ (0, 0) _ rfl y1 Tryd.underlying25 rfl dinfoE
      · rfl
      · exact ⟨rb, c', rfl, y3, HC.out, y2⟩
end Go.Proofs.YtpnacioliccglaaDoor
/-
  roomyRow: the events, each with room, and room behind the row.
-/
namespace Go.Proofs.YtpnacioliccglaaDoor
open Go.RowKit Go.Maps Go.Shelf
set_option linter.unusedVariables false
/-- Events in a row. -/
def layE : Lay E6.Ev where
  cs := E6.ecell
  z := 5
  pos := by decide
  len := fun _ => rfl
  one := fun e u hu => by
    simp only [E6.ecell, List.mem_cons, List.mem_nil_iff, or_false] at hu
    rcases hu with rfl | rfl | rfl | rfl | rfl <;> rfl
/-- What stands behind the row. -/
def mark : E6.Ev := ⟨-9, 0, 0, 0, none, 0, []⟩
/-- An event, and the same with room. -/
structure Tn (B : Nat) (w : World) (e f : E6.Ev) : Prop where
  g : f.g = e.g
  k : f.k = e.k
  o : f.o = e.o
  a : f.a = e.a
  ls : f.ls = e.ls
  own : ∃ rb, f.sa = some ⟨rb, 0, none⟩ ∧ e.ls.length + 70 ≤ f.sc ∧ Own layZ 9 w B (.slice (some ⟨rb, 0, none⟩) (e.ls.length + 70) f.sc) (e.ls ++ List.replicate 70 room)
section
variable {B : Nat} {w w' : World} {e f : E6.Ev} {v : Value} {fs : List E6.Ev}
theorem Tn.below (h : Tn B w e f) (hb : Below w.heap.size w w') : Tn B w' e f := by
  obtain ⟨rb, h1, h2, h3⟩ := h.own
  exact ⟨h.g, h.k, h.o, h.a, h.ls, rb, h1, h2, h3.below hb⟩
/-- What happens to a row of events leaves rows of texts alone. -/
theorem zown_but {S : Nat → Prop} {u : Value} {L : List ByteArray} (h : Own layZ 9 w B u L) (hv : Own layE 25 w B v fs) (hb : But (fun q => v.ownBlock = some q) w w') : Own layZ 9 w' B u L := by
  refine h.but hb (fun q hq e => ?_)
  obtain ⟨cur, hc⟩ := own_ty hv e
  exact own_ne_cells h hc (by decide) hq
theorem Tn.but (h : Tn B w e f) (hv : Own layE 25 w B v fs) (hb : But (fun q => v.ownBlock = some q) w w') : Tn B w' e f := by
  obtain ⟨rb, h1, h2, h3⟩ := h.own
  exact ⟨h.g, h.k, h.o, h.a, h.ls, rb, h1, h2, zown_but (S := fun _ => True) h3 hv hb⟩
end
/-- A row of events with room, and the row that it was made of. -/
structure Rr (B : Nat) (w : World) (v : Value) (es fs : List E6.Ev) (M : List E6.Ev) : Prop where
  len : fs.length = es.length
  row : Own layE 25 w B v (fs ++ M)
  tn : ∀ (i : Nat) (e f : E6.Ev), es[i]? = some e → fs[i]? = some f → Tn B w e f
theorem Rr.below {B : Nat} {w w' : World} {v : Value} {es fs M : List E6.Ev} (h : Rr B w v es fs M) (hb : Below w.heap.size w w') : Rr B w' v es fs M :=
  ⟨h.len, h.row.below hb, fun i e f h1 h2 => (h.tn i e f h1 h2).below hb⟩
theorem Rr.grown {B : Nat} {w w' : World} {v v' : Value} {es fs M M' : List E6.Ev} (h : Rr B w v es fs M) (hr : Own layE 25 w' B v' (fs ++ M')) (hg : w.grownBy w' v.ownBlock) : Rr B w' v' es fs M' :=
  ⟨h.len, hr, fun i e f h1 h2 => (h.tn i e f h1 h2).but h.row (But.of_grown hg (fun _ e => e))⟩
theorem Rr.snoc {B : Nat} {w : World} {v : Value} {es fs : List E6.Ev} {e f : E6.Ev} (h : ∀ (i : Nat) (e f : E6.Ev), es[i]? = some e → fs[i]? = some f → Tn B w e f) (hl : fs.length = es.length) (ht : Tn B w e f) (hr : Own layE 25 w B v (fs ++ [f])) : Rr B w v (es ++ [e]) (fs ++ [f]) [] := by
  refine ⟨by simp [hl], by simpa using hr, fun i e' f' h1 h2 => ?_⟩
  rcases Nat.lt_or_ge i es.length with hi | hi
  · rw [List.getElem?_append_left hi] at h1
    rw [List.getElem?_append_left (by omega)] at h2
    exact h i e' f' h1 h2
  · rw [List.getElem?_append_right hi] at h1
    rw [List.getElem?_append_right (by omega)] at h2
    have h3 := (List.getElem?_eq_some_iff.1 h1).1
    have h4 : i - es.length = 0 := by simpa using h3
    rw [h4] at h1
    rw [hl, h4] at h2
    cases h1
    cases h2
    exact ht
theorem Rr.push {B : Nat} {W w4 : World} {v v' : Value} {es fs : List E6.Ev} {e f : E6.Ev} (h : Rr B W v es fs []) (ht : Tn B W e f) (hr : Own layE 25 w4 B v' (fs ++ [] ++ [f])) (hg : W.grownBy w4 v.ownBlock) : Rr B w4 v' (es ++ [e]) (fs ++ [f]) [] :=
  Rr.snoc (fun i e f h1 h2 => (h.tn i e f h1 h2).but h.row (But.of_grown hg (fun _ e => e))) h.len (ht.but h.row (But.of_grown hg (fun _ e => e))) (by simpa using hr)
/-- 'append(s, x...)' of events. -/
theorem append_e (w : World) {ops : Array Oper} {rest : List Oper} {o : Oper} {a : Act} {Q : Exit → Act → World → Prop} (hgd : o.guard = none) (s x : Operand)
    (ho : o.op = .call { callee := .builtin .append, args := #[s, x], argTypes := #[35, 35] }) (B : Nat) (v : Value) (L : List E6.Ev) (hs : a.eval s = v) (hown : Own layE 25 w B v L)
    (k : Nat) (f : E6.Ev) (cs : Array Value) (hx : a.eval x = .slice (some ⟨k, 0, none⟩) 1 1) (hk : w.heap[k]? = some (.cells cs 25 (0, 0))) (hc : cs = (E6.ecell f).toArray)
    (hb : (L.length + 1) * 56 ≤ 140737488355328) (hB : B ≤ w.heap.size)
    (h : ∀ v' w', Own layE 25 w' B v' (L ++ [f]) → w.grownBy w' v.ownBlock → wpList Tryd.prog ops Q rest (a.put o.dst v') w') : wpList Tryd.prog ops Q (o :: rest) a w := by
  obtain ⟨i0, hi0, hz0, hz1, hz2⟩ := info_parts E6.Tryd.infoEvent
  subst hc
  exact append_lay layE w 35 25 i0 _ 56 Tryd.underlying35 hi0 hz0 hz1 hz2 rfl hgd s x ho B v L hs hown (some ⟨k, 0, none⟩) 1 1 [f] hx (TRow.one (y := layE) hk) (fun e => by cases e) (by unfold maxLen; omega) hb hB (fun v' w' h1 h2 _ => h v' w' h1 h2)
end Go.Proofs.YtpnacioliccglaaDoor
/-
  hasRoom of a forest.
-/
namespace Go.Proofs.YtpnacioliccglaaDoor.E6
open Go.RowKit Go.Maps Go.Shelf
/-- The unlike strings of a list that a table does not have; the list comes with its last one first. -/
def newR (L : List ByteArray) : List ByteArray → List ByteArray
  | [] => []
  | t :: r => if isIn L t || isIn r t then newR L r else newR L r ++ [t]
def newS (L l : List ByteArray) : List ByteArray := newR L l.reverse
theorem isIn_rev (l : List ByteArray) (s : ByteArray) : isIn l.reverse s = isIn l s := by
  rw [Bool.eq_iff_iff, isIn_iff, isIn_iff, List.mem_reverse]
theorem newS_nil (L : List ByteArray) : newS L [] = [] := rfl
theorem newS_snoc (L l : List ByteArray) (t : ByteArray) : newS L (l ++ [t]) = if isIn L t || isIn l t then newS L l else newS L l ++ [t] := by
  unfold newS; rw [List.reverse_append]; show newR L (t :: l.reverse) = _; rw [newR, isIn_rev]
theorem newS_take {L l : List ByteArray} {k : Nat} (h : k < l.length) : newS L (l.take (k + 1)) = if isIn L (l.getD k ByteArray.empty) || isIn (l.take k) (l.getD k ByteArray.empty) then newS L (l.take k) else newS L (l.take k) ++ [l.getD k ByteArray.empty] := by
  rw [← newS_snoc, List.take_add_one, getD_get h]; rfl
theorem newS_len (L l : List ByteArray) : (newS L l).length ≤ l.length := by
  unfold newS
  have e : l.length = l.reverse.length := by simp
  rw [e]
  clear e
  generalize l.reverse = r
  induction r with
  | nil => simp [newR]
  | cons t r ih => unfold newR; split <;> simp <;> omega
theorem newS_mem (L l : List ByteArray) : ∀ t, t ∈ newS L l ↔ t ∈ l ∧ t ∉ L := by
  intro t
  unfold newS
  have e : t ∈ l ↔ t ∈ l.reverse := by simp
  rw [e]
  clear e
  generalize l.reverse = q
  induction q with
  | nil => simp [newR]
  | cons u r ih =>
    unfold newR
    by_cases h : (isIn L u || isIn r u) = true
    · rw [if_pos h]
      refine Iff.trans ih ?_
      rw [Bool.or_eq_true, isIn_iff, isIn_iff] at h
      constructor
      · rintro ⟨h1, h2⟩; exact ⟨by simp [h1], h2⟩
      · rintro ⟨h1, h2⟩
        rcases List.mem_cons.1 h1 with rfl | h1
        · rcases h with h | h
          · exact absurd h h2
          · exact ⟨h, h2⟩
        · exact ⟨h1, h2⟩
    · rw [if_neg h, List.mem_append]
      rw [Bool.or_eq_true, isIn_iff, isIn_iff] at h
      constructor
      · rintro (h1 | h1)
        · exact ⟨by simp [(ih.1 h1).1], (ih.1 h1).2⟩
        · simp at h1; subst h1; exact ⟨by simp, fun e => h (.inl e)⟩
      · rintro ⟨h1, h2⟩
        rcases List.mem_cons.1 h1 with rfl | h1
        · exact .inr (by simp)
        · exact .inl (ih.2 ⟨h1, h2⟩)
structure Roomy (L : List ByteArray) (n : Nat) (l : List ByteArray) : Prop where
  each : ∀ t ∈ newS L l, t.size ≤ 65536
  count : L.length + (newS L l).length ≤ 65536
  sum : total L + total (newS L l) ≤ 4194304
  nodes : n + l.length ≤ 262144
theorem total_le {l : List ByteArray} (h : ∀ t ∈ l, t.size ≤ 65536) : total l ≤ l.length * 65536 := by
  induction l with
  | nil => simp [total]
  | cons t r ih =>
    have h1 := h t (by simp)
    have h2 := ih (fun x hx => h x (by simp [hx]))
    simp only [total, List.map_cons, List.sum_cons, List.length_cons] at h2 ⊢
    omega
def RoomE (L : List ByteArray) (n : Nat) (l : List ByteArray) (e : Ending) : Prop := ∃ b : Bool, e = .returned (.bool b) ∧ (b = true ↔ Roomy L n l)
set_option maxRecDepth 4000 in
theorem hasRoom_any {w : World} {fb tb : Nat} {S T : Nat → Prop} {N : List Nd} {v : Value} {mb : Nat} {L : List ByteArray} {tv tm : Value} (hT : Tab w tb T L tv tm) (hF : Frs w fb tb S N v mb)
    (a : Option Addr) (n c : Nat) (l : List ByteArray) (hr : SRow w a n l) (hn : n ≤ 16) (hc : n ≤ c) (hz : ∀ s ∈ l, s.size ≤ maxLen) :
    Calls Tryd.prog 79 #[.pointer (some ⟨fb, 0, none⟩), .slice a n c] w fun e w' => RoomE L N.length l e ∧ ∃ k, w' = w.drewN k := by
  have HT : Hid (Tab w tb T L tv tm) := hT
  have HF : Hid (Frs w fb tb S N v mb) := hF
  have HR : Hid (SRow w a n l) := hr
  have HZ : Hid (∀ s ∈ l, s.size ≤ maxLen) := hz
  have HL : Hid (l.length = n) := hr.len
  have hn' : (n : Int) ≤ 16 := by omega
  have c0 := hF.cell0
  have t0 := hT.cell0
  have t2 := hT.cell2
  obtain ⟨ta, tc, rfl⟩ := own_form hT.own
  have hsum : (total L : Int) ≤ 4194304 := by have := hT.sum; omega
  have hcnt : (L.length : Int) ≤ 65536 := by have := hT.len; omega
  have HQ1 : Hid (∀ j, Calls Tryd.prog 101 #[.pointer (some ⟨tb, 0, none⟩)] (w.drewN j) fun e w' => e = .returned (.int .i64 L.length) ∧ w' = w.drewN j) := hide (fun j => len_any tb _ tc ta _ (cell_drewN t0 j))
  have HQ2 : Hid (∀ j, Calls Tryd.prog 102 #[.pointer (some ⟨tb, 0, none⟩)] (w.drewN j) fun e w' => e = .returned (.int .i64 (total L : Nat)) ∧ w' = w.drewN j) := hide (fun j => bytes_any tb _ _ (cell_drewN t2 j))
  clear hT hF hr hz t0 t2
  go_enter Tryd.func79, Tryd.ntmps79
  go_wp2
  go_quiet ((first | (go_at_call 101; exact Calls.quiet_of_same (HQ1.out _)) | (go_at_call 102; exact Calls.quiet_of_same (HQ2.out _))))
  go_wp2
  go_loopw [5, 6, 23] (fun d z i wr => ∃ k q cn sz : Nat, k ≤ n ∧ i = .int .i64 k ∧ d = .int .i64 (cn : Int) ∧ z = .int .i64 (sz : Int) ∧ wr = w.drewN q ∧ cn = L.length + (newS L (l.take k)).length ∧ sz = total L + total (newS L (l.take k)) ∧ ∀ t ∈ newS L (l.take k), t.size ≤ 65536) (fun _ _ i _ => n - (intOf i).toNat)
  case atStart => exact ⟨0, nq, L.length, total L, Nat.zero_le _, rfl, rfl, rfl, rfl, rfl, rfl, by simp [newS, newR]⟩
  case round =>
    obtain ⟨k, q, cn, sz, hk, rfl, rfl, rfl, hw, hcn, hsz, hev⟩ := hrel
    have HW : Hid (wr = w.drewN q) := hw
    have HEV : Hid (∀ t ∈ newS L (l.take k), t.size ≤ 65536) := hev
    have HCN : Hid (cn = L.length + (newS L (l.take k)).length) := hcn
    have HSZ : Hid (sz = total L + total (newS L (l.take k))) := hsz
    have hTr : Hid (Tab wr tb T L (.slice ta L.length tc) tm) := hide (by rw [hw]; exact HT.out.drewN q)
    have hFr : Hid (Frs wr fb tb S N v mb) := hide (by rw [hw]; exact HF.out.drewN q)
    have hRr : Hid (SRow wr a n l) := hide (by rw [hw]; exact HR.out.drewN q)
    have hkl : (newS L (l.take k)).length ≤ k := by have := newS_len L (l.take k); rw [List.length_take] at this; omega
    have hcn' : (cn : Int) ≤ 65552 := by rw [hcn]; omega
    have hsz' : (sz : Int) ≤ 5242880 := by have := total_le hev; rw [hsz]; omega
    have c0 := hFr.out.cell0
    have c1 := hFr.out.cell1
    have hNl := hFr.out.len
    obtain ⟨va, vc, rfl⟩ := own_form hFr.out.own
    clear hw hcn hsz hev hkl
    by_cases hlt : k < n
    · obtain ⟨bo, oo, ha, hco⟩ := hRr.out.at (i := k) (by omega)
      subst ha
      have hN := newS_take (L := L) (l := l) (k := k) (by have := HL.out; omega)
      obtain ⟨s, hs⟩ : ∃ s, s = l.getD k ByteArray.empty := ⟨_, rfl⟩
      have HS : Hid (s.size ≤ maxLen) := hide (by rw [hs]; exact HZ.out _ (List.mem_of_getElem? (getD_get (by have := HL.out; omega))))
      rw [← hs] at hco hN
      obtain ⟨b, hb⟩ : ∃ b, isIn L s = b := ⟨_, rfl⟩
      obtain ⟨fr, hfr⟩ : ∃ fr : Int, fr = if isIn L s then (place L s : Int) else 0 := ⟨_, rfl⟩
      have HQ : Hid (Calls Tryd.prog 100 #[.pointer (some ⟨tb, 0, none⟩), .string s] wr fun e w' => e = .returned (.tuple #[.int .i64 fr, .bool b]) ∧ w' = wr) := hide (by
        have := find_any hTr.out s HS.out
        have e : lookV L s = .tuple #[.int .i64 fr, .bool b] := by unfold lookV; rw [hfr, ← hb]
        rwa [e] at this)
      obtain ⟨b2, hb2⟩ : ∃ b2, isIn (l.take k) s = b2 := ⟨_, rfl⟩
      have HC : Hid (Calls Tryd.prog 103 #[.slice (some ⟨bo, oo, none⟩) k c, .string s] wr fun e w' => e = .returned (.bool b2) ∧ w' = wr) := hide (by
        have := contains_any (some ⟨bo, oo, none⟩) k c (l.take k) s wr (hRr.out.take hk) (by omega)
        rwa [hb2] at this)
      rw [hb, hb2] at hN
      have HN : Hid _ := hide hN
      have HSM : Hid (s ∈ l) := hide (by rw [hs]; exact List.mem_of_getElem? (getD_get (by have := HL.out; omega)))
      have HSN : Hid (b = true ∨ s ∉ L) := hide (by cases b; exact .inr (isIn_not.1 hb); exact .inl rfl)
      have hss : (s.size : Int) ≤ 9223372036854775807 := by have := HS.out; unfold maxLen at this; omega
      clear hs hb hb2 hfr hN
      go_wp2_with fail
      refine HQ.out.mono ?_
      rintro e w' ⟨rfl, rfl⟩
      have hkc : (k : Int) ≤ c := by omega
      cases b
      · go_wp2_with fail
        refine HC.out.mono ?_
        rintro e w'' ⟨rfl, rfl⟩
        cases b2
        · by_cases hbig : (s.size : Int) > 65536
          · go_wp2
            go_ret
            refine ⟨⟨false, rfl, ?_⟩, q, HW.out⟩
            refine ⟨fun e => (by cases e), fun h => ?_⟩
            have := h.each s ((newS_mem L l s).2 ⟨HSM.out, HSN.out.resolve_left (by simp)⟩)
            omega
          · go_wp2
            refine ⟨⟨k + 1, q, cn + 1, sz + s.size, by omega, by go_num, by go_num, by go_num, HW.out, ?_, ?_, ?_⟩, by simp [intOf]; omega⟩
            · rw [HN.out, HCN.out]; simp; omega
            · rw [HN.out, HSZ.out]; simp [total_snoc]; omega
            · rw [HN.out]
              intro t ht
              simp at ht
              rcases ht with ht | rfl
              · exact HEV.out t ht
              · omega
        · go_wp2
          refine ⟨⟨k + 1, q, cn, sz, by omega, by go_num, rfl, rfl, HW.out, ?_, ?_, ?_⟩, by simp [intOf]; omega⟩
          · rw [HN.out, HCN.out]; simp
          · rw [HN.out, HSZ.out]; simp
          · rw [HN.out]; exact HEV.out
      · go_wp2
        refine ⟨⟨k + 1, q, cn, sz, by omega, by go_num, rfl, rfl, HW.out, ?_, ?_, ?_⟩, by simp [intOf]; omega⟩
        · rw [HN.out, HCN.out]; simp
        · rw [HN.out, HSZ.out]; simp
        · rw [HN.out]; exact HEV.out
    · have ht : l.take k = l := List.take_of_length_le (by have := HL.out; omega)
      rw [ht] at HCN HSZ HEV
      have hkn : k = n := by omega
      subst hkn
      by_cases h1 : (cn : Int) ≤ 65536
      · by_cases h2 : (sz : Int) ≤ 4194304
        · by_cases h3 : (N.length : Int) + k ≤ 262144
          · have HX : Hid (Roomy L N.length l) := ⟨HEV.out, by have := HCN.out; omega, by have := HSZ.out; omega, by have := HL.out; omega⟩
            clear ht
            go_wp2
            go_ret
            exact ⟨⟨true, rfl, fun _ => HX.out, fun _ => rfl⟩, q, HW.out⟩
          · have HX : Hid (¬ Roomy L N.length l) := fun h => h3 (by have := h.nodes; have := HL.out; omega)
            clear ht
            go_wp2
            go_ret
            exact ⟨⟨false, rfl, fun e => (by cases e), fun h => absurd h HX.out⟩, q, HW.out⟩
        · have HX : Hid (¬ Roomy L N.length l) := fun h => h2 (by have := h.sum; have := HSZ.out; omega)
          clear ht
          go_wp2
          go_ret
          exact ⟨⟨false, rfl, fun e => (by cases e), fun h => absurd h HX.out⟩, q, HW.out⟩
      · have HX : Hid (¬ Roomy L N.length l) := fun h => h1 (by have := h.count; have := HCN.out; omega)
        clear ht
        go_wp2
        go_ret
        exact ⟨⟨false, rfl, fun e => (by cases e), fun h => absurd h HX.out⟩, q, HW.out⟩
end Go.Proofs.YtpnacioliccglaaDoor.E6
