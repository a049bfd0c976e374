/-
  roomy: an event with a stack of its own, room behind it.
-/
import Derived.Test.YtbflkdbimgakpaaDoorDuP
import Derived.Laws.CopyOwn
namespace Go.Proofs.YtbflkdbimgakpaaDoor
open Go.RowKit Go.Maps Go.Shelf
set_option linter.unusedVariables false
/-- Texts in a row. -/
def layZ : Lay ByteArray := ⟨fun s => [.string s], 1, by decide, fun _ => rfl, fun a u hu => by rw [List.mem_singleton] at hu; rw [hu]; rfl⟩
theorem zInfo : (Tryd.prog.info? 9).map (fun i => (i.zero, i.size, i.bytes)) = some (some (.string ⟨#[]⟩), 1, 16) := by kernel_rfl
theorem zfl (L : List ByteArray) : layZ.fl L = L.map Value.string := by
  induction L with
  | nil => rfl
  | cons x L ih => rw [layZ.fl_cons, ih]; rfl
theorem zrow {w : World} {a : Option Addr} {n : Nat} {L : List ByteArray} (h : E6.SRow w a n L) : TRow layZ w a n L := by
  refine ⟨h.len, ?_⟩
  rcases Nat.eq_zero_or_pos n with h0 | h0
  · exact .inl h0
  · obtain ⟨b, off, ha, _⟩ := h.at h0
    refine .inr ⟨b, off, ha, fun i x hx t u hu => ?_⟩
    have hl := (List.getElem?_eq_some_iff.1 hx).1
    obtain ⟨b', off', ha', hc⟩ := h.at (i := i) (by rw [← h.len]; exact hl)
    rw [ha] at ha'
    cases ha'
    have ht : t = 0 := by have := (List.getElem?_eq_some_iff.1 hu).1; simp [layZ] at this; exact this
    subst ht
    have hu' : u = .string x := by simp [layZ] at hu; exact hu.symm
    subst hu'
    rw [E6.getD_get hl] at hx
    cases hx
    simpa [layZ] using hc
theorem zown {w : World} {base g n c : Nat} {L : List ByteArray} (h : Own layZ 9 w base (.slice (some ⟨g, 0, none⟩) n c) L) : ∀ i (hi : i < L.length), w.cell? ⟨g, i, none⟩ = some (.string (L.getD i ByteArray.empty)) := by
  intro i hi
  have := h.cell (i := i) (E6.getD_get hi) 0 (u := .string (L.getD i ByteArray.empty)) rfl
  simpa [layZ] using this
def room : ByteArray := ⟨#[114, 111, 111, 109]⟩
/-- The boxes of roomy: the event, the answer, the event that is made. -/
structure Rm (w w2 : World) (g k o a : Int) (s0 s : Value) : Prop where
  bel : Below w.heap.size w w2
  arg : w2.heap[w.heap.size]? = some (.cells #[.int .i64 g, .int .i64 k, .int .u64 o, .int .u64 a, s0] 25 (0, 0))
  two : w2.heap[w.heap.size + 1]? = some (.cells #[.int .i64 0, .int .i64 0, .int .u64 0, .int .u64 0, .slice none 0 0] 25 (0, 0))
  one : w2.heap[w.heap.size + 2]? = some (.cells #[.int .i64 g, .int .i64 k, .int .u64 o, .int .u64 a, s] 25 (0, 0))
section
variable {w w2 w3 : World} {g k o a : Int} {s0 s s' : Value}
theorem Rm.new (w : World) (g k o a : Int) (s s' : Value) : Rm w (((w.alloc (.cells #[.int .i64 g, .int .i64 k, .int .u64 o, .int .u64 a, s] 25)).alloc (.cells #[.int .i64 0, .int .i64 0, .int .u64 0, .int .u64 0, .slice none 0 0] 25)).alloc (.cells #[.int .i64 g, .int .i64 k, .int .u64 o, .int .u64 a, s'] 25)) g k o a s s' := by
  refine ⟨(below_alloc2 w _ _).alloc (by simp; omega) _, ?_, ?_, ?_⟩
  · exact ((below_alloc1 _ _).block _ (by simp; omega)).trans (((below_alloc1 _ _).block _ (by simp)).trans (heap_new _ _))
  · exact ((below_alloc1 _ _).block _ (by simp)).trans (heap_new2 _ _ _)
  · exact heap_newS (by simp)
theorem Rm.on (h : Rm w w2 g k o a s0 s) (hb : Below w2.heap.size w2 w3) : Rm w w3 g k o a s0 s :=
  ⟨Below.on h.bel hb, (hb.block _ (Array.getElem?_eq_some_iff.1 h.arg).1).trans h.arg, (hb.block _ (Array.getElem?_eq_some_iff.1 h.two).1).trans h.two, (hb.block _ (Array.getElem?_eq_some_iff.1 h.one).1).trans h.one⟩
/-- An append to the row of one's own. -/
theorem Rm.grown {v : Value} {L : List ByteArray} (h : Rm w w2 g k o a s0 s) (ho : Own layZ 9 w2 w.heap.size v L) (hg : w2.grownBy w3 v.ownBlock) : Rm w w3 g k o a s0 s := by
  have hk : ∀ (q : Nat) (cs : Array Value), w2.heap[q]? = some (Obj.cells cs 25 (0, 0)) → w3.heap[q]? = some (Obj.cells cs 25 (0, 0)) := fun q cs hq =>
    (hg.block q (Array.getElem?_eq_some_iff.1 hq).1 (fun e => own_ne_cells ho hq (by decide) e.symm)).trans hq
  exact ⟨h.bel.grown hg h.bel.size (fun q hq => (ho.lt q hq).1), hk _ _ h.arg, hk _ _ h.two, hk _ _ h.one⟩
theorem Rm.cells (h : Rm w w2 g k o a s0 s) : w2.cell? ⟨w.heap.size + 2, 0, none⟩ = some (.int .i64 g) ∧ w2.cell? ⟨w.heap.size + 2, 1, none⟩ = some (.int .i64 k) ∧ w2.cell? ⟨w.heap.size + 2, 2, none⟩ = some (.int .u64 o) ∧ w2.cell? ⟨w.heap.size + 2, 3, none⟩ = some (.int .u64 a) ∧ w2.cell? ⟨w.heap.size + 2, 4, none⟩ = some s ∧ w2.frozen? ⟨w.heap.size + 2, 4, none⟩ = false :=
  ⟨cell_at h.one rfl, cell_at h.one rfl, cell_at h.one rfl, cell_at h.one rfl, cell_at h.one rfl, frz h.one 4⟩
theorem Rm.set (h : Rm w w2 g k o a s0 s) (s' : Value) : Rm w (w2.setCell ⟨w.heap.size + 2, 4, none⟩ s') g k o a s0 s' := by
  have hk : But (fun q => q = w.heap.size + 2) w2 (w2.setCell ⟨w.heap.size + 2, 4, none⟩ s') := (But.refl (fun q => q = w.heap.size + 2) w2).setCell ⟨w.heap.size + 2, 4, none⟩ (fun _ => rfl) _
  refine ⟨?_, ?_, ?_, heap_setCell_same w2 (w.heap.size + 2) 4 _ 25 _ h.one⟩
  · exact h.bel.trans (hk.below h.bel.size (fun q e => by have e9 : q = w.heap.size + 2 := e; omega))
  · exact (hk.block _ (Array.getElem?_eq_some_iff.1 h.arg).1 (fun e => by have e9 : w.heap.size = w.heap.size + 2 := e; omega)).trans h.arg
  · exact (hk.block _ (Array.getElem?_eq_some_iff.1 h.two).1 (fun e => by have e9 : w.heap.size + 1 = w.heap.size + 2 := e; omega)).trans h.two
theorem Rm.own (h : Rm w w2 g k o a s0 s) {v : Value} {L : List ByteArray} (ho : Own layZ 9 w2 w.heap.size v L) (s' : Value) : Own layZ 9 (w2.setCell ⟨w.heap.size + 2, 4, none⟩ s') w.heap.size v L := by
  have hk : But (fun q => q = w.heap.size + 2) w2 (w2.setCell ⟨w.heap.size + 2, 4, none⟩ s') := (But.refl (fun q => q = w.heap.size + 2) w2).setCell ⟨w.heap.size + 2, 4, none⟩ (fun _ => rfl) _
  refine ho.but hk (fun q hq e => ?_)
  have e9 : q = w.heap.size + 2 := e
  rw [e9] at hq
  exact own_ne_cells ho h.one (by decide) hq
theorem dbut_setRow (w : World) (g' : Nat) (cs : Array Value) : But (fun q => q = g') w (w.setRow g' cs) := ⟨rfl, rfl, rfl, by simp, fun q _ hq => setRow_other w g' q cs hq⟩
/-- What is answered, and what is its own. -/
theorem Rm.fin (h : Rm w w2 g k o a s0 s) {v : Value} {L : List ByteArray} (ho : Own layZ 9 w2 w.heap.size v L) (cs : Array Value) :
    (w2.setRow (w.heap.size + 1) cs).heap[w.heap.size + 1]? = some (.cells cs 25 (0, 0)) ∧ Below w.heap.size w (w2.setRow (w.heap.size + 1) cs) ∧ Own layZ 9 (w2.setRow (w.heap.size + 1) cs) w.heap.size v L := by
  refine ⟨setRow_heap _ _ _ _ _ _ h.two, below_setRow h.bel (by omega) _, ho.but (dbut_setRow w2 (w.heap.size + 1) cs) (fun q hq e => ?_)⟩
  have e9 : q = w.heap.size + 1 := e
  rw [e9] at hq
  exact own_ne_cells ho h.two (by decide) hq
end
theorem dinfoE : (Tryd.prog.info? 25).map (·.size) = some 5 := by kernel_rfl
theorem dev_one (g k o a : Int) (x : Option Addr) (m c : Nat) : (#[.int .i64 g, .int .i64 k, .int .u64 o, .int .u64 a, .slice x m c] : Array Value).all (·.oneCell') = true := by first | kernel_rfl | simp [Value.oneCell']
/-- 'append(s, x...)' of texts. -/
theorem append_z (w : World) {ops : Array Oper} {rest : List Oper} {o : Oper} {a : Act} {Q : Exit → Act → World → Prop} (hgd : o.guard = none) (s x : Operand)
    (ho : o.op = .call { callee := .builtin .append, args := #[s, x], argTypes := #[23, 23] }) (B : Nat) (v : Value) (L : List ByteArray) (hs : a.eval s = v) (hown : Own layZ 9 w B v L)
    (ra : Option Addr) (m c : Nat) (M : List ByteArray) (hx : a.eval x = .slice ra m c) (hr : TRow layZ w ra m M) (h0 : ra = none → m = 0 ∧ c = 0)
    (hb : (L.length + m) * 16 ≤ 140737488355328) (hB : B ≤ w.heap.size)
    (h : ∀ v' w', Own layZ 9 w' B v' (L ++ M) → w.grownBy w' v.ownBlock → wpList Tryd.prog ops Q rest (a.put o.dst v') w') : wpList Tryd.prog ops Q (o :: rest) a w := by
  obtain ⟨i0, hi0, hz0, hz1, hz2⟩ := info_parts zInfo
  exact append_lay layZ w 23 9 i0 _ 16 Tryd.underlying23 hi0 hz0 hz1 hz2 rfl hgd s x ho B v L hs hown ra m c M hx hr h0 (by unfold maxLen; omega) hb hB (fun v' w' h1 h2 _ => h v' w' h1 h2)
/-- What roomy answers: its stack in its own row, seventy more behind it. -/
def RoomyR (g k o a : Int) (ls : List ByteArray) (w : World) (r : Ending) (w' : World) : Prop :=
  ∃ rb rc, r = .returned (.agg #[.int .i64 g, .int .i64 k, .int .u64 o, .int .u64 a, .slice (some ⟨rb, 0, none⟩) ls.length rc]) ∧ Own layZ 9 w' w.heap.size (.slice (some ⟨rb, 0, none⟩) (ls.length + 70) rc) (ls ++ List.replicate 70 room) ∧ ls.length + 70 ≤ rc ∧ Below w.heap.size w w'
set_option maxRecDepth 8000 in
set_option maxHeartbeats 2000000 in
theorem roomy_any (g k o a : Int) (sa : Option Addr) (sc : Nat) (ls : List ByteArray) (w : World) (hs : E6.SRow w sa ls.length ls) (hm : (ls.length : Int) ≤ 8796093021952) (hz : sa = none → ls.length = 0 ∧ sc = 0) :
    Calls Tryd.prog 6 #[.agg #[.int .i64 g, .int .i64 k, .int .u64 o, .int .u64 a, .slice sa ls.length sc]] w (RoomyR g k o a ls w) := by
  obtain ⟨n, hn⟩ : ∃ n, n = ls.length := ⟨_, rfl⟩
  unfold RoomyR
  rw [← hn] at hs hm hz ⊢
  obtain ⟨W, hW⟩ : ∃ W, W = (((w.alloc (.cells #[.int .i64 g, .int .i64 k, .int .u64 o, .int .u64 a, .slice sa n sc] 25)).alloc (.cells #[.int .i64 0, .int .i64 0, .int .u64 0, .int .u64 0, .slice none 0 0] 25)).alloc (.cells #[.int .i64 g, .int .i64 k, .int .u64 o, .int .u64 a, .slice none 0 0] 25)) := ⟨_, rfl⟩
  have hO : Rm w W g k o a (.slice sa n sc) (.slice none 0 0) := by rw [hW]; exact Rm.new _ _ _ _ _ _ _
  have HS := hide (zrow (hs.bel hO.bel))
  have HO := hide hO
  have HW := hide hW
  have HZ := hide hz
  have HM := hide hm
  have HN := hide hn
  clear hs hO hW hz hm hn
  go_enter Tryd.func6, Tryd.ntmps6
  go_wp2_with (at_builtin; go_loud (rw [← HW.out]); go_loud (refine append_z _ rfl _ _ rfl w.heap.size (.slice none 0 0) [] rfl (Own.nil _ _ _ _) sa n sc ls rfl HS.out HZ.out (by have := HM.out; simp only [List.length_nil]; omega) HO.out.bel.size ?_); intro v1 w2 o2 g2; obtain ⟨a1, c1, e1, _, _⟩ := own_form o2; generalize ([] ++ ls).length = m1 at e1; subst e1; have HO3 := hide (HO.out.grown (Own.nil layZ 9 W w.heap.size) g2); have HO4 := hide (HO3.out.set (.slice a1 m1 c1)); have HR4 := hide (HO3.out.own o2 (.slice a1 m1 c1)); obtain ⟨z0, z1, z2, z3, z4, z5⟩ := HO3.out.cells; have hlt2 := World.block_lt_of_cell? w2 _ z0; clear o2 g2 HS HO HW)
  go_wp2
  go_loopw [4] (fun i wr => ∃ j : Nat, j ≤ 70 ∧ i = .int .i64 j ∧ ∃ a' m' c', Rm w wr g k o a (.slice sa n sc) (.slice a' m' c') ∧ Own layZ 9 wr w.heap.size (.slice a' m' c') (ls ++ List.replicate j room)) (fun i _ => 70 - (intOf i).toNat)
  case atStart => exact ⟨0, Nat.zero_le _, rfl, a1, m1, c1, HO4.out, by simpa using HR4.out⟩
  case round =>
    obtain ⟨j, hj, rfl, a', m', c', hR, ho⟩ := hrel
    have HR := hide hR
    have HOw := hide ho
    obtain ⟨p0, p1, p2, p3, p4, f4⟩ := hR.cells
    have hlt := World.block_lt_of_cell? wr _ p0
    have q4 : wr.cell? ⟨w.heap.size, 4, none⟩ = some (.slice sa n sc) := cell_at hR.arg rfl
    clear hR ho
    by_cases hjl : j < 70
    · go_wp2_with (at_builtin; go_loud (refine append_z _ rfl _ _ rfl w.heap.size (.slice a' m' c') (ls ++ List.replicate j room) rfl (HOw.out.below (below_alloc1 _ _)) (some ⟨wr.heap.size, 0, none⟩) 1 1 [room] rfl (TRow.one (heap_new _ _)) (fun e => by cases e) (by have := HM.out; have := HN.out; simp only [List.length_append, List.length_replicate]; omega) (by rw [World.size_alloc]; exact Nat.le_succ_of_le HR.out.bel.size) ?_); intro v3 w3 o3 g3; obtain ⟨a3, c3, e3, _, _⟩ := own_form o3; generalize (ls ++ List.replicate j room ++ [room]).length = m3 at e3; subst e3; have HO5 := hide ((HR.out.on (below_alloc1 _ _)).grown (HOw.out.below (below_alloc1 _ _)) g3); have HO6 := hide (HO5.out.set (.slice a3 m3 c3)); have HR6 := hide (HO5.out.own o3 (.slice a3 m3 c3)); obtain ⟨z0, z1, z2, z3, z4, z5⟩ := HO5.out.cells; have hlt3 := World.block_lt_of_cell? w3 _ z0; clear o3 g3 p0 p1 p2 p3 p4 f4 q4 hlt)
      go_wp2
      refine ⟨⟨j + 1, by omega, by go_num, a3, m3, c3, HO6.out, ?_⟩, by simp [intOf]; omega⟩
      have h1 := HR6.out
      rwa [List.append_assoc, ← List.replicate_succ'] at h1
    · have hj70 : j = 70 := by omega
      subst hj70
      have hlen : (ls ++ List.replicate 70 room).length = n + 70 := by rw [List.length_append, List.length_replicate, HN.out]
      obtain ⟨rb, rc, hv, _, _, hcap⟩ := HOw.out.frm (by omega)
      rw [hlen] at hv hcap
      injection hv with e1 e2 e3
      subst e1 e2 e3
      have hnc : n ≤ c' := by omega
      have HC := hide hcap
      have HO7 := hide (HR.out.set (.slice (some ⟨rb, 0, none⟩) n c'))
      have HR7 := hide (HR.out.own HOw.out (.slice (some ⟨rb, 0, none⟩) n c'))
      clear hlen hcap hjl hj HR HOw
      go_wp2_with (refine wpList_store_row rfl 25 (.tmp 2) (.tmp 29) rfl (w.heap.size + 1) #[.int .i64 g, .int .i64 k, .int .u64 o, .int .u64 a, .slice (some ⟨rb, 0, none⟩) n c'] rfl rfl 25 #[.int .i64 0, .int .i64 0, .int .u64 0, .int .u64 0, .slice none 0 0] HO7.out.two dinfoE rfl (dev_one _ _ _ _ _ _ _) ?_)
      obtain ⟨y1, y2, y3⟩ := HO7.out.fin HR7.out #[.int .i64 g, .int .i64 k, .int .u64 o, .int .u64 a, .slice (some ⟨rb, 0, none⟩) n c']
      refine bodyPost_ret (v := .agg #[.int .i64 g, .int .i64 k, .int .u64 o, .int .u64 a, .slice (some ⟨rb, 0, none⟩) n c']) ?_ ?_ ?_
      · exact results_cell_row Tryd.results6 _ _ (w.heap.size + 1) 25 _ (0, 0) _ rfl y1 Tryd.underlying25 rfl dinfoE
      · rfl
      · exact ⟨rb, c', rfl, y3, HC.out, y2⟩
end Go.Proofs.YtbflkdbimgakpaaDoor
