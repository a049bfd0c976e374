import Derived.Test.YtdppbaipmmcjbaaDoorSWr
import Derived.BigRegion
import Derived.Deep.RegionLaw
/-
  Put of a writer, refused.
-/
namespace Go.Proofs.YtdppbaipmmcjbaaDoor
open Go.RowKit
set_option maxHeartbeats 1600000 in
set_option maxRecDepth 8000 in
theorem wput_bad {w : World} {p : Nat} {lim held S O K least : Int} {v : Value} (t k o a q : Int) (hK : Kn w) (h : w.heap[p]? = some (.cells (wcs lim v held S O K least) 75 (0, 0))) (hE : putE ⟨0, 0, 0⟩ ⟨t, k, o, a, q⟩ ≠ 0) :
    Calls Tryd.prog 32 #[.pointer (some ⟨p, 0, none⟩), .agg #[.int .i64 t, .int .i64 k, .int .u64 o, .int .u64 a, .int .i64 q]] w fun e w' => e = .returned (.tuple #[.slice none 0 0, .int .i64 (putE ⟨0, 0, 0⟩ ⟨t, k, o, a, q⟩)]) ∧ Below w.heap.size w w' := by
  have hmf : ∀ (fn : Fn) (first cap : Array Value) (w : World), (Instr.makeFunc fn first cap).run Tryd.prog w = .ok (.func fn first cap) w := fun _ _ _ _ => rfl
  have hp := lt_of_heap h
  obtain ⟨W, hW⟩ : ∃ W, W = ((w.alloc (.cells #[.pointer (some ⟨p, 0, none⟩)] 50)).alloc (.cells #[.int .i64 t, .int .i64 k, .int .u64 o, .int .u64 a, .int .i64 q] 48)).alloc (.cells #[.int .i64 0] 25) := ⟨_, rfl⟩
  have hb : Below w.heap.size w W := by rw [hW]; exact (below_alloc2 _ _ _).alloc (by simp; omega) _
  have hsz : W.heap.size = w.heap.size + 3 := by rw [hW]; simp
  have LF : W.heap[w.heap.size + 1 + 1]? = some (.cells #[.int .i64 0] 25 (0, 0)) := by rw [hW]; exact heap_newS (by simp)
  have HP := put_bad 0 0 0 t k o a q W (hK.below hb (by omega)) (by omega) hE
  generalize putE ⟨0, 0, 0⟩ ⟨t, k, o, a, q⟩ = E at HP hE ⊢
  have HW : Hid _ := hide hW
  have HB : Hid _ := hide hb
  clear hW hb
  go_enter_defers Tryd.func32, Tryd.ntmps32
  go_wp2_with fail
  rw [← HW.out]
  refine HP.mono ?_
  rintro e w1 ⟨rfl, hb1⟩
  have hs1 := hb1.size
  have LF1 := (hb1.block (w.heap.size + 1 + 1) (by omega)).trans LF
  have f1 := frz LF1 0
  have c1 : w1.cell? ⟨w.heap.size + 1 + 1, 0, none⟩ = some (.int .i64 0) := by rw [cell_of_row w1 _ 0 _ _ (0, 0) LF1]; rfl
  have hlt : w.heap.size + 1 + 1 < w1.heap.size := by omega
  clear LF LF1
  go_wp2_with fail
  go_region
  go_wp2
  obtain ⟨Z, hZ⟩ : ∃ Z, Z = (((w1.setCell ⟨w.heap.size + 1 + 1, 0, none⟩ (.int .i64 E)).setCell ⟨w.heap.size + 1 + 1, 0, none⟩ (.int .i64 E)).alloc (.cells #[.int .i64 0, .int .u64 0, .int .i64 0] 69)).drew := ⟨_, rfl⟩
  have hcZ : Z.cell? ⟨w.heap.size + 1 + 1, 0, none⟩ = some (.int .i64 E) := by rw [hZ]; go_simp
  have hBZ : Below w.heap.size w Z := by
    rw [hZ]
    have h1 : Below w.heap.size w w1 := HB.out.trans (hb1.mono (by omega))
    exact (((h1.setCell (p := ⟨w.heap.size + 1 + 1, 0, none⟩) (by dsimp only; omega) _).setCell (p := ⟨w.heap.size + 1 + 1, 0, none⟩) (by dsimp only; omega) _).alloc (by simp; omega) _).drew
  rw [← hZ]
  refine leaves_cons (f := 49) (args := #[.pointer (some ⟨w.heap.size + 1 + 1, 0, none⟩), .pointer (some ⟨w.heap.size, 0, none⟩), .pointer (some ⟨w.heap.size + 1, 0, none⟩)]) (by simp) (by simp [go_sem]) ?_
  refine (put1_idle _ E _ _ _ Z hcZ hE).mono ?_
  rintro e u' w'' ⟨rfl, rfl, rfl⟩
  simp [Leaves, settle, results, Tryd.results32, go_sem, hcZ]
  exact hBZ
end Go.Proofs.YtdppbaipmmcjbaaDoor
/-
  Put of a writer, taken.
-/
namespace Go.Proofs.YtdppbaipmmcjbaaDoor
open Go.RowKit
/-- What lies in memory while a Put is under way: the writer's box, the record's, the error's, the state behind; the writer. -/
structure Px (X : World) (n p nb : Nat) (t k o a q : Int) (wc : Array Value) : Prop where
  box : X.heap[n]? = some (.cells #[.pointer (some ⟨p, 0, none⟩)] 50 (0, 0))
  rcd : X.heap[n + 1]? = some (.cells #[.int .i64 t, .int .i64 k, .int .u64 o, .int .u64 a, .int .i64 q] 48 (0, 0))
  err : X.heap[n + 1 + 1]? = some (.cells #[.int .i64 0] 25 (0, 0))
  st : X.heap[nb]? = some (.cells #[.int .i64 (t + 1), .int .u64 o, .int .i64 q] 69 (0, 0))
  wr : X.heap[p]? = some (.cells wc 75 (0, 0))
section
variable {X Y : World} {n p nb : Nat} {t k o a q : Int} {wc : Array Value}
theorem Px.below (h : Px X n p nb t k o a q wc) (hb : Below X.heap.size X Y) : Px Y n p nb t k o a q wc :=
  ⟨(hb.block _ (lt_of_heap h.box)).trans h.box, (hb.block _ (lt_of_heap h.rcd)).trans h.rcd, (hb.block _ (lt_of_heap h.err)).trans h.err, (hb.block _ (lt_of_heap h.st)).trans h.st, (hb.block _ (lt_of_heap h.wr)).trans h.wr⟩
theorem Px.but (h : Px X n p nb t k o a q wc) (hb : But (fun g => g = n + 1 + 1) X Y) (he : Y.heap[n + 1 + 1]? = some (.cells #[.int .i64 0] 25 (0, 0))) (hp : p ≠ n + 1 + 1) (hn : nb ≠ n + 1 + 1) : Px Y n p nb t k o a q wc :=
  ⟨(hb.block _ (lt_of_heap h.box) (by omega)).trans h.box, (hb.block _ (lt_of_heap h.rcd) (by omega)).trans h.rcd, he, (hb.block _ (lt_of_heap h.st) hn).trans h.st, (hb.block _ (lt_of_heap h.wr) hp).trans h.wr⟩
theorem Px.boxc (h : Px X n p nb t k o a q wc) : X.cell? ⟨n, 0, none⟩ = some (.pointer (some ⟨p, 0, none⟩)) := by rw [cell_of_row X _ 0 _ _ (0, 0) h.box]; rfl
theorem Px.errc (h : Px X n p nb t k o a q wc) : X.cell? ⟨n + 1 + 1, 0, none⟩ = some (.int .i64 0) := by rw [cell_of_row X _ 0 _ _ (0, 0) h.err]; rfl
end
theorem Bt.set {F : Nat} {w X : World} {g i : Nat} (h : But (fun k => k = F) w X) (hg : g = F ∨ w.heap.size ≤ g) (v : Value) : But (fun k => k = F) w (X.setCell ⟨g, i, none⟩ v) :=
  h.setCell ⟨g, i, none⟩ (fun e => hg.resolve_right (by dsimp only at e; omega)) v
theorem cell1_heap {w : World} {g : Nat} {T : TypeId} {x : Value} (v : Value) (h : w.heap[g]? = some (.cells #[x] T (0, 0))) : (w.setCell ⟨g, 0, none⟩ v).heap[g]? = some (.cells #[v] T (0, 0)) := set1_heap v h
/-- The first half: Put of a record that may be, up to where its stamp is looked at. -/
theorem px_start {w W w1 : World} {p : Nat} {t k o a q : Int} {wc : Array Value} (h : w.heap[p]? = some (.cells wc 75 (0, 0)))
    (hW : W = ((w.alloc (.cells #[.pointer (some ⟨p, 0, none⟩)] 50)).alloc (.cells #[.int .i64 t, .int .i64 k, .int .u64 o, .int .u64 a, .int .i64 q] 48)).alloc (.cells #[.int .i64 0] 25)) (hb1 : Below W.heap.size W w1) :
    Px ((w1.setCell ⟨w.heap.size + 1 + 1, 0, none⟩ (.int .i64 0)).alloc (.cells #[.int .i64 (t + 1), .int .u64 o, .int .i64 q] 69)) w.heap.size p w1.heap.size t k o a q wc ∧ Below w.heap.size w ((w1.setCell ⟨w.heap.size + 1 + 1, 0, none⟩ (.int .i64 0)).alloc (.cells #[.int .i64 (t + 1), .int .u64 o, .int .i64 q] 69)) := by
  have hp := lt_of_heap h
  have hsz : W.heap.size = w.heap.size + 3 := by rw [hW]; simp
  have hs1 := hb1.size
  have hb : Below w.heap.size w W := by rw [hW]; exact (below_alloc2 _ _ _).alloc (by simp; omega) _
  have hbw : Below w.heap.size w w1 := hb.trans (hb1.mono (by omega))
  have LB : W.heap[w.heap.size]? = some (.cells #[.pointer (some ⟨p, 0, none⟩)] 50 (0, 0)) := by rw [hW]; exact heap_old (heap_old (heap_new _ _))
  have LR : W.heap[w.heap.size + 1]? = some (.cells #[.int .i64 t, .int .i64 k, .int .u64 o, .int .u64 a, .int .i64 q] 48 (0, 0)) := by rw [hW]; exact heap_old (heap_new2 _ _ _)
  have LF : W.heap[w.heap.size + 1 + 1]? = some (.cells #[.int .i64 0] 25 (0, 0)) := by rw [hW]; exact heap_newS (by simp)
  have far : ∀ g, g ≠ w.heap.size + 1 + 1 → (w1.setCell ⟨w.heap.size + 1 + 1, 0, none⟩ (.int .i64 0)).heap[g]? = w1.heap[g]? := fun g hg => Below.heap_setCell _ _ _ _ hg
  refine ⟨⟨heap_old ((far _ (by omega)).trans ((hb1.block _ (by omega)).trans LB)), heap_old ((far _ (by omega)).trans ((hb1.block _ (by omega)).trans LR)), heap_old (cell1_heap _ ((hb1.block _ (by omega)).trans LF)), heap_newS (by simp [World.setCell]), heap_old ((far _ (by omega)).trans ((hbw.block _ hp).trans h))⟩, ?_⟩
  exact (hbw.setCell (p := ⟨w.heap.size + 1 + 1, 0, none⟩) (by dsimp only; omega) _).alloc (by simp [World.setCell]; omega) _
set_option maxHeartbeats 1600000 in
set_option maxRecDepth 8000 in
theorem wput_low {w : World} {p : Nat} {lim held S O K least : Int} {v : Value} (t k o a q : Int) (hK : Kn w) (h : w.heap[p]? = some (.cells (wcs lim v held S O K least) 75 (0, 0))) (hE : putE ⟨0, 0, 0⟩ ⟨t, k, o, a, q⟩ = 0) (hr : (⟨t, k, o, a, q⟩ : Rc).ok) (hlow : t < least) :
    Calls Tryd.prog 32 #[.pointer (some ⟨p, 0, none⟩), .agg #[.int .i64 t, .int .i64 k, .int .u64 o, .int .u64 a, .int .i64 q]] w fun e w' => e = .returned (.tuple #[.slice none 0 0, .int .i64 80]) ∧ Below w.heap.size w w' := by
  have hmf : ∀ (fn : Fn) (first cap : Array Value) (w : World), (Instr.makeFunc fn first cap).run Tryd.prog w = .ok (.func fn first cap) w := fun _ _ _ _ => rfl
  have hp := lt_of_heap h
  obtain ⟨W, hW⟩ : ∃ W, W = ((w.alloc (.cells #[.pointer (some ⟨p, 0, none⟩)] 50)).alloc (.cells #[.int .i64 t, .int .i64 k, .int .u64 o, .int .u64 a, .int .i64 q] 48)).alloc (.cells #[.int .i64 0] 25) := ⟨_, rfl⟩
  have hb : Below w.heap.size w W := by rw [hW]; exact (below_alloc2 _ _ _).alloc (by simp; omega) _
  have hsz : W.heap.size = w.heap.size + 3 := by rw [hW]; simp
  have LF : W.heap[w.heap.size + 1 + 1]? = some (.cells #[.int .i64 0] 25 (0, 0)) := by rw [hW]; exact heap_newS (by simp)
  have HP := put_n 0 0 0 t k o a q W (hK.below hb (by omega)) (by omega) hE hr
  generalize text ⟨0, 0, 0⟩ ⟨t, k, o, a, q⟩ = T0 at HP
  have HW : Hid _ := hide hW
  have HH : Hid _ := hide h
  clear hW hb h
  go_enter_defers Tryd.func32, Tryd.ntmps32
  go_wp2_with fail
  rw [← HW.out]
  refine HP.mono ?_
  rintro e w1 ⟨g1, c1, rfl, hg1, hown1, hb1⟩
  have hs1 := hb1.size
  have LF1 := (hb1.block (w.heap.size + 1 + 1) (by omega)).trans LF
  have f1 := frz LF1 0
  have x1 : w1.cell? ⟨w.heap.size + 1 + 1, 0, none⟩ = some (.int .i64 0) := by rw [cell_of_row w1 _ 0 _ _ (0, 0) LF1]; rfl
  have hlt : w.heap.size + 1 + 1 < w1.heap.size := by omega
  clear LF LF1
  obtain ⟨P2, hB2⟩ := px_start HH.out HW.out hb1
  obtain ⟨w2, hw2⟩ : ∃ w2, w2 = ((w1.setCell ⟨w.heap.size + 1 + 1, 0, none⟩ (.int .i64 0)).alloc (.cells #[.int .i64 (t + 1), .int .u64 o, .int .i64 q] 69)) := ⟨_, rfl⟩
  rw [← hw2] at P2 hB2
  have b0 := P2.boxc
  have e0 := P2.errc
  have fe := frz P2.err 0
  obtain ⟨r0, r1, r2, r3, r4⟩ := r5_cells P2.rcd
  obtain ⟨y0, y1, y2, y3, y4, y5, y6⟩ := w7_cells P2.wr
  have HP2 : Hid _ := hide P2
  have Hw2 : Hid _ := hide hw2
  have HB2 : Hid _ := hide hB2
  clear hw2 P2 hB2
  go_upto_region 5 with fail
  rw [← Hw2.out]
  clear x1 f1 hlt Hw2
  go_wp2_with fail
  go_quiet (fail)
  go_wp2
  obtain ⟨Z, hZ⟩ : ∃ Z, Z = (w2.drewN nq).setCell ⟨w.heap.size + 1 + 1, 0, none⟩ (.int .i64 80) := ⟨_, rfl⟩
  have hcZ : Z.cell? ⟨w.heap.size + 1 + 1, 0, none⟩ = some (.int .i64 80) := by
    have h9 := cell1_heap (.int .i64 80) (((below_drewN (Below.refl w2.heap.size w2) nq).block _ (lt_of_heap HP2.out.err)).trans HP2.out.err)
    rw [hZ, cell_of_row _ _ 0 _ _ (0, 0) h9]; rfl
  have hBZ : Below w.heap.size w Z := by
    rw [hZ]
    exact (below_drewN HB2.out nq).setCell (p := ⟨w.heap.size + 1 + 1, 0, none⟩) (by dsimp only; omega) _
  rw [← hZ]
  refine leaves_cons (f := 49) (args := #[.pointer (some ⟨w.heap.size + 1 + 1, 0, none⟩), .pointer (some ⟨w.heap.size, 0, none⟩), .pointer (some ⟨w.heap.size + 1, 0, none⟩)]) (by simp) (by simp [go_sem]) ?_
  refine (put1_idle _ 80 _ _ _ Z hcZ (by decide)).mono ?_
  rintro e u' w'' ⟨rfl, rfl, rfl⟩
  simp [Leaves, settle, results, Tryd.results32, go_sem, hcZ]
  exact hBZ
/-- What a region that puts leaves of the cells that it reads. -/
def SC (X : World) (n p : Nat) (S O K t k o a q : Int) : Prop := X.cell? ⟨n, 0, none⟩ = some (.pointer (some ⟨p, 0, none⟩)) ∧ X.cell? ⟨p, 3, none⟩ = some (.int .i64 S) ∧ X.cell? ⟨p, 4, none⟩ = some (.int .u64 O) ∧ X.cell? ⟨p, 5, none⟩ = some (.int .i64 K) ∧ X.cell? ⟨n + 1, 0, none⟩ = some (.int .i64 t) ∧ X.cell? ⟨n + 1, 1, none⟩ = some (.int .i64 k) ∧ X.cell? ⟨n + 1, 2, none⟩ = some (.int .u64 o) ∧ X.cell? ⟨n + 1, 3, none⟩ = some (.int .u64 a) ∧ X.cell? ⟨n + 1, 4, none⟩ = some (.int .i64 q)
theorem Px.sc {X : World} {n p nb : Nat} {lim held S O K least t k o a q : Int} {v : Value} (h : Px X n p nb t k o a q (wcs lim v held S O K least)) : SC X n p S O K t k o a q := by
  obtain ⟨r0, r1, r2, r3, r4⟩ := r5_cells h.rcd
  obtain ⟨y0, y1, y2, y3, y4, y5, y6⟩ := w7_cells h.wr
  exact ⟨h.boxc, y3, y4, y5, r0, r1, r2, r3, r4⟩
theorem SC.but {X Y : World} {n p F : Nat} {S O K t k o a q : Int} (h : SC X n p S O K t k o a q) (hb : But (fun g => g = F) X Y) (h1 : n ≠ F) (h2 : p ≠ F) (h3 : n + 1 ≠ F) : SC Y n p S O K t k o a q := by
  have key : ∀ (b i : Nat) (v : Value), b ≠ F → X.cell? ⟨b, i, none⟩ = some v → Y.cell? ⟨b, i, none⟩ = some v := fun b i v hne e => by
    rw [World.cell?_of_block (w := X) (hb.block b (World.block_lt_of_cell? X _ e) hne)]; exact e
  obtain ⟨a0, a1, a2, a3, a4, a5, a6, a7, a8⟩ := h
  exact ⟨key _ _ _ h1 a0, key _ _ _ h2 a1, key _ _ _ h2 a2, key _ _ _ h2 a3, key _ _ _ h3 a4, key _ _ _ h3 a5, key _ _ _ h3 a6, key _ _ _ h3 a7, key _ _ _ h3 a8⟩
end Go.Proofs.YtdppbaipmmcjbaaDoor
