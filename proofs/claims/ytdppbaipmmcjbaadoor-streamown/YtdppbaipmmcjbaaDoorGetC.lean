/-
  Get.
-/
import Derived.Test.YtdppbaipmmcjbaaDoorGetN
namespace Go.Proofs.YtdppbaipmmcjbaaDoor
open Go.RowKit
def gV (R : Ans) : Value := .tuple #[.agg #[.int .i64 R.1.stamp, .int .i64 R.1.kind, .int .u64 R.1.obj, .int .u64 R.1.arg, .int .i64 R.1.stack], .int .i64 R.2.1, .agg #[.int .i64 (stOf R).stamp, .int .u64 (stOf R).obj, .int .i64 (stOf R).stack], .int .i64 R.2.2]
def gZ (e : Int) : Value := .tuple #[.agg #[.int .i64 0, .int .i64 0, .int .u64 0, .int .u64 0, .int .i64 0], .int .i64 0, .agg #[.int .i64 0, .int .u64 0, .int .i64 0], .int .i64 e]
theorem gZ_bad {e : Int} (h : e ≠ 0) : gV (bad e) = gZ e := by unfold gV gZ stOf bad; rw [if_neg h]; rfl
def gOk (t k o a q p : Int) : Value := .tuple #[.agg #[.int .i64 t, .int .i64 k, .int .u64 o, .int .u64 a, .int .i64 q], .int .i64 p, .agg #[.int .i64 (t + 1), .int .u64 o, .int .i64 q], .int .i64 0]
theorem gV_ok (t k o a q p : Int) : gV (⟨t, k, o, a, q⟩, p, 0) = gOk t k o a q p := by unfold gV gOk stOf; rw [if_pos rfl]; rfl
theorem results_ctct {P : Program} {fn : Func} {p t u v : Tmp} {ty tz : TypeId} (h : fn.results = #[.cell p ty, .tmp t, .cell u tz, .tmp v]) (tmps : Array Value) (w : World) (g g2 : Nat) (ty' tz' : TypeId) (cs ds : Array Value) (fr fs : Nat × Nat) (d d2 : TypeDesc)
    (hp : tmps.getD p undef = .pointer (some ⟨g, 0, none⟩)) (hg : w.heap[g]? = some (.cells cs ty' fr))
    (hu : P.underlying ty = some d) (hd : (match d with | .struct _ | .array _ _ => true | _ => false) = true) (hi : (P.info? ty).map (·.size) = some cs.size)
    (hp2 : tmps.getD u undef = .pointer (some ⟨g2, 0, none⟩)) (hg2 : w.heap[g2]? = some (.cells ds tz' fs))
    (hu2 : P.underlying tz = some d2) (hd2 : (match d2 with | .struct _ | .array _ _ => true | _ => false) = true) (hi2 : (P.info? tz).map (·.size) = some ds.size) :
    (results fn tmps).run P w = .ok (.tuple #[.agg cs, tmps.getD t undef, .agg ds, tmps.getD v undef]) w := by
  have hp' : tmps[p]?.getD undef = .pointer (some ⟨g, 0, none⟩) := by simpa using hp
  have hp2' : tmps[u]?.getD undef = .pointer (some ⟨g2, 0, none⟩) := by simpa using hp2
  simp [results, h, hp', hp2', asAddr, run_loadVar_row w g ty' ty cs fr d hg hu hd hi, run_loadVar_row w g2 tz' tz ds fs d2 hg2 hu2 hd2 hi2]
theorem set_far {w : World} {g k i : Nat} (v : Value) (h : k ≠ g) : (w.setCell ⟨g, i, none⟩ v).heap[k]? = w.heap[k]? := Below.heap_setCell _ _ _ _ h
section
variable {w : World} {g h : Nat} {T T' : TypeId} {a b c d e x y z a' b' c' d' e' x' y' z' : Value}
theorem out8_g (hg : w.heap[g]? = some (.cells #[a', b', c', d', e'] T (0, 0))) (hne : g ≠ h) :
    ((((((((w.setCell ⟨g, 0, none⟩ a).setCell ⟨g, 1, none⟩ b).setCell ⟨g, 2, none⟩ c).setCell ⟨g, 3, none⟩ d).setCell ⟨g, 4, none⟩ e).setCell ⟨h, 0, none⟩ x).setCell ⟨h, 1, none⟩ y).setCell ⟨h, 2, none⟩ z).heap[g]? = some (.cells #[a, b, c, d, e] T (0, 0)) := by
  rw [set_far _ hne, set_far _ hne, set_far _ hne]
  exact set1_heap e (set1_heap d (set1_heap c (set1_heap b (set1_heap a hg))))
theorem set5_far (hne : h ≠ g) : (((((w.setCell ⟨g, 0, none⟩ a).setCell ⟨g, 1, none⟩ b).setCell ⟨g, 2, none⟩ c).setCell ⟨g, 3, none⟩ d).setCell ⟨g, 4, none⟩ e).heap[h]? = w.heap[h]? := by
  rw [set_far _ hne, set_far _ hne, set_far _ hne, set_far _ hne, set_far _ hne]
theorem out8_h (hh : w.heap[h]? = some (.cells #[x', y', z'] T' (0, 0))) (hne : h ≠ g) :
    ((((((((w.setCell ⟨g, 0, none⟩ a).setCell ⟨g, 1, none⟩ b).setCell ⟨g, 2, none⟩ c).setCell ⟨g, 3, none⟩ d).setCell ⟨g, 4, none⟩ e).setCell ⟨h, 0, none⟩ x).setCell ⟨h, 1, none⟩ y).setCell ⟨h, 2, none⟩ z).heap[h]? = some (.cells #[x, y, z] T' (0, 0)) :=
  set1_heap z (set1_heap y (set1_heap x ((set5_far hne).trans hh)))
theorem cell_eq {w w' : World} {b : Nat} (e : w'.heap[b]? = w.heap[b]?) (i : Nat) : w'.cell? ⟨b, i, none⟩ = w.cell? ⟨b, i, none⟩ := World.cell?_of_block (w := w) e
theorem keep5 {k : Nat} {u0 u1 u2 u3 u4 : Value} (hne : k ≠ g) (hk : w.cell? ⟨k, 0, none⟩ = some u0 ∧ w.cell? ⟨k, 1, none⟩ = some u1 ∧ w.cell? ⟨k, 2, none⟩ = some u2 ∧ w.cell? ⟨k, 3, none⟩ = some u3 ∧ w.cell? ⟨k, 4, none⟩ = some u4) :
    (((((w.setCell ⟨g, 0, none⟩ a).setCell ⟨g, 1, none⟩ b).setCell ⟨g, 2, none⟩ c).setCell ⟨g, 3, none⟩ d).setCell ⟨g, 4, none⟩ e).cell? ⟨k, 0, none⟩ = some u0 ∧ (((((w.setCell ⟨g, 0, none⟩ a).setCell ⟨g, 1, none⟩ b).setCell ⟨g, 2, none⟩ c).setCell ⟨g, 3, none⟩ d).setCell ⟨g, 4, none⟩ e).cell? ⟨k, 1, none⟩ = some u1 ∧ (((((w.setCell ⟨g, 0, none⟩ a).setCell ⟨g, 1, none⟩ b).setCell ⟨g, 2, none⟩ c).setCell ⟨g, 3, none⟩ d).setCell ⟨g, 4, none⟩ e).cell? ⟨k, 2, none⟩ = some u2 ∧ (((((w.setCell ⟨g, 0, none⟩ a).setCell ⟨g, 1, none⟩ b).setCell ⟨g, 2, none⟩ c).setCell ⟨g, 3, none⟩ d).setCell ⟨g, 4, none⟩ e).cell? ⟨k, 3, none⟩ = some u3 ∧ (((((w.setCell ⟨g, 0, none⟩ a).setCell ⟨g, 1, none⟩ b).setCell ⟨g, 2, none⟩ c).setCell ⟨g, 3, none⟩ d).setCell ⟨g, 4, none⟩ e).cell? ⟨k, 4, none⟩ = some u4 := by
  have q := set5_far (w := w) (a := a) (b := b) (c := c) (d := d) (e := e) hne
  exact ⟨(cell_eq q 0).trans hk.1, (cell_eq q 1).trans hk.2.1, (cell_eq q 2).trans hk.2.2.1, (cell_eq q 3).trans hk.2.2.2.1, (cell_eq q 4).trans hk.2.2.2.2⟩
theorem keep3 {k : Nat} {u0 u1 u2 u3 u4 : Value} (hne : k ≠ h) (hk : w.cell? ⟨k, 0, none⟩ = some u0 ∧ w.cell? ⟨k, 1, none⟩ = some u1 ∧ w.cell? ⟨k, 2, none⟩ = some u2 ∧ w.cell? ⟨k, 3, none⟩ = some u3 ∧ w.cell? ⟨k, 4, none⟩ = some u4) :
    (((w.setCell ⟨h, 0, none⟩ x).setCell ⟨h, 1, none⟩ y).setCell ⟨h, 2, none⟩ z).cell? ⟨k, 0, none⟩ = some u0 ∧ (((w.setCell ⟨h, 0, none⟩ x).setCell ⟨h, 1, none⟩ y).setCell ⟨h, 2, none⟩ z).cell? ⟨k, 1, none⟩ = some u1 ∧ (((w.setCell ⟨h, 0, none⟩ x).setCell ⟨h, 1, none⟩ y).setCell ⟨h, 2, none⟩ z).cell? ⟨k, 2, none⟩ = some u2 ∧ (((w.setCell ⟨h, 0, none⟩ x).setCell ⟨h, 1, none⟩ y).setCell ⟨h, 2, none⟩ z).cell? ⟨k, 3, none⟩ = some u3 ∧ (((w.setCell ⟨h, 0, none⟩ x).setCell ⟨h, 1, none⟩ y).setCell ⟨h, 2, none⟩ z).cell? ⟨k, 4, none⟩ = some u4 := by
  have q : (((w.setCell ⟨h, 0, none⟩ x).setCell ⟨h, 1, none⟩ y).setCell ⟨h, 2, none⟩ z).heap[k]? = w.heap[k]? := by rw [set_far _ hne, set_far _ hne, set_far _ hne]
  exact ⟨(cell_eq q 0).trans hk.1, (cell_eq q 1).trans hk.2.1, (cell_eq q 2).trans hk.2.2.1, (cell_eq q 3).trans hk.2.2.2.1, (cell_eq q 4).trans hk.2.2.2.2⟩
theorem out8_below {B : Nat} {W : World} (hB : Below B W w) (hg : B ≤ g) (hh : B ≤ h) :
    Below B W ((((((((w.setCell ⟨g, 0, none⟩ a).setCell ⟨g, 1, none⟩ b).setCell ⟨g, 2, none⟩ c).setCell ⟨g, 3, none⟩ d).setCell ⟨g, 4, none⟩ e).setCell ⟨h, 0, none⟩ x).setCell ⟨h, 1, none⟩ y).setCell ⟨h, 2, none⟩ z) :=
  (((((((hB.setCell (p := ⟨g, 0, none⟩) hg a).setCell (p := ⟨g, 1, none⟩) hg b).setCell (p := ⟨g, 2, none⟩) hg c).setCell (p := ⟨g, 3, none⟩) hg d).setCell (p := ⟨g, 4, none⟩) hg e).setCell (p := ⟨h, 0, none⟩) hh x).setCell (p := ⟨h, 1, none⟩) hh y).setCell (p := ⟨h, 2, none⟩) hh z
end
theorem read_any (S O K : Int) (ad : Option Addr) (n c t : Nat) (zs : List Int) (w : World) (hK : Kn w) (hw : 0 < w.heap.size) (hr : Row w ad n zs) (hn : (n : Int) ≤ 9223372036854700000) (ht : t ≤ n) (hm : mayS S K = true) :
    Calls Tryd.prog 55 #[.agg #[.int .i64 S, .int .u64 O, .int .i64 K], .slice ad n c, .int .i64 t] w fun e w' => e = .returned (ansV (readG ⟨S, O, K⟩ zs t)) ∧ Below w.heap.size w w' := by
  have h := of_decide_eq_true hm
  by_cases hc : t = n
  · subst hc; exact read_end S O K ad t c zs w hr.len
  · rcases hr.cells with h0 | ⟨b, off, rfl, _⟩
    · omega
    · exact read_at S O K b off n c t zs w hK hw hr hn (by omega) h.1 h.2.1 h.2.2.1 h.2.2.2
theorem getG_state {s : St} {zs : List Int} {t : Int} (h : mayS s.stamp s.stack = false) : getG s zs t = bad 71 := by unfold getG; rw [if_pos h]
theorem getG_place {s : St} {zs : List Int} {t : Int} (h : mayS s.stamp s.stack = true) (ht : t < 0 ∨ (zs.length : Int) < t) : getG s zs t = bad 2 := by unfold getG; rw [if_neg (by simp [h]), if_pos ht]
theorem getG_read {s : St} {zs : List Int} {t : Nat} (h : mayS s.stamp s.stack = true) (ht : t ≤ zs.length) : getG s zs t = readG s zs t := by unfold getG; rw [if_neg (by simp [h]), if_neg (by omega), Int.toNat_natCast]
set_option maxHeartbeats 1600000 in
set_option maxRecDepth 8000 in
theorem get_any (S O K t : Int) (ad : Option Addr) (n c : Nat) (zs : List Int) (w : World) (hK : Kn w) (hw : 0 < w.heap.size) (hr : Row w ad n zs) (hn : (n : Int) ≤ 9223372036854700000) (hO0 : 0 ≤ O) (hO1 : O ≤ 18446744073709551615) :
    Calls Tryd.prog 46 #[.agg #[.int .i64 S, .int .u64 O, .int .i64 K], .slice ad n c, .int .i64 t] w fun e w' => e = .returned (gV (getG ⟨S, O, K⟩ zs t)) ∧ Below w.heap.size w w' := by
  obtain ⟨W, hW⟩ : ∃ W, W = ((w.alloc (.cells #[.int .i64 S, .int .u64 O, .int .i64 K] 69)).alloc (.cells #[.int .i64 0, .int .i64 0, .int .u64 0, .int .u64 0, .int .i64 0] 48)).alloc (.cells #[.int .i64 0, .int .u64 0, .int .i64 0] 69) := ⟨_, rfl⟩
  have hb : Below w.heap.size w W := by rw [hW]; exact (below_alloc2 _ _ _).alloc (by simp; omega) _
  have hsz : W.heap.size = w.heap.size + 3 := by rw [hW]; simp
  have s0 : W.cell? ⟨w.heap.size, 0, none⟩ = some (.int .i64 S) := by rw [hW]; go_simp
  have s1 : W.cell? ⟨w.heap.size, 1, none⟩ = some (.int .u64 O) := by rw [hW]; go_simp
  have s2 : W.cell? ⟨w.heap.size, 2, none⟩ = some (.int .i64 K) := by rw [hW]; go_simp
  have L6 : W.heap[w.heap.size + 1]? = some (.cells #[.int .i64 0, .int .i64 0, .int .u64 0, .int .u64 0, .int .i64 0] 48 (0, 0)) := by
    rw [hW, Below.heap_alloc _ _ _ (by simp), show w.heap.size + 1 = (w.alloc (.cells #[.int .i64 S, .int .u64 O, .int .i64 K] 69)).heap.size from by simp]
    exact heap_new _ _
  have L8 : W.heap[w.heap.size + 2]? = some (.cells #[.int .i64 0, .int .u64 0, .int .i64 0] 69 (0, 0)) := by
    rw [hW, show w.heap.size + 2 = ((w.alloc (.cells #[.int .i64 S, .int .u64 O, .int .i64 K] 69)).alloc (.cells #[.int .i64 0, .int .i64 0, .int .u64 0, .int .u64 0, .int .i64 0] 48)).heap.size from by simp]
    exact heap_new _ _
  have HS := st_any S O K W
  have hl := hr.len
  cases hm : mayS S K
  · have HR : Hid (getG ⟨S, O, K⟩ zs t = bad 71) := hide (getG_state hm)
    rw [HR.out, gZ_bad (by decide)]
    rw [hm] at HS
    clear hm
    go_enter Tryd.func46, Tryd.ntmps46
    go_wp2_with fail
    rw [← hW]
    clear hW
    refine HS.mono ?_
    rintro e w1 ⟨rfl, hb1⟩
    have A6 : w1.heap[w.heap.size + 1]? = some (.cells #[.int .i64 0, .int .i64 0, .int .u64 0, .int .u64 0, .int .i64 0] 48 (0, 0)) := (hb1.block (w.heap.size + 1) (by omega)).trans L6
    have A8 : w1.heap[w.heap.size + 1 + 1]? = some (.cells #[.int .i64 0, .int .u64 0, .int .i64 0] 69 (0, 0)) := (hb1.block (w.heap.size + 2) (by omega)).trans L8
    obtain ⟨a0, a1, a2, a3, a4⟩ := r5_cells A6
    obtain ⟨b0, b1, b2⟩ := z3_cells A8
    have f0 := frz A6 0
    have f1 := frz A6 1
    have f2 := frz A6 2
    have f3 := frz A6 3
    have f4 := frz A6 4
    have g0 := frz A8 0
    have g1 := frz A8 1
    have g2 := frz A8 2
    go_wp2_with fail
    (try simp only [Exit.inBlock, Exit.then])
    refine bodyPost_ret (v := gZ 71) (by exact results_ctct Tryd.results46 _ _ (w.heap.size + 1) (w.heap.size + 1 + 1) 48 69 #[.int .i64 0, .int .i64 0, .int .u64 0, .int .u64 0, .int .i64 0] #[.int .i64 0, .int .u64 0, .int .i64 0] (0, 0) (0, 0) _ _ rfl (out8_g A6 (by omega)) Tryd.underlying48 rfl Tryd.sizeR rfl (out8_h A8 (by omega)) Tryd.underlying69 rfl Tryd.sizeS) rfl ?_
    exact ⟨rfl, out8_below (Below.on hb hb1) (by omega) (by omega)⟩
  · rw [hm] at HS
    by_cases ht : t < 0 ∨ (n : Int) < t
    · have HR : Hid (getG ⟨S, O, K⟩ zs t = bad 2) := hide (getG_place hm (by rw [hl]; exact ht))
      rw [HR.out, gZ_bad (by decide)]
      clear hm
      by_cases ht0 : t < 0
      · clear ht
        go_enter Tryd.func46, Tryd.ntmps46
        go_wp2_with fail
        rw [← hW]
        clear hW
        refine HS.mono ?_
        rintro e w1 ⟨rfl, hb1⟩
        have A6 : w1.heap[w.heap.size + 1]? = some (.cells #[.int .i64 0, .int .i64 0, .int .u64 0, .int .u64 0, .int .i64 0] 48 (0, 0)) := (hb1.block (w.heap.size + 1) (by omega)).trans L6
        have A8 : w1.heap[w.heap.size + 1 + 1]? = some (.cells #[.int .i64 0, .int .u64 0, .int .i64 0] 69 (0, 0)) := (hb1.block (w.heap.size + 2) (by omega)).trans L8
        obtain ⟨a0, a1, a2, a3, a4⟩ := r5_cells A6
        obtain ⟨b0, b1, b2⟩ := z3_cells A8
        have f0 := frz A6 0
        have f1 := frz A6 1
        have f2 := frz A6 2
        have f3 := frz A6 3
        have f4 := frz A6 4
        have g0 := frz A8 0
        have g1 := frz A8 1
        have g2 := frz A8 2
        go_wp2_with fail
        (try simp only [Exit.inBlock, Exit.then])
        refine bodyPost_ret (v := gZ 2) (by exact results_ctct Tryd.results46 _ _ (w.heap.size + 1) (w.heap.size + 1 + 1) 48 69 #[.int .i64 0, .int .i64 0, .int .u64 0, .int .u64 0, .int .i64 0] #[.int .i64 0, .int .u64 0, .int .i64 0] (0, 0) (0, 0) _ _ rfl (out8_g A6 (by omega)) Tryd.underlying48 rfl Tryd.sizeR rfl (out8_h A8 (by omega)) Tryd.underlying69 rfl Tryd.sizeS) rfl ?_
        exact ⟨rfl, out8_below (Below.on hb hb1) (by omega) (by omega)⟩
      · have ht1 : (n : Int) < t := by omega
        clear ht
        go_enter Tryd.func46, Tryd.ntmps46
        go_wp2_with fail
        rw [← hW]
        clear hW
        refine HS.mono ?_
        rintro e w1 ⟨rfl, hb1⟩
        have A6 : w1.heap[w.heap.size + 1]? = some (.cells #[.int .i64 0, .int .i64 0, .int .u64 0, .int .u64 0, .int .i64 0] 48 (0, 0)) := (hb1.block (w.heap.size + 1) (by omega)).trans L6
        have A8 : w1.heap[w.heap.size + 1 + 1]? = some (.cells #[.int .i64 0, .int .u64 0, .int .i64 0] 69 (0, 0)) := (hb1.block (w.heap.size + 2) (by omega)).trans L8
        obtain ⟨a0, a1, a2, a3, a4⟩ := r5_cells A6
        obtain ⟨b0, b1, b2⟩ := z3_cells A8
        have f0 := frz A6 0
        have f1 := frz A6 1
        have f2 := frz A6 2
        have f3 := frz A6 3
        have f4 := frz A6 4
        have g0 := frz A8 0
        have g1 := frz A8 1
        have g2 := frz A8 2
        go_wp2_with fail
        (try simp only [Exit.inBlock, Exit.then])
        refine bodyPost_ret (v := gZ 2) (by exact results_ctct Tryd.results46 _ _ (w.heap.size + 1) (w.heap.size + 1 + 1) 48 69 #[.int .i64 0, .int .i64 0, .int .u64 0, .int .u64 0, .int .i64 0] #[.int .i64 0, .int .u64 0, .int .i64 0] (0, 0) (0, 0) _ _ rfl (out8_g A6 (by omega)) Tryd.underlying48 rfl Tryd.sizeR rfl (out8_h A8 (by omega)) Tryd.underlying69 rfl Tryd.sizeS) rfl ?_
        exact ⟨rfl, out8_below (Below.on hb hb1) (by omega) (by omega)⟩
    · obtain ⟨tn, rfl⟩ : ∃ tn : Nat, t = tn := ⟨t.toNat, by omega⟩
      have htn : tn ≤ n := by omega
      rw [getG_read (s := ⟨S, O, K⟩) hm (by rw [hl]; exact htn)]
      have HRd := fun w1 (h1 : Below W.heap.size W w1) => read_any S O K ad n c tn zs w1 ((hK.below hb hw).below h1 (by omega)) (by have := h1.size; omega) ((hr.below hb).below h1) hn htn hm
      have HZ := readG_zero ⟨S, O, K⟩ zs tn
      have HI := fun r p => read_inv (s := ⟨S, O, K⟩) (zs := zs) (t := tn) (r := r) (p := p) hm ⟨hO0, hO1⟩ hr.u8 (by omega)
      generalize readG ⟨S, O, K⟩ zs tn = R at HRd HZ HI ⊢
      obtain ⟨⟨rt, rk, ro, ra, rq⟩, p, f⟩ := R
      dsimp only at HZ
      simp only [ansV] at HRd
      have ht0 : ¬ (tn : Int) < 0 := by omega
      have ht1 : ¬ (n : Int) < (tn : Int) := by omega
      clear hm ht
      by_cases hf : f = 0
      · subst hf
        obtain ⟨hpe, _, _⟩ := HI ⟨rt, rk, ro, ra, rq⟩ p rfl
        have hpo := putE_ok hpe
        dsimp only at hpo
        have hrt0 : 0 ≤ rt := by omega
        have hrt1 : rt ≤ 1048576 := by omega
        rw [gV_ok]
        clear HI HZ hpe hpo
        go_enter Tryd.func46, Tryd.ntmps46
        go_wp2_with fail
        rw [← hW]
        clear hW
        refine HS.mono ?_
        rintro e w1 ⟨rfl, hb1⟩
        have y0 := (hb1.cell (p := ⟨w.heap.size, 0, none⟩) (by simp; omega)).trans s0
        have y1 := (hb1.cell (p := ⟨w.heap.size, 1, none⟩) (by simp; omega)).trans s1
        have y2 := (hb1.cell (p := ⟨w.heap.size, 2, none⟩) (by simp; omega)).trans s2
        go_wp2_with fail
        refine (HRd w1 hb1).mono ?_
        rintro e w2 ⟨rfl, hb2⟩
        have B2 : Below W.heap.size W w2 := hb1.trans (hb2.mono hb1.size)
        clear y0 y1 y2 HRd
        obtain ⟨w3, hw3⟩ : ∃ w3, w3 = w2.alloc (.cells #[.int .i64 rt, .int .i64 rk, .int .u64 ro, .int .u64 ra, .int .i64 rq] 48) := ⟨_, rfl⟩
        have B3 : Below W.heap.size W w3 := by rw [hw3]; exact B2.alloc B2.size _
        have LR : w3.heap[w2.heap.size]? = some (.cells #[.int .i64 rt, .int .i64 rk, .int .u64 ro, .int .u64 ra, .int .i64 rq] 48 (0, 0)) := by rw [hw3]; exact heap_new _ _
        have Hw3 : Hid _ := hide hw3
        clear hw3
        obtain ⟨c0, c1, c2, c3, c4⟩ := r5_cells LR
        have hlr := lt_of_heap LR
        have HS3 : Hid _ := hide (fun W' (hB : Below w3.heap.size w3 W') => (And.intro ((hB.cell (p := ⟨w2.heap.size, 0, none⟩) hlr).trans c0) (And.intro ((hB.cell (p := ⟨w2.heap.size, 1, none⟩) hlr).trans c1) (And.intro ((hB.cell (p := ⟨w2.heap.size, 2, none⟩) hlr).trans c2) (And.intro ((hB.cell (p := ⟨w2.heap.size, 3, none⟩) hlr).trans c3) ((hB.cell (p := ⟨w2.heap.size, 4, none⟩) hlr).trans c4))))))
        have K3 := HS3.out w3.drew (Below.refl _ _).drew
        have HBh := bh_any rt rk ro ra rq w3.drew hrt0 hrt1
        clear hb2 LR
        go_wp2_with fail
        rw [← Hw3.out]
        have hne1 : ¬ w2.heap.size = w.heap.size + 1 := by have := B2.size; omega
        have hne2 : ¬ w2.heap.size = w.heap.size + 1 + 1 := by have := B2.size; omega
        go_region_held3 (fun W' => W'.cell? ⟨w2.heap.size, 0, none⟩ = some (.int .i64 rt) ∧ W'.cell? ⟨w2.heap.size, 1, none⟩ = some (.int .i64 rk) ∧ W'.cell? ⟨w2.heap.size, 2, none⟩ = some (.int .u64 ro) ∧ W'.cell? ⟨w2.heap.size, 3, none⟩ = some (.int .u64 ra) ∧ W'.cell? ⟨w2.heap.size, 4, none⟩ = some (.int .i64 rq)) (first | with_reducible exact K4 | with_reducible exact keep5 hne1 K4 | with_reducible exact keep3 hne2 (keep5 hne1 K4) | with_reducible exact K3 | fail) (first
          | (go_at_call 56; refine HBh.mono ?_; rintro e w4 ⟨rfl, hb4'⟩; have hb4 : Below w3.heap.size w3 w4 := (Below.refl _ _).drew.trans hb4'; have B4 : Below W.heap.size W w4 := B3.trans (hb4.mono B3.size); have A6 : w4.heap[w.heap.size + 1]? = some (.cells #[.int .i64 0, .int .i64 0, .int .u64 0, .int .u64 0, .int .i64 0] 48 (0, 0)) := (B4.block (w.heap.size + 1) (by omega)).trans L6; have A8 : w4.heap[w.heap.size + 1 + 1]? = some (.cells #[.int .i64 0, .int .u64 0, .int .i64 0] 69 (0, 0)) := (B4.block (w.heap.size + 2) (by omega)).trans L8; obtain ⟨a0, a1, a2, a3, a4⟩ := r5_cells A6; obtain ⟨b0, b1, b2⟩ := z3_cells A8; have f0 := frz A6 0; have f1 := frz A6 1; have f2 := frz A6 2; have f3 := frz A6 3; have f4 := frz A6 4; have g0 := frz A8 0; have g1 := frz A8 1; have g2 := frz A8 2; have K4 := HS3.out w4 hb4))
        go_wp2_with fail
        (try simp only [Exit.inBlock, Exit.then])
        refine bodyPost_ret (v := gOk rt rk ro ra rq p) (by exact results_ctct Tryd.results46 _ _ (w.heap.size + 1) (w.heap.size + 1 + 1) 48 69 #[.int .i64 rt, .int .i64 rk, .int .u64 ro, .int .u64 ra, .int .i64 rq] #[.int .i64 (rt + 1), .int .u64 ro, .int .i64 rq] (0, 0) (0, 0) _ _ rfl (out8_g A6 (by omega)) Tryd.underlying48 rfl Tryd.sizeR rfl (out8_h A8 (by omega)) Tryd.underlying69 rfl Tryd.sizeS) rfl ?_
        exact ⟨rfl, out8_below (hb.trans (B4.mono hb.size)) (by omega) (by omega)⟩
      · obtain ⟨hz1, hz2⟩ := HZ hf
        cases hz1
        subst hz2
        rw [show gV (⟨0, 0, 0, 0, 0⟩, 0, f) = gZ f from gZ_bad hf]
        have hfb : (f != 0) = true := by simp [hf]
        clear HI HZ hf
        go_enter Tryd.func46, Tryd.ntmps46
        go_wp2_with fail
        rw [← hW]
        clear hW
        refine HS.mono ?_
        rintro e w1 ⟨rfl, hb1⟩
        have y0 := (hb1.cell (p := ⟨w.heap.size, 0, none⟩) (by simp; omega)).trans s0
        have y1 := (hb1.cell (p := ⟨w.heap.size, 1, none⟩) (by simp; omega)).trans s1
        have y2 := (hb1.cell (p := ⟨w.heap.size, 2, none⟩) (by simp; omega)).trans s2
        go_wp2_with fail
        refine (HRd w1 hb1).mono ?_
        rintro e w2 ⟨rfl, hb2⟩
        have B2 : Below W.heap.size W w2 := hb1.trans (hb2.mono hb1.size)
        clear y0 y1 y2 HRd
        have A6 : (w2.alloc (.cells #[.int .i64 0, .int .i64 0, .int .u64 0, .int .u64 0, .int .i64 0] 48)).heap[w.heap.size + 1]? = some (.cells #[.int .i64 0, .int .i64 0, .int .u64 0, .int .u64 0, .int .i64 0] 48 (0, 0)) := heap_old ((B2.block (w.heap.size + 1) (by omega)).trans L6)
        have A8 : (w2.alloc (.cells #[.int .i64 0, .int .i64 0, .int .u64 0, .int .u64 0, .int .i64 0] 48)).heap[w.heap.size + 1 + 1]? = some (.cells #[.int .i64 0, .int .u64 0, .int .i64 0] 69 (0, 0)) := heap_old ((B2.block (w.heap.size + 2) (by omega)).trans L8)
        obtain ⟨a0, a1, a2, a3, a4⟩ := r5_cells A6
        obtain ⟨b0, b1, b2⟩ := z3_cells A8
        have f0 := frz A6 0
        have f1 := frz A6 1
        have f2 := frz A6 2
        have f3 := frz A6 3
        have f4 := frz A6 4
        have g0 := frz A8 0
        have g1 := frz A8 1
        have g2 := frz A8 2
        go_wp2_with fail
        (try simp only [Exit.inBlock, Exit.then])
        refine bodyPost_ret (v := gZ f) (by exact results_ctct Tryd.results46 _ _ (w.heap.size + 1) (w.heap.size + 1 + 1) 48 69 #[.int .i64 0, .int .i64 0, .int .u64 0, .int .u64 0, .int .i64 0] #[.int .i64 0, .int .u64 0, .int .i64 0] (0, 0) (0, 0) _ _ rfl (out8_g A6 (by omega)) Tryd.underlying48 rfl Tryd.sizeR rfl (out8_h A8 (by omega)) Tryd.underlying69 rfl Tryd.sizeS) rfl ?_
        exact ⟨rfl, out8_below ((hb.trans (B2.mono hb.size)).alloc (by have := B2.size; omega) _) (by omega) (by omega)⟩
end Go.Proofs.YtdppbaipmmcjbaaDoor
