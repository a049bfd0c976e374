/-
  DecodeHead, the program's.
-/
import Derived.Test.YtgonbakoidkafaaHeadB
import Derived.Test.YtgonbakoidkafaaFeetD
import Derived.Laws.CopyOwn
namespace Go.Proofs.Ytgonbakoidkafaa
open Go.RowKit
/-- The five cells of a head. -/
def hcs (G : Nat → Int) : Array Value := #[.int .i64 (G 0), .int .i64 (G 1), .int .i64 (G 2), .int .i64 (G 3), .int .i64 (G 4)]
def zer : Nat → Int := fun _ => 0
def upd (G : Nat → Int) (k : Nat) (x : Int) : Nat → Int := fun i => if i = k then x else G i
def errV (e : Int) : Value := .tuple #[.agg (hcs zer), .int .i64 e]
/-- What is read behind k numbers, at the place p, f more to come. -/
def dhGo (zs : List Int) : Nat → Nat → Int → (Nat → Int) → Value
  | 0, _, p, G => if p < zs.length then errV 33 else .tuple #[.agg (hcs G), .int .i64 0]
  | f + 1, k, p, G =>
    if (rdAt zs p).2.2 ≠ 0 then errV (rdAt zs p).2.2
    else if (rdAt zs p).1 < lst k ∨ tp k < (rdAt zs p).1 then errV 32
    else dhGo zs f (k + 1) (rdAt zs p).2.1 (upd G k (rdAt zs p).1)
/-- What DecodeHead answers. -/
def headV (zs : List Int) : Value :=
  if zs.length = 0 then errV 10 else if zs.getD 0 0 ≠ 1 then errV 32 else dhGo zs 5 0 1 zer
theorem dhGo_err {zs : List Int} {f k : Nat} {p : Int} {G : Nat → Int} {x q r : Int} (h : rdAt zs p = (x, q, r)) (hr : r ≠ 0) : dhGo zs (f + 1) k p G = errV r := by
  rw [dhGo, h, if_pos hr]
theorem dhGo_bad {zs : List Int} {f k : Nat} {p : Int} {G : Nat → Int} {x q : Int} (h : rdAt zs p = (x, q, 0)) (hr : x < lst k ∨ tp k < x) : dhGo zs (f + 1) k p G = errV 32 := by
  rw [dhGo, h, if_neg (by simp), if_pos hr]
theorem dhGo_ok {zs : List Int} {f k : Nat} {p : Int} {G : Nat → Int} {x q : Int} (h : rdAt zs p = (x, q, 0)) (hr : ¬ (x < lst k ∨ tp k < x)) : dhGo zs (f + 1) k p G = dhGo zs f (k + 1) q (upd G k x) := by
  rw [dhGo, h, if_neg (by simp), if_neg hr]
theorem hcs_upd (G : Nat → Int) (k : Nat) (x : Int) (hk : k < 5) : (hcs G).setIfInBounds k (.int .i64 x) = hcs (upd G k x) := by
  match k, hk with
  | 0, _ => rfl
  | 1, _ => rfl
  | 2, _ => rfl
  | 3, _ => rfl
  | 4, _ => rfl
theorem hcs_get (G : Nat → Int) (k : Nat) (hk : k < 5) : (hcs G)[k]? = some (.int .i64 (G k)) := by
  match k, hk with
  | 0, _ => rfl
  | 1, _ => rfl
  | 2, _ => rfl
  | 3, _ => rfl
  | 4, _ => rfl
theorem fld_of (G : Nat → Int) (i : Nat) (hi : i < 5) : fld (G 0) (G 1) (G 2) (G 3) (G 4) i = G i := by
  match i, hi with
  | 0, _ => rfl
  | 1, _ => rfl
  | 2, _ => rfl
  | 3, _ => rfl
  | 4, _ => rfl
/-- May it be, behind the k-th number: that one tells. -/
theorem okG {G : Nat → Int} {k : Nat} (hk : k < 5) (h1 : ∀ i, i < k → lst i ≤ G i ∧ G i ≤ tp i) (h2 : ∀ i, k ≤ i → G i = 0) (x : Int) :
    okH (upd G k x 0) (upd G k x 1) (upd G k x 2) (upd G k x 3) (upd G k x 4) = decide (lst k ≤ x ∧ x ≤ tp k) := by
  by_cases h : lst k ≤ x ∧ x ≤ tp k
  · rw [decide_eq_true h]
    refine okH_all (fun i hi => ?_)
    rw [fld_of _ i hi]
    unfold upd
    by_cases e : i = k
    · rw [if_pos e, e]; exact h
    · rw [if_neg e]
      by_cases hl : i < k
      · exact h1 i hl
      · rw [h2 i (by omega)]
        have h0 : lst i = 0 := by
          match i, (show 0 < i by omega) with
          | j + 1, _ => rfl
        have := tp_bd i
        rw [h0]; omega
  · rw [decide_eq_false h]
    refine okH_not hk ?_
    rw [fld_of _ k hk]
    unfold upd
    rw [if_pos rfl]; omega
theorem Try.size23 : (Try.prog.info? 23).map (·.size) = some 5 := by kernel_rfl
theorem results_cell_tmp {P : Program} {fn : Func} {p u : Tmp} {ty : TypeId} (h : fn.results = #[.cell p ty, .tmp u]) (tmps : Array Value) (w : World) (g : Nat) (t : TypeId) (cs : Array Value) (fr : Nat × Nat) (d : TypeDesc)
    (hp : tmps.getD p undef = .pointer (some ⟨g, 0, none⟩)) (hg : w.heap[g]? = some (.cells cs t fr))
    (hu : P.underlying ty = some d) (hd : (match d with | .struct _ | .array _ _ => true | _ => false) = true) (hi : (P.info? ty).map (·.size) = some cs.size) :
    (results fn tmps).run P w = .ok (.tuple #[.agg cs, tmps.getD u undef]) w := by
  have hp' : tmps[p]?.getD undef = .pointer (some ⟨g, 0, none⟩) := by simpa using hp
  simp [results, h, hp', asAddr, run_loadVar_row w g t ty cs fr d hg hu hd hi]
theorem hm_cells (G : Nat → Int) (w : World) :
    Calls Try.prog 14 #[.agg (hcs G)] w fun r w' => r = .returned (.bool (okH (G 0) (G 1) (G 2) (G 3) (G 4))) ∧ Below w.heap.size w w' := hm_any _ _ _ _ _ w
theorem dh_zero (a : Option Addr) (c : Nat) (w : World) :
    Calls Try.prog 10 #[.slice a 0 c] w fun e w' => e = .returned (errV 10) ∧ Below w.heap.size w w' := by
  go_enter Try.func10, Try.ntmps10
  go_wp2
  refine bodyPost_ret (v := errV 10) (by simp [results, Try.results10, go_sem, errV, hcs, zer]) rfl ⟨rfl, below_alloc1 _ _⟩
theorem dh_one (b off n c : Nat) (z : Int) (w : World) (hn : 0 < n) (hc : w.cell? ⟨b, off, none⟩ = some (.int .u8 z)) (hz : z ≠ 1) :
    Calls Try.prog 10 #[.slice (some ⟨b, off, none⟩) n c] w fun e w' => e = .returned (errV 32) ∧ Below w.heap.size w w' := by
  have hn' : (0 : Int) < (n : Int) := by omega
  have hne : ((n : Int) == 0) = false := by simp; omega
  have hz' : (z != 1) = true := by simp [hz]
  have hc' : ∀ o, (w.alloc o).cell? ⟨b, off, none⟩ = some (.int .u8 z) := fun o => ((below_alloc1 w o).cell (p := ⟨b, off, none⟩) (World.block_lt_of_cell? w _ hc)).trans hc
  clear hz hc
  go_enter Try.func10, Try.ntmps10
  go_wp2
  refine bodyPost_ret (v := errV 32) (by simp [results, Try.results10, go_sem, errV, hcs, zer]) rfl ⟨rfl, below_alloc1 _ _⟩
end Go.Proofs.Ytgonbakoidkafaa
