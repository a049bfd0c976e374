/-
  The document's writer.
-/
import Derived.Test.YtamoioebgnmcaaaDoorSRfB
import Derived.Test.YtamoioebgnmcaaaDoorSGr
namespace Go.Proofs.YtamoioebgnmcaaaDoor
open Go.RowKit
attribute [local go_sem] Oper.semAt_some
/-- The cells of the document's writer. -/
def rwc (lim : Int) (v : Value) (last : Int) : Array Value := #[.int .i64 lim, v, .int .i64 last]
theorem r3_cells {w : World} {p : Nat} {lim last : Int} {v : Value} (h : w.heap[p]? = some (.cells (rwc lim v last) 81 (0, 0))) : w.cell? ⟨p, 0, none⟩ = some (.int .i64 lim) ∧ w.cell? ⟨p, 1, none⟩ = some v ∧ w.cell? ⟨p, 2, none⟩ = some (.int .i64 last) := by
  refine ⟨?_, ?_, ?_⟩
  · rw [cell_of_row w _ 0 _ _ (0, 0) h]; rfl
  · rw [cell_of_row w _ 1 _ _ (0, 0) h]; rfl
  · rw [cell_of_row w _ 2 _ _ (0, 0) h]; rfl
theorem rnew_ok (l : Int) (w : World) (h : 64 ≤ l ∧ l ≤ 1048576) : Calls Tryd.prog 30 #[.int .i64 l] w fun e w' => e = .returned (.tuple #[.pointer (some ⟨w.heap.size, 0, none⟩), .int .i64 0]) ∧ w' = w.alloc (.cells (rwc l (.slice none 0 0) (-1)) 81) := by
  have HL := rlimits_any l w
  rw [decide_eq_true h] at HL
  clear h
  go_enter Tryd.func30, Tryd.ntmps30
  go_wp2_with fail
  refine HL.mono ?_
  rintro e w1 ⟨rfl, hw1⟩
  rw [hw1]
  clear HL hw1 w1
  go_wp2
  go_ret2
  exact ⟨rfl, rfl⟩
theorem rnew_bad (l : Int) (w : World) (h : ¬ (64 ≤ l ∧ l ≤ 1048576)) : Calls Tryd.prog 30 #[.int .i64 l] w fun e w' => e = .returned (.tuple #[.pointer none, .int .i64 2]) ∧ w' = w := by
  have HL := rlimits_any l w
  rw [decide_eq_false h] at HL
  clear h
  go_enter Tryd.func30, Tryd.ntmps30
  go_wp2_with fail
  refine HL.mono ?_
  rintro e w1 ⟨rfl, hw1⟩
  rw [hw1]
  clear HL hw1 w1
  go_wp2
  go_ret2
  exact ⟨rfl, rfl⟩
theorem rwheld_nil (w : World) : Calls Tryd.prog 35 #[.pointer none] w fun e w' => e = .returned (.int .i64 0) ∧ w' = w := by
  go_enter Tryd.func35, Tryd.ntmps35
  go_wp2
  go_ret
  exact ⟨rfl, rfl⟩
theorem rwheld_any {w : World} {p : Nat} {lim last : Int} {ra : Option Addr} {rn rc : Nat} (h : w.heap[p]? = some (.cells (rwc lim (.slice ra rn rc) last) 81 (0, 0))) : Calls Tryd.prog 35 #[.pointer (some ⟨p, 0, none⟩)] w fun e w' => e = .returned (.int .i64 (rn : Int)) ∧ w' = w := by
  obtain ⟨c0, c1, c2⟩ := r3_cells h
  clear h
  go_enter Tryd.func35, Tryd.ntmps35
  go_wp2
  go_ret
  exact ⟨rfl, rfl⟩
theorem rwflush_nil (w : World) : Calls Tryd.prog 34 #[.pointer none] w fun e w' => e = .returned (.slice none 0 0) ∧ w' = w := by
  go_enter Tryd.func34, Tryd.ntmps34
  go_wp2
  go_ret
  exact ⟨rfl, rfl⟩
theorem rwflush_0 {w : World} {p : Nat} {lim last : Int} {ra : Option Addr} {rc : Nat} (h : w.heap[p]? = some (.cells (rwc lim (.slice ra 0 rc) last) 81 (0, 0))) : Calls Tryd.prog 34 #[.pointer (some ⟨p, 0, none⟩)] w fun e w' => e = .returned (.slice none 0 0) ∧ w' = w := by
  obtain ⟨c0, c1, c2⟩ := r3_cells h
  clear h
  go_enter Tryd.func34, Tryd.ntmps34
  go_wp2
  go_ret
  exact ⟨rfl, rfl⟩
theorem rwput_nil (t k o a q : Int) (w : World) : Calls Tryd.prog 31 #[.pointer none, .agg #[.int .i64 t, .int .i64 k, .int .u64 o, .int .u64 a, .int .i64 q]] w fun e w' => e = .returned (.tuple #[.slice none 0 0, .int .i64 1]) ∧ Below w.heap.size w w' := by
  go_enter Tryd.func31, Tryd.ntmps31
  go_wp2
  go_ret2
  exact ⟨rfl, below_alloc1 _ _⟩
theorem encs_mono : ∀ (L M : List Rc) (s : St), (encs s L).length ≤ (encs s (L ++ M)).length
  | [], M, s => by simp [encs]
  | x :: l, M, s => by
    rw [List.cons_append, encs, encs, List.length_append, List.length_append]
    have := encs_mono l M (behindS x)
    omega
/-- The bodies of records that fit into one. -/
theorem cut_one {lim : Int} {cur : List Rc} (hp : Part lim cur) (hne : cur ≠ []) (hlim : 64 ≤ lim) : cutS lim.toNat [] St.zero cur = [encs St.zero cur] := by
  have key : ∀ (l pre : List Rc), pre ++ l = cur → cutS lim.toNat (encs St.zero pre) (fin St.zero pre) l = if encs St.zero cur = [] then [] else [encs St.zero cur] := by
    intro l
    induction l with
    | nil => intro pre h; rw [List.append_nil] at h; rw [cutS, h]
    | cons r l ih =>
      intro pre h
      have hl : (encs St.zero (pre ++ [r])).length ≤ (encs St.zero cur).length := by
        rw [← h, show pre ++ r :: l = (pre ++ [r]) ++ l by simp]
        exact encs_mono _ _ _
      have hlen := hp.len
      rw [encs_snoc, List.length_append] at hl
      rw [cutS, if_neg (by omega)]
      have h9 := ih (pre ++ [r]) (by rw [← h]; simp)
      rw [encs_snoc, fin_snoc] at h9
      exact h9
  have h9 := key cur [] rfl
  rw [if_neg (hp.pos hne)] at h9
  exact h9
set_option maxHeartbeats 1600000 in
set_option maxRecDepth 8000 in
theorem rwput_bad {w : World} {p : Nat} {lim last : Int} {v : Value} (t k o a q : Int) (h : w.heap[p]? = some (.cells (rwc lim v last) 81 (0, 0))) (hr : (⟨t, k, o, a, q⟩ : Rc).ok) (hf : flt last ⟨t, k, o, a, q⟩ ≠ 0) :
    Calls Tryd.prog 31 #[.pointer (some ⟨p, 0, none⟩), .agg #[.int .i64 t, .int .i64 k, .int .u64 o, .int .u64 a, .int .i64 q]] w fun e w' => e = .returned (.tuple #[.slice none 0 0, .int .i64 (flt last ⟨t, k, o, a, q⟩)]) ∧ Below w.heap.size w w' := by
  obtain ⟨W0, hW0⟩ : ∃ W0, W0 = w.alloc (.cells #[.int .i64 t, .int .i64 k, .int .u64 o, .int .u64 a, .int .i64 q] 52) := ⟨_, rfl⟩
  have b0 : Below w.heap.size w W0 := by rw [hW0]; exact below_alloc1 _ _
  have LR : W0.heap[w.heap.size]? = some (.cells #[.int .i64 t, .int .i64 k, .int .u64 o, .int .u64 a, .int .i64 q] 52 (0, 0)) := by rw [hW0]; exact heap_new _ _
  have LW := (b0.block p (lt_of_heap h)).trans h
  obtain ⟨x0, x1, x2, x3, x4⟩ := r5_cells LR
  obtain ⟨c0, c1, c2⟩ := r3_cells LW
  have FA := fun W => rfault_any last t k o a q W hr
  generalize flt last ⟨t, k, o, a, q⟩ = E at FA hf
  have q1 : (E != 0) = true := by simpa using hf
  have HKS : Hid (∀ X, Below W0.heap.size W0 X → X.cell? ⟨p, 2, none⟩ = some (.int .i64 last) ∧ X.cell? ⟨w.heap.size, 0, none⟩ = some (.int .i64 t) ∧ X.cell? ⟨w.heap.size, 1, none⟩ = some (.int .i64 k) ∧ X.cell? ⟨w.heap.size, 2, none⟩ = some (.int .u64 o) ∧ X.cell? ⟨w.heap.size, 3, none⟩ = some (.int .u64 a) ∧ X.cell? ⟨w.heap.size, 4, none⟩ = some (.int .i64 q)) := hide (fun X hX => by
    have h1 := (hX.block _ (lt_of_heap LR)).trans LR
    have h2 := (hX.block _ (lt_of_heap LW)).trans LW
    obtain ⟨y0, y1, y2, y3, y4⟩ := r5_cells h1
    exact ⟨(r3_cells h2).2.2, y0, y1, y2, y3, y4⟩)
  have HB0 : Hid _ := hide b0
  have HW0 : Hid _ := hide hW0
  clear h hr LR LW hW0 b0 c0 c1
  go_enter Tryd.func31, Tryd.ntmps31
  go_upto_region 3 with fail
  rw [← HW0.out]
  go_region_held3 (fun X => X.cell? ⟨p, 2, none⟩ = some (.int .i64 last) ∧ X.cell? ⟨w.heap.size, 0, none⟩ = some (.int .i64 t) ∧ X.cell? ⟨w.heap.size, 1, none⟩ = some (.int .i64 k) ∧ X.cell? ⟨w.heap.size, 2, none⟩ = some (.int .u64 o) ∧ X.cell? ⟨w.heap.size, 3, none⟩ = some (.int .u64 a) ∧ X.cell? ⟨w.heap.size, 4, none⟩ = some (.int .i64 q)) (first | exact HKS.out _ B1 | exact HKS.out _ (Below.refl _ _).drew | exact HKS.out _ (Below.refl _ _)) (first
    | (go_at_call 37; go_must (
       refine (FA _).mono ?_
       rintro e w1 ⟨rfl, hb1⟩
       have B1 : Below W0.heap.size W0 w1 := (Below.refl _ _).drew.trans hb1)))
  have HB1 : Hid (Below w.heap.size w w1) := hide (HB0.out.trans (B1.mono HB0.out.size))
  clear hb1 B1 x0 x1 x2 x3 x4 c2 HKS FA
  go_wp2
  go_ret2
  exact ⟨rfl, HB1.out⟩
set_option maxHeartbeats 1600000 in
set_option maxRecDepth 8000 in
theorem rwflush_1 {w : World} {p base : Nat} {lim last : Int} {ra : Option Addr} {rn rc : Nat} {cur : List Rc} (h : w.heap[p]? = some (.cells (rwc lim (.slice ra rn rc) last) 81 (0, 0))) (ho : w.ownsRow base 52 5 (.slice ra rn rc) rn (flat cur)) (hp : Part lim cur) (hne : cur ≠ []) (hlim : 64 ≤ lim ∧ lim ≤ 1048576) :
    Calls Tryd.prog 34 #[.pointer (some ⟨p, 0, none⟩)] w fun e w' => ∃ ai ci, e = .returned (.slice ai (encs St.zero cur).length ci) ∧ Row w' ai (encs St.zero cur).length (encs St.zero cur) ∧ w'.heap[p]? = some (.cells (rwc lim (.slice none 0 0) last) 81 (0, 0)) ∧ But (fun g => g = p) w w' := by
  obtain ⟨c0, c1, c2⟩ := r3_cells h
  have hpl := lt_of_heap h
  have hl : cur.length = rn := by have := ho.1; rw [flat_len] at this; omega
  have hr0 : 0 < rn := by rw [← hl]; exact List.length_pos_iff.2 hne
  have hrI : (0 : Int) < (rn : Int) := by omega
  have hrq : ((rn : Int) == 0) = false := by simp; omega
  have HC1 := cut_one hp hne hlim.1
  have HKS : Hid (∀ X, Below w.heap.size w X → X.cell? ⟨p, 1, none⟩ = some (.slice ra rn rc) ∧ X.cell? ⟨p, 0, none⟩ = some (.int .i64 lim)) := hide (fun X hX => ⟨(hX.cell (p := ⟨p, 1, none⟩) hpl).trans c1, (hX.cell (p := ⟨p, 0, none⟩) hpl).trans c0⟩)
  have RB : Hid (∀ W, Below w.heap.size w W → Calls Tryd.prog 38 #[.slice ra rn rc, .int .i64 lim] W fun e w' => Below W.heap.size W w' ∧ ∃ ao co vals, e = .returned (.slice ao 1 co) ∧ Lists w' W.heap.size (.slice ao 1 co) [encs St.zero cur] vals) := hide (fun W hW => by
    have h9 := rbodies_any ra rn rc cur lim W (RRow.of_own (own_below ho hW)) hp.ok hp.str hlim
    rw [HC1] at h9
    exact h9)
  have HLB : Hid (((encs St.zero cur).length : Int) ≤ 140737488355328) := hide (by have := hp.len; have := hlim.2; omega)
  have HU8 : Hid _ := hide hp.u8
  have HH : Hid _ := hide h
  clear h ho hp hne hlim HC1 hl
  go_enter Tryd.func34, Tryd.ntmps34
  go_wp2_with fail
  go_region_held3 (fun X => X.cell? ⟨p, 1, none⟩ = some (.slice ra rn rc) ∧ X.cell? ⟨p, 0, none⟩ = some (.int .i64 lim)) (first | exact HKS.out _ B1 | exact HKS.out _ (Below.refl _ _).drew | exact HKS.out _ (Below.refl _ _)) (first
    | (go_at_call 38; go_must (
       refine (RB.out _ (Below.refl _ _).drew).mono ?_
       rintro e w1 ⟨hb1, ao, co, vals, rfl, ls⟩
       have B1 : Below w.heap.size w w1 := (Below.refl _ _).drew.trans hb1)))
  have L1 := (B1.block p hpl).trans HH.out
  have HL1 : Hid _ := hide L1
  have d1 : w1.cell? ⟨p, 1, none⟩ = some (.slice ra rn rc) := (r3_cells L1).2.1
  have f1 := frz L1 1
  obtain ⟨ai, ci, h1, h2⟩ := ls.each 0 _ rfl
  obtain ⟨lb, hao⟩ : ∃ lb, ao = some ⟨lb, 0, none⟩ := by
    rcases ls.own.2 with ⟨_, e9⟩ | ⟨g9, cap9, cur9, e9, _⟩
    · simp at e9
    · cases e9; exact ⟨g9, rfl⟩
  subst hao
  have hlb : lb ≠ p := fun e => own_ne_cells ls.own L1 (by decide) (by rw [e]; rfl)
  have z1 : w1.cell? ⟨lb, 0, none⟩ = some (.slice ai (encs St.zero cur).length ci) := ls.own.cells (g := lb) rfl 0 _ h1
  obtain ⟨w2, hw2⟩ : ∃ w2, w2 = w1.setCell ⟨p, 1, none⟩ (.slice none 0 0) := ⟨_, rfl⟩
  have b2 : But (fun g => g = p) w1 w2 := by rw [hw2]; exact (But.refl (fun g => g = p) w1).setCell ⟨p, 1, none⟩ (fun _ => rfl) _
  have L2 : w2.heap[p]? = some (.cells (rwc lim (.slice none 0 0) last) 81 (0, 0)) := by rw [hw2]; exact set1_heap _ L1
  have z2 : w2.cell? ⟨lb, 0, none⟩ = some (.slice ai (encs St.zero cur).length ci) := by
    rw [← z1]
    unfold World.cell?
    rw [b2.block lb (World.block_lt_of_cell? w1 _ z1) hlb]
  have r2 : Row w2 ai (encs St.zero cur).length (encs St.zero cur) := own_row_u8 (own_but h2 b2 (fun g hg e => own_ne_cells h2 L1 (by decide) (by rw [← (e : g = p)]; exact hg))) (u8_of_mem HU8.out)
  have HW2 : Hid _ := hide hw2
  have HR2 : Hid _ := hide r2
  have HL2 : Hid _ := hide L2
  have HB2 : Hid (But (fun g => g = p) w w2) := hide ((But.of_below B1).trans b2 (fun _ _ e => e))
  clear hb1 B1 L1 ls z1 h1 h2 hw2 b2 L2 r2 hlb
  go_upto_region 5 with fail
  rw [← HW2.out]
  go_wp2
  go_ret
  exact ⟨ai, ci, rfl, HR2.out, HL2.out, HB2.out⟩
end Go.Proofs.YtamoioebgnmcaaaDoor
