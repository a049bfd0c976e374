/-
  Two heaps and a nil one, the program's and the document's, in turns.
-/
import Derived.Test.YtdmlehbamdcjcabPlA
namespace Go.Proofs.Ytdmlehbamdcjcab
open Go.RowKit
theorem plays_any (kd wh xk xt : Int) (w : World) (base p : Nat) (v : Value) (n : Int) (S : List (It × Int)) (q : Nat) (h : HsI w base p v n S) (hr : Rq w q (S.map Prod.fst)) (hbase : base ≤ w.heap.size) (hn : n + 1 ≤ 5000000000000) (hS : (S.length : Int) ≤ n) :
    Calls Try.prog 19 #[.agg #[.int .i64 kd, .int .i64 wh, .int .i64 xk, .int .i64 xt], .pointer (some ⟨p, 0, none⟩), .pointer (some ⟨q, 0, none⟩)] w fun r w' => r = .returned (.bool true) ∧ After w w' base p v n q := by
  by_cases h1 : kd = 1
  · subst h1; exact plays1 wh xk xt w base p v n S q h hr hbase hn hS
  by_cases h2 : kd = 2
  · subst h2
    cases S with
    | nil => exact plays2e wh xk xt w base p v n q h hr hbase hn hS
    | cons e S => exact plays2c wh xk xt w base p v n e S q h hr hbase hn hS
  by_cases h3 : kd = 3
  · subst h3
    cases S with
    | nil => exact plays3e wh xk xt w base p v n q h hr hbase hn hS
    | cons e S => exact plays3c wh xk xt w base p v n e S q h hr hbase hn hS
  by_cases h4 : kd = 4
  · subst h4; exact plays4 wh xk xt w base p v n S q h hr hS
  by_cases h5 : kd = 5
  · subst h5; exact plays5 wh xk xt w base p v n S q h hr hn hS
  refine (plays0 kd wh xk xt _ _ w h1 h2 h3 h4 h5).mono ?_
  rintro r w' ⟨rfl, hb⟩
  exact ⟨rfl, v, n, S, h.below hb, hr.but (S := fun _ => False) (But.of_below hb) (fun e => e) (fun _ _ _ _ e => e), by omega, hS, But.of_below hb, fun g hg => .inl hg⟩
set_option maxRecDepth 8000 in
set_option maxHeartbeats 1600000 in
theorem plays_nil (kd wh xk xt : Int) (w : World) :
    Calls Try.prog 19 #[.agg #[.int .i64 kd, .int .i64 wh, .int .i64 xk, .int .i64 xt], .pointer none, .pointer none] w fun r w' => r = .returned (.bool true) ∧ Below w.heap.size w w' := by
  have hql : ∀ W' : World, (binOp .eql 28 (.agg #[.int .i64 0, .int .i64 0]) (.agg #[.int .i64 0, .int .i64 0])).run Try.prog W' = .ok (.bool true) W' := fun W' => eqlI W' _ _
  by_cases h1 : kd = 1
  · subst h1
    go_enter Try.func19, Try.ntmps19
    go_wp2_with fail
    refine (push_nilI ⟨xk, xt⟩ _).mono ?_
    rintro r w1 ⟨rfl, b1⟩
    have r1 := (b1.block w.heap.size (by simp)).trans (heap_new w _)
    have y2 : w1.cell? ⟨w.heap.size, 2, none⟩ = some (.int .i64 xk) := cell_at r1 rfl
    have y3 : w1.cell? ⟨w.heap.size, 3, none⟩ = some (.int .i64 xt) := cell_at r1 rfl
    have B1 : Hid _ := hide (Below.on (below_alloc1 _ _) b1)
    clear r1 b1
    go_wp2_with fail
    refine (r9push_nil ⟨xk, xt⟩ _).mono ?_
    rintro r w2 ⟨rfl, b2⟩
    have B2 : Hid _ := hide (Below.on B1.out b2)
    clear b2
    go_wp2
    go_ret
    exact ⟨rfl, B2.out⟩
  by_cases h2 : kd = 2
  · subst h2
    go_enter Try.func19, Try.ntmps19
    go_wp2_with fail
    refine (pop_nilI _).mono ?_
    rintro r w1 ⟨rfl, b1⟩
    have B1 : Hid _ := hide (Below.on (below_alloc1 _ _) b1)
    clear b1
    go_wp2_with fail
    refine (r9pop_nil _).mono ?_
    rintro r w2 ⟨rfl, b2⟩
    have r2 := (b2.block w1.heap.size (by simp)).trans (heap_new w1 _)
    have y0 : w2.cell? ⟨w1.heap.size, 0, none⟩ = some (.int .i64 0) := cell_at r2 rfl
    have y1 : w2.cell? ⟨w1.heap.size, 1, none⟩ = some (.int .i64 0) := cell_at r2 rfl
    have hs2 : w1.heap.size < w2.heap.size := by have := b2.size; simp at this; omega
    have hne : ¬ w1.heap.size = w2.heap.size := by omega
    have B2 : Hid (Below w.heap.size w w2) := hide (Below.on (Below.on B1.out (below_alloc1 _ _)) b2)
    clear b2 r2
    go_wp2_with fail
    go_ret
    exact ⟨rfl, Below.on B2.out (below_alloc1 _ _)⟩
  by_cases h3 : kd = 3
  · subst h3
    go_enter Try.func19, Try.ntmps19
    go_wp2_with fail
    refine (peek_nilI _).mono ?_
    rintro r w1 ⟨rfl, b1⟩
    have B1 : Hid _ := hide (Below.on (below_alloc1 _ _) b1)
    clear b1
    go_wp2_with fail
    refine (r9peek_nil _).mono ?_
    rintro r w2 ⟨rfl, b2⟩
    have r2 := (b2.block w1.heap.size (by simp)).trans (heap_new w1 _)
    have y0 : w2.cell? ⟨w1.heap.size, 0, none⟩ = some (.int .i64 0) := cell_at r2 rfl
    have y1 : w2.cell? ⟨w1.heap.size, 1, none⟩ = some (.int .i64 0) := cell_at r2 rfl
    have hs2 : w1.heap.size < w2.heap.size := by have := b2.size; simp at this; omega
    have hne : ¬ w1.heap.size = w2.heap.size := by omega
    have B2 : Hid (Below w.heap.size w w2) := hide (Below.on (Below.on B1.out (below_alloc1 _ _)) b2)
    clear b2 r2
    go_wp2_with fail
    go_ret
    exact ⟨rfl, Below.on B2.out (below_alloc1 _ _)⟩
  by_cases h4 : kd = 4
  · subst h4
    go_enter Try.func19, Try.ntmps19
    go_wp2_with fail
    refine (len_nilI _).mono ?_
    rintro r w1 ⟨rfl, rfl⟩
    go_wp2_with fail
    refine (r9len_nil _).mono ?_
    rintro r w2 ⟨rfl, rfl⟩
    go_wp2
    go_ret
    exact ⟨rfl, below_alloc1 _ _⟩
  by_cases h5 : kd = 5
  · subst h5
    go_enter Try.func19, Try.ntmps19
    go_wp2_with fail
    refine (sorted_nilI _).mono ?_
    rintro r w1 ⟨rfl, rfl⟩
    go_wp2_with fail
    refine (r9sorted_nil _).mono ?_
    rintro r w2 ⟨rfl, rfl⟩
    go_wp2_with fail
    refine (sameI none none 0 0 0 [] _ (TRow.nil _ _ _) (TRow.nil _ _ _) (by omega)).mono ?_
    rintro r w3 ⟨rfl, b3⟩
    have B3 : Hid _ := hide (Below.on (below_alloc1 _ _) b3)
    clear b3
    go_wp2
    go_ret
    exact ⟨rfl, B3.out⟩
  exact plays0 kd wh xk xt _ _ w h1 h2 h3 h4 h5
/-- Both heaps, the program's and the document's. -/
def PS (w : World) (b0 b1 p0 p1 q0 q1 : Nat) (j : Int) : Prop := ∃ v0 n0 S0 v1 n1 S1, HsI w b0 p0 v0 n0 S0 ∧ HsI w b1 p1 v1 n1 S1 ∧ Rq w q0 (S0.map Prod.fst) ∧ Rq w q1 (S1.map Prod.fst) ∧ n0 ≤ j ∧ n1 ≤ j ∧ (S0.length : Int) ≤ n0 ∧ (S1.length : Int) ≤ n1 ∧ (∀ g, v0.ownBlock = some g → v1.ownBlock ≠ some g)
theorem PS.swap {w : World} {b0 b1 p0 p1 q0 q1 : Nat} {j : Int} (h : PS w b0 b1 p0 p1 q0 q1 j) : PS w b1 b0 p1 p0 q1 q0 j := by
  obtain ⟨v0, n0, S0, v1, n1, S1, a1, a2, a3, a4, a5, a6, a7, a8, a9⟩ := h
  exact ⟨v1, n1, S1, v0, n0, S0, a2, a1, a4, a3, a6, a5, a8, a7, fun g h1 h2 => a9 g h2 h1⟩
theorem PS.below {w w' : World} {b0 b1 p0 p1 q0 q1 : Nat} {j : Int} (h : PS w b0 b1 p0 p1 q0 q1 j) (hb : Below w.heap.size w w') : PS w' b0 b1 p0 p1 q0 q1 j := by
  obtain ⟨v0, n0, S0, v1, n1, S1, a1, a2, a3, a4, a5, a6, a7, a8, a9⟩ := h
  exact ⟨v0, n0, S0, v1, n1, S1, a1.below hb, a2.below hb, a3.but (S := fun _ => False) (But.of_below hb) (fun e => e) (fun _ _ _ _ e => e), a4.but (S := fun _ => False) (But.of_below hb) (fun e => e) (fun _ _ _ _ e => e), a5, a6, a7, a8, a9⟩
theorem PS.mono {w : World} {b0 b1 p0 p1 q0 q1 : Nat} {j k : Int} (h : PS w b0 b1 p0 p1 q0 q1 j) (hk : j ≤ k) : PS w b0 b1 p0 p1 q0 q1 k := by
  obtain ⟨v0, n0, S0, v1, n1, S1, a1, a2, a3, a4, a5, a6, a7, a8, a9⟩ := h
  exact ⟨v0, n0, S0, v1, n1, S1, a1, a2, a3, a4, by omega, by omega, a7, a8, a9⟩
theorem PS.step {w : World} {b0 b1 p0 p1 q0 q1 B : Nat} {j : Int} (kd wh xk xt : Int) (h : PS w b0 b1 p0 p1 q0 q1 j) (hp : p0 ≠ p1) (hq : q0 ≠ q1) (hB : B ≤ b0 ∧ B ≤ p0 ∧ B ≤ q0) (hBw : B ≤ w.heap.size) (hb0 : b0 ≤ w.heap.size) (hj : j + 1 ≤ 5000000000000) :
    Calls Try.prog 19 #[.agg #[.int .i64 kd, .int .i64 wh, .int .i64 xk, .int .i64 xt], .pointer (some ⟨p0, 0, none⟩), .pointer (some ⟨q0, 0, none⟩)] w fun r w' => r = .returned (.bool true) ∧ PS w' b0 b1 p0 p1 q0 q1 (j + 1) ∧ Below B w w' ∧ (∀ (b : Nat) (cs : Array Value) (t : TypeId) (fr : Nat × Nat), w.heap[b]? = some (.cells cs t fr) → t ≠ 59 → t ≠ 56 → t ≠ 64 → w'.heap[b]? = w.heap[b]?) := by
  obtain ⟨v0, n0, S0, v1, n1, S1, a1, a2, a3, a4, a5, a6, a7, a8, a9⟩ := h
  refine (plays_any kd wh xk xt w b0 p0 v0 n0 S0 q0 a1 a3 hb0 (by omega) a7).mono ?_
  rintro r w' ⟨rfl, v', n', S', h1, h2, h3, h4, h5, h6⟩
  have t1 : ∀ g, v1.ownBlock = some g → ¬ (g = p0 ∨ v0.ownBlock = some g ∨ g = q0) := by
    intro g hg
    obtain ⟨_, _, cur, hc⟩ := a2.own g hg
    rintro (e | e | e)
    · exact ty_ne hc a1.blk (by decide) e
    · exact a9 g e hg
    · exact rq_ne a3 hc (by decide) e
  refine ⟨rfl, ⟨v', n', S', v1, n1, S1, h1, a2.but h5 ?_ t1, h2, a4.but h5 ?_ ?_, by omega, by omega, h4, a8, fun g hg => ?_⟩, h5.below hBw ?_, fun b cs t fr hb t1 t2 t3 => h5.block b (Array.getElem?_eq_some_iff.1 hb).1 ?_⟩
  · rintro (e | e | e)
    · exact hp e.symm
    · obtain ⟨_, _, cur, hc⟩ := a1.own _ e
      exact ty_ne hc a2.blk (by decide) rfl
    · exact rq_ne a3 a2.blk (by decide) e
  · rintro (e | e | e)
    · exact rq_ne a4 a1.blk (by decide) e.symm
    · obtain ⟨_, _, cur, hc⟩ := a1.own _ e
      exact rq_ne a4 hc (by decide) rfl
    · exact hq e.symm
  · rintro b cur fr hbb (e | e | e)
    · exact ty_ne hbb a1.blk (by decide) e
    · obtain ⟨_, _, cur', hc⟩ := a1.own _ e
      exact ty_ne hbb hc (by decide) rfl
    · exact rq_ne a3 hbb (by decide) e
  · intro e
    rcases h6 g hg with e9 | e9
    · exact a9 g e9 e
    · have := (a2.own g e).2.1; omega
  · rintro k (e | e | e)
    · omega
    · have := (a1.own k e).1; omega
    · omega
  · rintro (e | e | e)
    · exact ty_ne hb a1.blk t2 e
    · obtain ⟨_, _, cur', hc⟩ := a1.own _ e
      exact ty_ne hb hc t1 rfl
    · exact rq_ne a3 hb t3 e
end Go.Proofs.Ytdmlehbamdcjcab
