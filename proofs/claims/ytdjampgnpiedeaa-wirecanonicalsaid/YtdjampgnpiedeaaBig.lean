/-
  Appends of bytes beyond 2^47.
-/
import Derived.Test.YtdjampgnpiedeaaCur
import Derived.Laws.AppendOwnNone
namespace Go.Proofs.Ytdjampgnpiedeaa
open Go.RowKit
theorem cap_quarter {need old : Nat} (h : old < need) : Builtin.nextslicecap need old ≤ need + (need + 768) / 4 + 512 := by
  unfold Builtin.nextslicecap
  split
  · omega
  · split
    · omega
    · rw [growBy_four]
      repeat' split
      all_goals omega
/-- The new array that an append has laid is the call's own. -/
theorem own_laid (w : World) (base : Nat) (xs news : List Value) (z : Value) (hz : z.cells.size = 1) (N cap : Nat) (hl : (xs ++ news).length = N) (hc : N ≤ cap) (hm : cap ≤ maxLen) (hbase : base ≤ w.heap.size) (row : Option Nat) :
    (w.drew.alloc (.cells (xs.toArray ++ news.toArray ++ Builtin.zeroCells z.cells (cap - N)) 5)).ownsRow base 5 1 (.slice (some ⟨w.heap.size, 0, none⟩) N cap) N (xs ++ news) ∧
      w.grownBy (w.drew.alloc (.cells (xs.toArray ++ news.toArray ++ Builtin.zeroCells z.cells (cap - N)) 5)) row := by
  refine ⟨⟨by rw [Nat.mul_one]; exact hl, .inr ⟨w.heap.size, cap, _, rfl, hbase, heap_alloc_new w.drew _, hc, hm, ?_, ?_⟩⟩, ⟨rfl, rfl, rfl, by simp, fun k hk _ => Below.heap_alloc w.drew _ k hk⟩⟩
  · simp only [Array.size_append, List.size_toArray, size_zeroCells, hz]
    rw [List.length_append] at hl
    omega
  · simp only [Array.toList_append, List.append_assoc]
    rw [← List.append_assoc, Nat.mul_one, ← hl]
    exact List.take_left
/-- 'append(b, raw...)', b the call's own, raw any row of bytes, whatever a machine bears. -/
theorem append_big (w : World) {ops : Array Oper} {rest : List Oper} {o : Oper} {a : Act} {Q : Exit → Act → World → Prop} (hgd : o.guard = none) (s x : Operand)
    (ho : o.op = .call { callee := .builtin .append, args := #[s, x], argTypes := #[28, 28] }) (base : Nat)
    (v : Value) (n : Nat) (xs : List Value) (hs : a.eval s = v) (hown : w.ownsRow base 5 1 v n xs)
    (ad : Addr) (m c : Nat) (news : List Value) (hx : a.eval x = .slice (some ad) m c) (hl : news.length = m) (hnews : ∀ j u, news[j]? = some u → w.cell? (ad.add j) = some u) (h1 : ∀ u ∈ news, u.oneCell' = true)
    (hb : n + m ≤ 225000000000000) (hbase : base ≤ w.heap.size)
    (h : ∀ v' w', w'.ownsRow base 5 1 v' (n + m) (xs ++ news) → w.grownBy w' v.ownBlock → wpList Try.prog ops Q rest (a.put o.dst v') w') : wpList Try.prog ops Q (o :: rest) a w := by
  obtain ⟨i0, hi, hz0, hz1, hz2⟩ := info_parts Try.info5
  by_cases hsm : n + m ≤ 140737488355328
  · exact wpList_append_own w hgd s x 28 ho base 5 i0 (.int .u8 0) 1 1 Try.underlying28 hi hz0 hz1 hz2 rfl (by decide) v n xs hs hown ad m c news hx (by simpa using hl) hnews h1 (by unfold maxLen; omega) (by omega) hbase (fun v' w' q1 q2 _ => h v' w' q1 q2)
  · have hlx : xs.length = n := by simpa using hown.1
    have hN : (xs ++ news).length = n + m := by rw [List.length_append, hlx, hl]
    have hmax : n + m ≤ maxLen := by unfold maxLen; omega
    rcases hown.2 with ⟨hv, h0⟩ | ⟨g, cap, cur, hv, hbg, hg, hnc, hcm, hcs, htk⟩
    · subst h0
      subst hv
      have ex : xs = [] := List.length_eq_zero_iff.1 hlx
      subst ex
      have hr := run_append_nil (P := Try.prog) w 28 o.type 5 i0 (.int .u8 0) Try.underlying28 hi hz0 ad m c news (by rw [hz1]; omega) hnews (by omega) (by omega) (by rw [hz2]; omega)
      obtain ⟨q1, q2⟩ := own_laid w base [] news (.int .u8 0) rfl (0 + m) (grownCap w m 0 5) hN (by have := grownCap_ge w m 0 5; omega) (grownCap_le_maxLen w m 0 5 (by omega)) hbase (Value.ownBlock (.slice none 0 0))
      refine wpList_plain hgd fun K hK => ?_
      unfold Oper.wp execOp
      simp only [ho, resolve, invoke, builtin, Sem.run_bind, Sem.run_pure, Result.andThen_ok, List.map_toArray, List.map_cons, List.map_nil, hs, hx, hr]
      simp only [Nat.zero_add, List.nil_append, Array.empty_append] at q1 q2 h
      exact hK _ _ (h _ _ q1 q2)
    · by_cases hroom : n + m ≤ cap
      · subst hv
        refine wpList_append_fits w hgd s x 28 ho base 5 i0 1 Try.underlying28 hi hz1 g n cap xs hs hown ad m c news hx (by simpa using hl) hnews h1 hroom ?_
        intro w' q1 q2
        exact h _ w' q1 q2
      · subst hv
        have hq := cap_quarter (need := n + m) (old := cap) (by omega)
        have hr := run_append_grow (P := Try.prog) w 28 o.type 5 i0 (.int .u8 0) Try.underlying28 hi hz0 ⟨g, 0, none⟩ n cap xs (by rw [hz1]; omega) (hown.cells (g := g) rfl) ad m c news (by rw [hz1]; omega) hnews (by omega) (by omega) (by rw [hz2]; omega)
        obtain ⟨q1, q2⟩ := own_laid w base xs news (.int .u8 0) rfl (n + m) (grownCap w (n + m) cap 5) hN (grownCap_ge w (n + m) cap 5) (grownCap_le_maxLen w (n + m) cap 5 hmax) hbase (Value.ownBlock (.slice (some ⟨g, 0, none⟩) n cap))
        refine wpList_plain hgd fun K hK => ?_
        unfold Oper.wp execOp
        simp only [ho, resolve, invoke, builtin, Sem.run_bind, Sem.run_pure, Result.andThen_ok, List.map_toArray, List.map_cons, List.map_nil, hs, hx, hr]
        exact hK _ _ (h _ _ q1 q2)
end Go.Proofs.Ytdjampgnpiedeaa
