/-
  Appends in a region that draws, beyond 2^47 bytes.
-/
import Derived.Test.YtdmlehbamdcjcaaHpB
import Derived.Laws.AppendOwnNone
namespace Go.Proofs.Ytdmlehbamdcjcaa
open Go.RowKit
theorem cap_quarter {need old : Nat} (h : old < need) : Builtin.nextslicecap need old ≤ need + (need + 768) / 4 + 512 := by
  unfold Builtin.nextslicecap
  split
  · omega
  · split
    · omega
    · rw [growBy_four]
      repeat' split
      all_goals omega
theorem own_laidS (w : World) (base : Nat) (e : TypeId) (xs news : List Value) (z : Value) (s : Nat) (hz : z.cells.size = s) (N cap : Nat) (hl : (xs ++ news).length = N * s) (hc : N ≤ cap) (hm : cap ≤ maxLen) (hbase : base ≤ w.heap.size) (row : Option Nat) :
    (w.drew.alloc (.cells (xs.toArray ++ news.toArray ++ Builtin.zeroCells z.cells (cap - N)) e)).ownsRow base e s (.slice (some ⟨w.heap.size, 0, none⟩) N cap) N (xs ++ news) ∧
      w.grownBy (w.drew.alloc (.cells (xs.toArray ++ news.toArray ++ Builtin.zeroCells z.cells (cap - N)) e)) row := by
  refine ⟨⟨hl, .inr ⟨w.heap.size, cap, _, rfl, hbase, heap_alloc_new w.drew _, hc, hm, ?_, ?_⟩⟩, ⟨rfl, rfl, rfl, by simp, fun k hk _ => Below.heap_alloc w.drew _ k hk⟩⟩
  · simp only [Array.size_append, List.size_toArray, size_zeroCells, hz]
    rw [List.length_append] at hl
    rw [hl, ← Nat.add_mul]
    congr 1
    omega
  · simp only [Array.toList_append, List.append_assoc]
    rw [← List.append_assoc, ← hl]
    exact List.take_left
theorem step_big (w : World) {ops : Array Oper} {o : Oper} {a : Act} {K : Act → World → Prop} {Q : Exit → Act → World → Prop} {E : Prop} (hgd : o.guard = none) (s x : Operand) (t : TypeId)
    (ho : o.op = .call { callee := .builtin .append, args := #[s, x], argTypes := #[t, t] })
    (base : Nat) (e : TypeId) (i : TypeInfo) (z : Value) (size bytes : Nat) (ht : Try.prog.underlying t = some (.slice e)) (hi : Try.prog.info? e = some i) (hz : i.zero = some z)
    (hsize : i.size = size) (hby : i.bytes = bytes) (hzs : z.cells.size = size)
    (v : Value) (n : Nat) (xs : List Value) (hs : a.eval s = v) (hown : w.ownsRow base e size v n xs)
    (ad : Addr) (c : Nat) (news : List Value) (hx : a.eval x = .slice (some ad) 1 c) (hl : news.length = 1 * size) (hnews : ∀ j u, news[j]? = some u → w.cell? (ad.add j) = some u) (h1 : ∀ u ∈ news, u.oneCell' = true)
    (h63 : (n : Int) + 1 ≤ 9000000000000000000) (hbytes : (n + 1 + (n + 1 + 768) / 4 + 512) * bytes ≤ 281474976710656) (hbase : base ≤ w.heap.size)
    (h : ∀ g cap w', w'.ownsRow base e size (.slice (some ⟨g, 0, none⟩) (n + 1) cap) (n + 1) (xs ++ news) → w.grownBy w' v.ownBlock → (v.ownBlock = some g ∨ g = w.heap.size) → K (a.put o.dst (.slice (some ⟨g, 0, none⟩) (n + 1) cap)) w') :
    if Region.wanted o (yielded ops a.tmps) = true then Oper.wp Try.prog o a w K Q else E := by
  have hw : Region.wanted o (yielded ops a.tmps) = true := by simp [Region.wanted, hgd]
  rw [if_pos hw]
  have hlx : xs.length = n * size := hown.1
  have hN : (xs ++ news).length = (n + 1) * size := by rw [List.length_append, hlx, hl, Nat.add_mul]
  have hmax : n + 1 ≤ maxLen := by unfold maxLen; omega
  rcases hown.2 with ⟨hv, h0⟩ | ⟨g, cap, cur, hv, hbg, hg, hnc, hcm, hcs, htk⟩
  · subst h0
    subst hv
    have ex : xs = [] := List.length_eq_zero_iff.1 (by rw [hlx, Nat.zero_mul])
    subst ex
    have hr := run_append_nil (P := Try.prog) w t o.type e i z ht hi hz ad 1 c news (by rw [hsize]; exact hl) hnews (by decide) (by decide) (by rw [hby]; have : 1 * bytes ≤ (0 + 1 + (0 + 1 + 768) / 4 + 512) * bytes := Nat.mul_le_mul_right _ (by decide); omega)
    obtain ⟨q1, q2⟩ := own_laidS w base e [] news z size hzs (0 + 1) (grownCap w 1 0 e) hN (by have := grownCap_ge w 1 0 e; omega) (grownCap_le_maxLen w 1 0 e (by unfold maxLen; omega)) hbase (Value.ownBlock (.slice none 0 0))
    unfold Oper.wp execOp
    simp only [ho, resolve, invoke, builtin, Sem.run_bind, Sem.run_pure, Result.andThen_ok, List.map_toArray, List.map_cons, List.map_nil, hs, hx, hr]
    simp only [Nat.zero_add, List.nil_append, Array.empty_append] at q1 q2 h
    exact h _ _ _ q1 q2 (.inr rfl)
  · by_cases hroom : n + 1 ≤ cap
    · subst hv
      obtain ⟨w', hrun, r1, r2⟩ := run_append_fits (P := Try.prog) w base t o.type e i size ht hi hsize g n cap xs hown ad 1 c news hl hnews h1 hroom
      unfold Oper.wp execOp
      simp only [ho, resolve, invoke, builtin, Sem.run_bind, Sem.run_pure, Result.andThen_ok, List.map_toArray, List.map_cons, List.map_nil, hs, hx, hrun]
      exact h _ _ w' r1 r2 (.inl rfl)
    · subst hv
      have hq := cap_quarter (need := n + 1) (old := cap) (by omega)
      have hr := run_append_grow (P := Try.prog) w t o.type e i z ht hi hz ⟨g, 0, none⟩ n cap xs (by rw [hsize]; exact hlx) (hown.cells (g := g) rfl) ad 1 c news (by rw [hsize]; exact hl) hnews (by omega) (by omega) (by rw [hby]; exact Nat.le_trans (Nat.mul_le_mul_right _ hq) hbytes)
      obtain ⟨q1, q2⟩ := own_laidS w base e xs news z size hzs (n + 1) (grownCap w (n + 1) cap e) hN (grownCap_ge w (n + 1) cap e) (grownCap_le_maxLen w (n + 1) cap e hmax) hbase (Value.ownBlock (.slice (some ⟨g, 0, none⟩) n cap))
      unfold Oper.wp execOp
      simp only [ho, resolve, invoke, builtin, Sem.run_bind, Sem.run_pure, Result.andThen_ok, List.map_toArray, List.map_cons, List.map_nil, hs, hx, hr]
      exact h _ _ _ q1 q2 (.inr rfl)
end Go.Proofs.Ytdmlehbamdcjcaa
