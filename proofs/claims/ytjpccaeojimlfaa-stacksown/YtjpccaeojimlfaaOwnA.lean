/-
  Appends that keep the list that is appended to.
-/
import Derived.Test.YtjpccaeojimlfaaLists
namespace Go.Proofs.Ytjpccaeojimlfaa
open Go.RowKit Go.Maps Go.Shelf
/-- 'append(v, news...)', v the call's own: the new list owns old and new cells; the old list still owns its own. -/
theorem append_keep (w : World) {ops : Array Oper} {rest : List Oper} {o : Oper} {a : Act} {Q : Exit → Act → World → Prop} (hgd : o.guard = none) (s x : Operand) (t e : TypeId)
    (ho : o.op = .call { callee := .builtin .append, args := #[s, x], argTypes := #[t, t] }) (base : Nat) (i0 : TypeInfo) (zr : Value) (bytes : Nat)
    (ht : Try.prog.underlying t = some (.slice e)) (hi : Try.prog.info? e = some i0) (hz0 : i0.zero = some zr) (hz1 : i0.size = 1) (hz2 : i0.bytes = bytes) (hzc : zr.cells.size = 1)
    (v : Value) (n : Nat) (xs : List Value) (hs : a.eval s = v) (hown : w.ownsRow base e 1 v n xs)
    (ad : Addr) (m c : Nat) (news : List Value) (hx : a.eval x = .slice (some ad) m c) (hl : news.length = m) (hnews : ∀ j u, news[j]? = some u → w.cell? (ad.add j) = some u) (h1 : ∀ u ∈ news, u.oneCell' = true)
    (hm : 0 < m) (hb0 : n + m ≤ maxLen) (hb : (n + m) * bytes ≤ 140737488355328) (hbase : base ≤ w.heap.size)
    (h : ∀ g cap w', w'.ownsRow base e 1 (.slice (some ⟨g, 0, none⟩) (n + m) cap) (n + m) (xs ++ news) → w'.ownsRow base e 1 v n xs → w.grownBy w' v.ownBlock → (v.ownBlock = some g ∨ w.heap.size ≤ g) → wpList Try.prog ops Q rest (a.put o.dst (.slice (some ⟨g, 0, none⟩) (n + m) cap)) w') : wpList Try.prog ops Q (o :: rest) a w := by
  have hown0 := hown
  have big : ∀ (ao : Option Addr) (cap : Nat), v = .slice ao n cap → (ao = none → n = 0 ∧ cap = 0) → (∀ b, ao = some b → ∀ j u, xs[j]? = some u → w.cell? (b.add j) = some u) → cap < n + m → wpList Try.prog ops Q (o :: rest) a w := by
    intro ao cap hv h0 hcells hfull
    refine wpList_append_grows w hgd s x t ho e i0 zr 1 bytes ht hi hz0 hz1 hz2 hzc (by decide) ao n cap xs (hs.trans hv) h0 (by simpa using hown.1) hcells ad m c news hx (by simpa using hl) hnews h1 hfull hb0 hb ?_
    intro v' w' hn hg
    have hf : ∃ g' cap', v' = .slice (some ⟨g', 0, none⟩) (n + m) cap' ∧ w.heap.size ≤ g' := by
      rcases hn.2 with ⟨_, h0⟩ | ⟨g', cap', cur, hv', hb', _⟩
      · omega
      · exact ⟨g', cap', hv', hb'⟩
    obtain ⟨g', cap', rfl, hge⟩ := hf
    refine h g' cap' w' (own_mono hn hbase) (hown0.kept hg (by cases v.ownBlock <;> simp)) ⟨hg.os, hg.tape, hg.output, hg.size, fun k hk _ => hg.block k hk (by simp)⟩ (.inr hge)
  rcases hown.2 with ⟨hv, h0⟩ | ⟨g, cap, cur, hv, hbg, hg, hnc, hcm, hcs, htk⟩
  · subst h0
    exact big none 0 hv (fun _ => ⟨rfl, rfl⟩) (fun b hb => by cases hb) (by omega)
  · by_cases hroom : n + m ≤ cap
    · rw [hv] at hs hown
      refine wpList_append_fits w hgd s x t ho base e i0 1 ht hi hz1 g n cap xs hs hown ad m c news hx (by simpa using hl) hnews h1 hroom ?_
      intro w' hn hgr
      rw [← show v.ownBlock = some g by rw [hv]; rfl] at hgr
      refine h g cap w' hn ?_ hgr (.inl (by rw [hv]; rfl))
      rw [hv]
      exact own_take hn (by simpa using hown.1)
    · exact big (some ⟨g, 0, none⟩) cap hv (fun h => by cases h) (fun b hb => by cases hb; exact hown.cells (by rw [hv]; rfl)) (by omega)
theorem own_caps {w : World} {b b' g n m c c' : Nat} {e : TypeId} {xs ys : List Value} (h : w.ownsRow b e 1 (.slice (some ⟨g, 0, none⟩) n c) n xs) (k : w.ownsRow b' e 1 (.slice (some ⟨g, 0, none⟩) m c') m ys) : c = c' := by
  rcases h.2 with ⟨hv, _⟩ | ⟨g1, c1, cur1, hv, _, hh, _, _, hs, _⟩
  · cases hv
  · cases hv
    rcases k.2 with ⟨hv, _⟩ | ⟨g2, c2, cur2, hv, _, hh2, _, _, hs2, _⟩
    · cases hv
    · cases hv
      rw [hh] at hh2
      simp at hh2
      subst hh2
      omega
/-- A list that is appended to again and again, and the one that it came from. -/
structure Gon (w0 wr : World) (B : Nat) (e : TypeId) (xv : Value) (n : Nat) (xs : List Value) (g cap q : Nat) (ys : List Value) : Prop where
  old : wr.ownsRow B e 1 xv n xs
  new : wr.ownsRow B e 1 (.slice (some ⟨g, 0, none⟩) (n + q) cap) (n + q) (xs ++ ys)
  loc : xv.ownBlock = some g ∨ w0.heap.size ≤ g
  but : But (fun k => xv.ownBlock = some k) w0 wr
theorem Gon.step {w0 wr w' : World} {B : Nat} {e : TypeId} {xv : Value} {n : Nat} {xs : List Value} {g cap q : Nat} {ys : List Value} (h : Gon w0 wr B e xv n xs g cap q ys) {g' cap' m : Nat} {news : List Value} {o : Obj}
    (hn : w'.ownsRow B e 1 (.slice (some ⟨g', 0, none⟩) (n + q + m) cap') (n + q + m) (xs ++ ys ++ news)) (hk : w'.ownsRow B e 1 (.slice (some ⟨g, 0, none⟩) (n + q) cap) (n + q) (xs ++ ys))
    (hg : (wr.alloc o).grownBy w' (Value.slice (some ⟨g, 0, none⟩) (n + q) cap).ownBlock) (hl : (Value.slice (some ⟨g, 0, none⟩) (n + q) cap).ownBlock = some g' ∨ (wr.alloc o).heap.size ≤ g') : Gon w0 w' B e xv n xs g' cap' (q + m) (ys ++ news) := by
  have hb : But (fun k => k = g) wr w' := ((But.refl _ wr).alloc o).grown hg (fun k _ e => by simpa [Value.ownBlock] using e.symm)
  have hs := h.but.size
  have hxl : xs.length = n := by have := h.old.1; simpa using this
  refine ⟨?_, by rw [← Nat.add_assoc, ← List.append_assoc]; exact hn, ?_, ?_⟩
  · by_cases e1 : xv.ownBlock = some g
    · obtain ⟨ax, cx, hxv⟩ := own_form h.old
      have hax : ax = some ⟨g, 0, none⟩ := by
        rcases h.old.2 with ⟨e2, _⟩ | ⟨g2, c2, cur, e2, _⟩
        · rw [e2] at e1; simp [Value.ownBlock] at e1
        · rw [e2] at e1; simp [Value.ownBlock] at e1
          rw [hxv] at e2; cases e2; rw [e1]
      rw [hax] at hxv
      have ho := h.old
      rw [hxv] at ho ⊢
      have ec := own_caps ho h.new
      rw [ec]
      exact own_take hk hxl
    · exact own_but h.old hb (fun k hk e2 => e1 (by rw [hk, e2]))
  · rcases hl with e1 | e1
    · have : g = g' := by simpa [Value.ownBlock] using e1
      subst this
      exact h.loc
    · right
      simp at e1
      omega
  · refine h.but.trans hb (fun i hi e1 => ?_)
    rcases h.loc with e2 | e2
    · rw [e2, e1]
    · omega
theorem Gon.start {w0 w1 : World} {B : Nat} {e : TypeId} {xv : Value} {n : Nat} {xs : List Value} {g cap m : Nat} {news : List Value} {o : Obj}
    (hn : w1.ownsRow B e 1 (.slice (some ⟨g, 0, none⟩) (n + m) cap) (n + m) (xs ++ news)) (hk : w1.ownsRow B e 1 xv n xs)
    (hg : (w0.alloc o).grownBy w1 xv.ownBlock) (hl : xv.ownBlock = some g ∨ (w0.alloc o).heap.size ≤ g) : Gon w0 w1 B e xv n xs g cap m news :=
  ⟨hk, hn, hl.imp id (fun e => by simp at e; omega), ((But.refl _ w0).alloc o).grown hg (fun k _ e => e)⟩
/-- 'append(m, b0, b1)'. -/
theorem append_two (w : World) (z0 z1 : Int) {ops : Array Oper} {rest : List Oper} {o : Oper} {a : Act} {Q : Exit → Act → World → Prop} (hgd : o.guard = none) (s x : Operand)
    (ho : o.op = .call { callee := .builtin .append, args := #[s, x], argTypes := #[46, 46] }) (base : Nat)
    (v : Value) (n : Nat) (xs : List Int) (hs : a.eval s = v) (hown : w.ownsRow base 5 1 v n (xs.map (Value.int .u8))) (hx : a.eval x = .slice (some ⟨w.heap.size, 0, none⟩) 2 2)
    (hb : (n : Int) ≤ 4294967296) (hbase : base ≤ w.heap.size)
    (h : ∀ g cap w', w'.ownsRow base 5 1 (.slice (some ⟨g, 0, none⟩) (n + 2) cap) (n + 2) (xs.map (Value.int .u8) ++ [.int .u8 z0, .int .u8 z1]) → w'.ownsRow base 5 1 v n (xs.map (Value.int .u8)) → (w.alloc (.cells #[.int .u8 z0, .int .u8 z1] 5)).grownBy w' v.ownBlock → (v.ownBlock = some g ∨ (w.alloc (.cells #[.int .u8 z0, .int .u8 z1] 5)).heap.size ≤ g) → wpList Try.prog ops Q rest (a.put o.dst (.slice (some ⟨g, 0, none⟩) (n + 2) cap)) w') :
    wpList Try.prog ops Q (o :: rest) a (w.alloc (.cells #[.int .u8 z0, .int .u8 z1] 5)) := by
  obtain ⟨i0, hi, hz0, hz1, hz2⟩ := info_parts Try.info5
  have hr := heap_alloc_new w (.cells #[.int .u8 z0, .int .u8 z1] 5)
  refine append_keep _ hgd s x 46 5 ho base i0 (.int .u8 0) 1 Try.underlying46 hi hz0 hz1 hz2 rfl v n _ hs (hown.alloc _) ⟨w.heap.size, 0, none⟩ 2 2 [.int .u8 z0, .int .u8 z1] hx rfl
    (by intro j u hu
        match j, hu with
        | 0, hu => simp at hu; subst hu; rw [show (⟨w.heap.size, 0, none⟩ : Addr).add 0 = ⟨w.heap.size, 0, none⟩ from rfl, cell_of_row _ _ 0 _ 5 (0, 0) hr]; rfl
        | 1, hu => simp at hu; subst hu; rw [show (⟨w.heap.size, 0, none⟩ : Addr).add 1 = ⟨w.heap.size, 1, none⟩ from rfl, cell_of_row _ _ 1 _ 5 (0, 0) hr]; rfl)
    (by intro u hu; simp at hu; rcases hu with rfl | rfl <;> rfl) (by decide) (by unfold maxLen; omega) (by omega) (Nat.le_trans hbase (by simp)) h
/-- 'append(c, "m")'. -/
theorem append_m (w : World) (z : ByteArray) {ops : Array Oper} {rest : List Oper} {o : Oper} {a : Act} {Q : Exit → Act → World → Prop} (hgd : o.guard = none) (s x : Operand)
    (ho : o.op = .call { callee := .builtin .append, args := #[s, x], argTypes := #[28, 28] }) (base : Nat)
    (v : Value) (n : Nat) (xs : List Value) (hs : a.eval s = v) (hown : w.ownsRow base 9 1 v n xs) (hx : a.eval x = .slice (some ⟨w.heap.size, 0, none⟩) 1 1)
    (hb : (n : Int) ≤ 4294967296) (hbase : base ≤ w.heap.size)
    (h : ∀ g cap w', w'.ownsRow base 9 1 (.slice (some ⟨g, 0, none⟩) (n + 1) cap) (n + 1) (xs ++ [.string z]) → w'.ownsRow base 9 1 v n xs → (w.alloc (.cells #[.string z] 9)).grownBy w' v.ownBlock → (v.ownBlock = some g ∨ (w.alloc (.cells #[.string z] 9)).heap.size ≤ g) → wpList Try.prog ops Q rest (a.put o.dst (.slice (some ⟨g, 0, none⟩) (n + 1) cap)) w') :
    wpList Try.prog ops Q (o :: rest) a (w.alloc (.cells #[.string z] 9)) := by
  obtain ⟨i0, hi, hz0, hz1, hz2⟩ := info_parts Try.info9
  refine append_keep _ hgd s x 28 9 ho base i0 (.string ⟨#[]⟩) 16 Try.underlying28 hi hz0 hz1 hz2 rfl v n _ hs (hown.alloc _) ⟨w.heap.size, 0, none⟩ 1 1 [.string z] hx rfl
    (by intro j u hu
        match j, hu with
        | 0, hu => simp at hu; subst hu; exact cell_new _ _ _)
    (by intro u hu; simp at hu; subst hu; rfl) (by decide) (by unfold maxLen; omega) (by omega) (Nat.le_trans hbase (by simp)) h
end Go.Proofs.Ytjpccaeojimlfaa
