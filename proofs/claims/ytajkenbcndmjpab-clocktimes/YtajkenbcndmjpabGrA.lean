/-
  Lists of clocks' entries told apart by labels; appends that keep the lists that they come from.
-/
import Derived.Test.YtajkenbcndmjpabClX
namespace Go.Proofs.Ytajkenbcndmjpab
open Go.RowKit
/-- A slice. -/
structure Sl where
  a : Option Addr
  n : Nat
  c : Nat
abbrev Sl.val (s : Sl) : Value := .slice s.a s.n s.c
def layS : Lay Sl := ⟨fun s => [.slice s.a s.n s.c], 1, by decide, fun _ => rfl, by intro a u hu; simp at hu; subst hu; rfl⟩
theorem Try.infoS : (Try.prog.info? 22).map (fun i => (i.zero, i.size, i.bytes)) = some (some (.slice .none 0 0), 1, 24) := by kernel_rfl
abbrev OwnT (w : World) (b : Nat) (v : Value) (L : List Tk) : Prop := Own layT 43 w b v L
/-- Several lists; those of unlike labels are in unlike blocks. -/
structure Fm (w : World) (b : Nat) (Φ : Value → List Tk → Nat → Prop) : Prop where
  own : ∀ v L l, Φ v L l → OwnT w b v L
  ap : ∀ v L l v' L' l', Φ v L l → Φ v' L' l' → l ≠ l' → ∀ q, v.ownBlock = some q → v'.ownBlock ≠ some q
theorem Fm.mono {w : World} {b : Nat} {Φ Ψ : Value → List Tk → Nat → Prop} (h : Fm w b Φ) (hs : ∀ v L l, Ψ v L l → Φ v L l) : Fm w b Ψ :=
  ⟨fun v L l h1 => h.own v L l (hs v L l h1), fun v L l v' L' l' h1 h2 hn => h.ap v L l v' L' l' (hs _ _ _ h1) (hs _ _ _ h2) hn⟩
theorem Fm.below {w w' : World} {b : Nat} {Φ : Value → List Tk → Nat → Prop} (h : Fm w b Φ) (hb : Below w.heap.size w w') : Fm w' b Φ :=
  ⟨fun v L l h1 => (h.own v L l h1).below hb, h.ap⟩
theorem Fm.but {w w' : World} {b : Nat} {S : Nat → Prop} {Φ : Value → List Tk → Nat → Prop} (h : Fm w b Φ) (hb : But S w w') (hS : ∀ v L l, Φ v L l → ∀ q, v.ownBlock = some q → ¬ S q) : Fm w' b Φ :=
  ⟨fun v L l h1 => (h.own v L l h1).but hb (hS v L l h1), h.ap⟩
/-- What lies in blocks of another type. -/
theorem Fm.past {β : Type} {z : Lay β} {t : TypeId} {w w' : World} {b b2 : Nat} {u : Value} {C : List β} {Φ : Value → List Tk → Nat → Prop} (h : Fm w b Φ) (ho : Own z t w b2 u C) (hb : But (fun q => u.ownBlock = some q) w w') (ht : 43 ≠ t) : Fm w' b Φ :=
  h.but hb (fun v L l h1 q hq e => by
    obtain ⟨c1, h2⟩ := own_ty (h.own v L l h1) hq
    obtain ⟨c2, h3⟩ := own_ty ho e
    rw [h2] at h3
    simp at h3
    exact ht h3.2)
/-- A new one. -/
theorem Fm.add {w w' : World} {b : Nat} {Φ : Value → List Tk → Nat → Prop} (h : Fm w b Φ) (hb : Below w.heap.size w w') {v0 : Value} {L0 : List Tk} (l0 : Nat) (ho : OwnT w' w.heap.size v0 L0) (hB : b ≤ w.heap.size) : Fm w' b (fun v L l => Φ v L l ∨ (v = v0 ∧ L = L0 ∧ l = l0)) := by
  refine ⟨fun v L l h1 => ?_, fun v L l v' L' l' h1 h2 hn q hq e => ?_⟩
  · rcases h1 with h1 | ⟨rfl, rfl, rfl⟩
    · exact (h.own v L l h1).below hb
    · exact ho.mono hB
  · rcases h1 with h1 | ⟨rfl, rfl, rfl⟩
    · rcases h2 with h2 | ⟨rfl, rfl, rfl⟩
      · exact h.ap v L l v' L' l' h1 h2 hn q hq e
      · have g1 := ((h.own v L l h1).lt q hq).2
        have g2 := (ho.lt q e).1
        omega
    · rcases h2 with h2 | ⟨rfl, rfl, rfl⟩
      · have g1 := ((h.own v' L' l' h2).lt q e).2
        have g2 := (ho.lt q hq).1
        omega
      · exact hn rfl
/-- A list in the block of a longer one stays where the longer one stays. -/
theorem own_keep {w w' : World} {b : Nat} {v u : Value} {L M : List Tk} {q : Nat} (h : OwnT w b v L) (k : OwnT w b u M) (hv : v.ownBlock = some q) (hu : u.ownBlock = some q) (hl : L.length ≤ M.length) (k' : OwnT w' b u M) : OwnT w' b v L := by
  unfold OwnT Own at h k k' ⊢
  have hz : layT.z = 2 := rfl
  rw [hz] at h k k' ⊢
  obtain ⟨h1, h2⟩ := h
  obtain ⟨k1, k2⟩ := k
  obtain ⟨_, k4⟩ := k'
  refine ⟨h1, .inr ?_⟩
  rcases h2 with ⟨rfl, _⟩ | ⟨g, c, cur, rfl, hb, hh, hc, hm, hs, ht⟩
  · simp [Value.ownBlock] at hv
  · have e1 : g = q := by simpa [Value.ownBlock] using hv
    subst e1
    rcases k2 with ⟨rfl, _⟩ | ⟨g2, c2, cur2, rfl, hb2, hh2, hc2, hm2, hs2, ht2⟩
    · simp [Value.ownBlock] at hu
    · have e2 : g2 = g := by simpa [Value.ownBlock] using hu
      subst e2
      rw [hh] at hh2
      simp at hh2
      subst hh2
      rcases k4 with ⟨e, _⟩ | ⟨g3, c3, cur3, e3, hb3, hh3, hc3, hm3, hs3, ht3⟩
      · cases e
      · cases e3
        refine ⟨g2, c, cur3, rfl, hb, hh3, hc, hm, by omega, ?_⟩
        have q1 : cur3.toList.take (L.length * 2) = (cur3.toList.take (M.length * 2)).take (L.length * 2) := by rw [List.take_take]; congr 1; omega
        have q2 : cur.toList.take (L.length * 2) = (cur.toList.take (M.length * 2)).take (L.length * 2) := by rw [List.take_take]; congr 1; omega
        rw [q1, ht3, ← ht2, ← q2, ht]
/-- One of them is gone on with, and kept. -/
theorem Fm.grow {w w' : World} {b : Nat} {Φ : Value → List Tk → Nat → Prop} (h : Fm w b Φ) {v0 v1 : Value} {L0 L1 : List Tk} {l0 : Nat} (h0 : Φ v0 L0 l0) (ho : OwnT w' b v1 L1) (hk : OwnT w' b v0 L0) (hm : ∀ v L, Φ v L l0 → L.length ≤ L0.length) (hb : But (fun q => v0.ownBlock = some q) w w') (hv : ∀ q, v1.ownBlock = some q → v0.ownBlock = some q ∨ w.heap.size ≤ q) :
    Fm w' b (fun v L l => Φ v L l ∨ (v = v1 ∧ L = L1 ∧ l = l0)) := by
  refine ⟨fun v L l h1 => ?_, fun v L l v' L' l' h1 h2 hn q hq e => ?_⟩
  · rcases h1 with h1 | ⟨rfl, rfl, rfl⟩
    · by_cases hl : l = l0
      · subst hl
        by_cases hbq : ∃ q, v.ownBlock = some q ∧ v0.ownBlock = some q
        · obtain ⟨q, q1, q2⟩ := hbq
          exact own_keep (h.own v L l h1) (h.own v0 L0 l h0) q1 q2 (hm v L h1) hk
        · exact (h.own v L l h1).but hb (fun q hq e => hbq ⟨q, hq, e⟩)
      · exact (h.own v L l h1).but hb (fun q hq e => h.ap v L l v0 L0 l0 h1 h0 hl q hq e)
    · exact ho
  · rcases h1 with h1 | ⟨rfl, rfl, rfl⟩
    · rcases h2 with h2 | ⟨rfl, rfl, rfl⟩
      · exact h.ap v L l v' L' l' h1 h2 hn q hq e
      · rcases hv q e with g | g
        · exact h.ap v L l v0 L0 l' h1 h0 hn q hq g
        · have := ((h.own v L l h1).lt q hq).2
          omega
    · rcases h2 with h2 | ⟨rfl, rfl, rfl⟩
      · rcases hv q hq with g | g
        · exact h.ap v' L' l' v0 L0 l h2 h0 (fun e9 => hn e9.symm) q e g
        · have := ((h.own v' L' l' h2).lt q e).2
          omega
      · exact hn rfl
theorem own_front {w : World} {base n m g c : Nat} {e : TypeId} {size : Nat} {xs ys : List Value} (h : w.ownsRow base e size (.slice (some ⟨g, 0, none⟩) (n + m) c) (n + m) (xs ++ ys)) (hl : xs.length = n * size) : w.ownsRow base e size (.slice (some ⟨g, 0, none⟩) n c) n xs := by
  have := own_cut h (Nat.le_add_right n m)
  rw [← hl, List.take_left] at this
  exact this
/-- 'append(l, m...)', l the call's own and kept, m not empty. -/
theorem append_layK {α : Type} (y : Lay α) (w : World) {ops : Array Oper} {rest : List Oper} {o : Oper} {a : Act} {Q : Exit → Act → World → Prop} (t e : TypeId) (i0 : TypeInfo) (z : Value) (bytes : Nat)
    (hu : Try.prog.underlying t = some (.slice e)) (hi : Try.prog.info? e = some i0) (hz0 : i0.zero = some z) (hz1 : i0.size = y.z) (hz2 : i0.bytes = bytes) (hzs : z.cells.size = y.z)
    (hgd : o.guard = none) (s x : Operand) (ho : o.op = .call { callee := .builtin .append, args := #[s, x], argTypes := #[t, t] }) (base : Nat)
    (v : Value) (L : List α) (hs : a.eval s = v) (hown : Own y e w base v L)
    (ad : Addr) (m c : Nat) (M : List α) (hx : a.eval x = .slice (some ad) m c) (hr : TRow y w (some ad) m M) (hm0 : 0 < m)
    (hm : L.length + m ≤ maxLen) (hb : (L.length + m) * bytes ≤ 140737488355328) (hbase : base ≤ w.heap.size)
    (h : ∀ g cap w', Own y e w' base (.slice (some ⟨g, 0, none⟩) (L.length + m) cap) (L ++ M) → Own y e w' base v L → w.grownBy w' v.ownBlock → (v.ownBlock = some g ∨ w.heap.size ≤ g) → L.length + m ≤ cap → wpList Try.prog ops Q rest (a.put o.dst (.slice (some ⟨g, 0, none⟩) (L.length + m) cap)) w') : wpList Try.prog ops Q (o :: rest) a w := by
  have hown0 : w.ownsRow base e y.z v L.length (y.fl L) := hown
  have hlM : (y.fl M).length = m * y.z := by rw [y.fl_len, hr.len]
  have toO : ∀ {w' : World} {g cap : Nat}, w'.ownsRow base e y.z (.slice (some ⟨g, 0, none⟩) (L.length + m) cap) (L.length + m) (y.fl L ++ y.fl M) → Own y e w' base (.slice (some ⟨g, 0, none⟩) (L.length + m) cap) (L ++ M) := fun h9 => by
    unfold Own
    rw [List.length_append, hr.len, y.fl_app]
    exact h9
  have big : ∀ (ao : Option Addr) (cap : Nat), v = .slice ao L.length cap → (ao = none → L.length = 0 ∧ cap = 0) → (∀ b, ao = some b → ∀ j u, (y.fl L)[j]? = some u → w.cell? (b.add j) = some u) → cap < L.length + m → wpList Try.prog ops Q (o :: rest) a w := by
    intro ao cap hv h0 hcells hfull
    refine wpList_append_grows w hgd s x t ho e i0 z y.z bytes hu hi hz0 hz1 hz2 hzs y.pos ao L.length cap (y.fl L) (hs.trans hv) h0 (y.fl_len L) hcells ad m c (y.fl M) hx hlM hr.news (y.fl_cell M) hfull hm hb ?_
    intro v' w' hn hg
    have hf : ∃ g' cap', v' = .slice (some ⟨g', 0, none⟩) (L.length + m) cap' ∧ w.heap.size ≤ g' ∧ L.length + m ≤ cap' := by
      rcases hn.2 with ⟨_, h0⟩ | ⟨g', cap', cur, hv', hb', _, hc', _⟩
      · omega
      · exact ⟨g', cap', hv', hb', hc'⟩
    obtain ⟨g', cap', rfl, hge, hce⟩ := hf
    exact h g' cap' w' (toO (own_mono hn hbase)) (hown0.kept hg (by cases v.ownBlock <;> simp)) ⟨hg.os, hg.tape, hg.output, hg.size, fun k hk _ => hg.block k hk (by simp)⟩ (.inr hge) hce
  rcases hown0.2 with ⟨hv, h0⟩ | ⟨g, cap, cur, hv, hbg, hg, hnc, hcm, hcs, htk⟩
  · rw [← h0] at hv
    exact big none 0 (by rw [h0] at hv ⊢; exact hv) (fun _ => ⟨h0, rfl⟩) (fun b hb => by cases hb) (by omega)
  · by_cases hroom : L.length + m ≤ cap
    · rw [hv] at hs
      have hown1 := hown0
      rw [hv] at hown1
      refine wpList_append_fits w hgd s x t ho base e i0 y.z hu hi hz1 g L.length cap (y.fl L) hs hown1 ad m c (y.fl M) hx hlM hr.news (y.fl_cell M) hroom ?_
      intro w' hn hgr
      rw [← show v.ownBlock = some g by rw [hv]; rfl] at hgr
      refine h g cap w' (toO hn) ?_ hgr (.inl (by rw [hv]; rfl)) hroom
      rw [hv]
      exact own_front hn (y.fl_len L)
    · exact big (some ⟨g, 0, none⟩) cap hv (fun h => by cases h) (fun b hb => by cases hb; exact hown0.cells (by rw [hv]; rfl)) (by omega)
end Go.Proofs.Ytajkenbcndmjpab
