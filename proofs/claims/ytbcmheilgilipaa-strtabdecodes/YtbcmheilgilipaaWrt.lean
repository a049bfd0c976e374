/-
  Records put into bodies: chunk.Write.
-/
import Derived.Test.YtbcmheilgilipaaLists
import Derived.Test.YtbcmheilgilipaaAid
namespace Go.Proofs.Ytbcmheilgilipaa
open Go.RowKit Go.Maps
/-- 'append(b, c...)', b the call's own; where it lies then. -/
theorem append_rowB (w : World) {ops : Array Oper} {rest : List Oper} {o : Oper} {a : Act} {Q : Exit → Act → World → Prop} (hgd : o.guard = none) (s x : Operand)
    (ho : o.op = .call { callee := .builtin .append, args := #[s, x], argTypes := #[31, 31] }) (base : Nat)
    (v : Value) (n : Nat) (xs : List Int) (hs : a.eval s = v) (hown : w.ownsRow base 5 1 v n (xs.map (Value.int .u8)))
    (ra : Option Addr) (m c : Nat) (zs : List Int) (hx : a.eval x = .slice ra m c) (hr : Row w ra m zs) (h0 : ra = none → m = 0 ∧ c = 0)
    (hb : n + m ≤ 140737488355328) (hbase : base ≤ w.heap.size)
    (h : ∀ (a' : Option Addr) (c' : Nat) w', w'.ownsRow base 5 1 (.slice a' (n + m) c') (n + m) ((xs ++ zs).map (Value.int .u8)) → w.grownBy w' v.ownBlock → ((Value.slice a' (n + m) c').ownBlock = v.ownBlock ∨ (Value.slice a' (n + m) c').ownBlock = some w.heap.size) → wpList Try.prog ops Q rest (a.put o.dst (.slice a' (n + m) c')) w') : wpList Try.prog ops Q (o :: rest) a w := by
  obtain ⟨i0, hi, hz0, hz1, hz2⟩ := info_parts Try.info5
  cases ra with
  | none =>
    obtain ⟨rfl, rfl⟩ := h0 rfl
    have e1 := List.length_eq_zero_iff.1 hr.len
    subst e1
    obtain ⟨a', c', rfl⟩ := own_form hown
    refine wpList_append_own_none hgd s x 31 ho base 5 i0 1 Try.underlying31 hi _ n _ hs hown hx (h a' c' w (by simpa using hown) (World.grownBy.refl w _) (.inl rfl))
  | some ad =>
    refine wpList_append_own_at w hgd s x 31 ho base 5 i0 (.int .u8 0) 1 1 Try.underlying31 hi hz0 hz1 hz2 rfl (by decide) v n _ hs hown ad m c (zs.map (Value.int .u8)) hx (by have := hr.len; simpa using this) (row_cells hr) (ints_oneCell _ _) (by unfold maxLen; omega) (by omega) hbase ?_
    intro v' w' h1 h2 _ h4
    obtain ⟨a', c', rfl⟩ := own_form h1
    exact h a' c' w' (by rw [List.map_append]; exact h1) h2 h4
/-- The last list goes on. -/
theorem Lists.last {w w2 : World} {base G cv : Nat} {bs : List (List Int)} {vals : List Value} {b r : List Int} {x : Value} {a' : Option Addr} {c' : Nat} (h : Lists w base (.slice (some ⟨G, 0, none⟩) (bs.length + 1) cv) (bs ++ [b]) (vals ++ [x]))
    (o2 : w2.ownsRow base 5 1 (.slice a' (b.length + r.length) c') (b.length + r.length) ((b ++ r).map (Value.int .u8))) (g2 : w.grownBy w2 x.ownBlock) (hloc : (Value.slice a' (b.length + r.length) c').ownBlock = x.ownBlock ∨ (Value.slice a' (b.length + r.length) c').ownBlock = some w.heap.size)
    (hu : ∀ z ∈ r, 0 ≤ z ∧ z ≤ 255) :
    Lists (w2.setCell ⟨G, bs.length, none⟩ (.slice a' (b.length + r.length) c')) base (.slice (some ⟨G, 0, none⟩) (bs.length + 1) cv) (bs ++ [b ++ r]) (vals ++ [.slice a' (b.length + r.length) c']) := by
  have hl := h.len
  have hvl : vals.length = bs.length := by simpa using hl
  obtain ⟨ax, cx, hx1, hx2⟩ := h.each bs.length b (by simp)
  have hxe : x = .slice ax b.length cx := by
    rw [← hvl] at hx1; simpa using hx1
  have hrow : w.ownsRow base 31 1 (.slice (some ⟨G, 0, none⟩) (bs.length + 1) cv) (bs.length + 1) (vals ++ [x]) := by have := h.own; simpa using this
  have k2 : But (fun k => x.ownBlock = some k) w w2 := But.of_grown g2 (fun k e => e)
  have hGx : ¬ x.ownBlock = some G := by
    intro e; rw [hxe] at e
    exact own_types hx2 hrow (by decide) G e rfl
  have hG2 : w2.ownsRow base 31 1 (.slice (some ⟨G, 0, none⟩) (bs.length + 1) cv) (bs.length + 1) (vals ++ [x]) := own_but hrow k2 (by intro g e; cases e; exact hGx)
  have hGlt : G < w.heap.size := own_lt hrow G rfl
  have hnG : (Value.slice a' (b.length + r.length) c').ownBlock ≠ some G := by
    rcases hloc with e | e
    · rw [e]; exact hGx
    · rw [e]; intro e'; cases e'; omega
  have hst := (hG2.stored bs.length (.slice a' (b.length + r.length) c')).1
  have hset : (vals ++ [x]).set bs.length (.slice a' (b.length + r.length) c') = vals ++ [.slice a' (b.length + r.length) c'] := by
    rw [← hvl]; simp
  rw [hset] at hst
  have hlenS : (bs ++ [b ++ r]).length = bs.length + 1 := by simp
  refine ⟨by rw [hlenS]; exact hst, fun i b' hi => ?_, ?_, ?_⟩
  · by_cases hlt : i < bs.length
    · rw [List.getElem?_append_left hlt] at hi
      obtain ⟨ai, ci, e1, e2⟩ := h.each i b' (by rw [List.getElem?_append_left hlt]; exact hi)
      rw [List.getElem?_append_left (by omega)] at e1
      refine ⟨ai, ci, by rw [List.getElem?_append_left (by omega)]; exact e1, ?_⟩
      refine ownsRow_setCell_other (own_but e2 k2 ?_) (fun e => own_types e2 hrow (by decide) G e rfl) _
      intro g eg ex
      exact h.far (i := i) (j := bs.length) (x := .slice ai b'.length ci) (y := x) (by rw [List.getElem?_append_left (by omega)]; exact e1) (by rw [← hvl]; simp) (by omega) g eg ex
    · have hi2 := (List.getElem?_eq_some_iff.1 hi).1
      simp at hi2
      have e0 : i = bs.length := by omega
      subst e0
      simp at hi
      subst hi
      refine ⟨a', c', by rw [← hvl]; simp, ?_⟩
      rw [List.length_append]
      exact ownsRow_setCell_other o2 hnG _
  · have hap := List.pairwise_append.1 h.apart
    refine List.pairwise_append.2 ⟨hap.1, List.pairwise_singleton _ _, fun y hy z hz g eg ez => ?_⟩
    simp at hz
    subst hz
    rcases hloc with e | e
    · rw [e] at ez; exact hap.2.2 y hy x (by simp) g eg ez
    · rw [e] at ez; cases ez
      obtain ⟨b', _, a1, c1, rfl, ho⟩ := h.row (x := y) (by simp [hy])
      have := own_lt ho _ eg
      omega
  · intro b' hb'
    rcases List.mem_append.1 hb' with e | e
    · exact h.u8 b' (by simp [e])
    · simp at e; subst e
      intro z hz
      rcases List.mem_append.1 hz with e | e
      · exact h.u8 b (by simp) z e
      · exact hu z e
/-! ### the bodies -/
def stepW (lim : Nat) (rc : Nat → List Int) (acc : List (List Int)) (id : Nat) : List (List Int) :=
  match acc.getLast? with
  | none => acc ++ [enc id ++ rc id]
  | some b => if b.length + (rc id).length ≤ lim then acc.dropLast ++ [b ++ rc id] else acc ++ [enc id ++ rc id]
def bodiesW (lim : Nat) (rc : Nat → List Int) (first n : Nat) : List (List Int) := (List.range' first n).foldl (stepW lim rc) []
theorem bodiesW_succ (lim : Nat) (rc : Nat → List Int) (first n : Nat) : bodiesW lim rc first (n + 1) = stepW lim rc (bodiesW lim rc first n) (first + n) := by
  unfold bodiesW; rw [List.range'_concat]; simp
theorem stepW_nil (lim : Nat) (rc : Nat → List Int) (id : Nat) : stepW lim rc [] id = [enc id ++ rc id] := rfl
theorem stepW_snoc (lim : Nat) (rc : Nat → List Int) (bs : List (List Int)) (b : List Int) (id : Nat) : stepW lim rc (bs ++ [b]) id = if b.length + (rc id).length ≤ lim then bs ++ [b ++ rc id] else (bs ++ [b]) ++ [enc id ++ rc id] := by
  unfold stepW; simp
theorem list_snoc {α : Type} (l : List α) : l = [] ∨ ∃ l' x, l = l' ++ [x] := by
  rcases List.eq_nil_or_concat l with h | ⟨l', x, h⟩
  · exact .inl h
  · exact .inr ⟨l', x, by rw [h]; simp⟩
structure Wok (lim : Nat) (bs : List (List Int)) (k : Nat) : Prop where
  len : bs.length ≤ k
  each : ∀ b ∈ bs, b.length ≤ lim + 80000
  u8 : ∀ b ∈ bs, ∀ z ∈ b, 0 ≤ z ∧ z ≤ 255
theorem Wok.step {lim : Nat} {rc : Nat → List Int} {bs : List (List Int)} {k id : Nat} (h : Wok lim bs k) (hid : id < 18446744073709551616) (hr : (rc id).length ≤ 70000) (hu : ∀ z ∈ rc id, 0 ≤ z ∧ z ≤ 255) : Wok lim (stepW lim rc bs id) (k + 1) := by
  have hel := enc_le id hid
  have hnew : (enc id ++ rc id).length ≤ lim + 80000 := by rw [List.length_append]; omega
  have hnu : ∀ z ∈ enc id ++ rc id, 0 ≤ z ∧ z ≤ 255 := by
    intro z hz
    rcases List.mem_append.1 hz with e | e
    · exact enc_mem id z e
    · exact hu z e
  have hl := h.len
  rcases list_snoc bs with rfl | ⟨bs, b, rfl⟩
  · rw [stepW_nil]
    exact ⟨by simp, by intro b hb; simp only [List.mem_singleton] at hb; rw [hb]; exact hnew, by intro b hb; simp only [List.mem_singleton] at hb; rw [hb]; exact hnu⟩
  · rw [stepW_snoc]
    split
    · rename_i hle
      refine ⟨by simp at hl ⊢; omega, fun b' hb' => ?_, fun b' hb' => ?_⟩
      · rcases List.mem_append.1 hb' with e | e
        · exact h.each b' (by simp [e])
        · simp only [List.mem_singleton] at e; rw [e, List.length_append]; omega
      · rcases List.mem_append.1 hb' with e | e
        · exact h.u8 b' (by simp [e])
        · simp only [List.mem_singleton] at e; rw [e]
          intro z hz
          rcases List.mem_append.1 hz with e | e
          · exact h.u8 b (by simp) z e
          · exact hu z e
    · refine ⟨by simp at hl ⊢; omega, fun b' hb' => ?_, fun b' hb' => ?_⟩
      · rcases List.mem_append.1 hb' with e | e
        · exact h.each b' e
        · simp only [List.mem_singleton] at e; rw [e]; exact hnew
      · rcases List.mem_append.1 hb' with e | e
        · exact h.u8 b' e
        · simp only [List.mem_singleton] at e; rw [e]; exact hnu
theorem bodiesW_ok {lim : Nat} {rc : Nat → List Int} {first n : Nat} (hr : ∀ id, first ≤ id → id < first + n → (rc id).length ≤ 70000 ∧ ∀ z ∈ rc id, 0 ≤ z ∧ z ≤ 255) (hb : first + n ≤ 1000000) : ∀ k, k ≤ n → Wok lim (bodiesW lim rc first k) k := by
  intro k
  induction k with
  | zero => intro _; exact ⟨by simp [bodiesW], by simp [bodiesW], by simp [bodiesW]⟩
  | succ k ih =>
    intro hk
    rw [bodiesW_succ]
    have := hr (first + k) (by omega) (by omega)
    exact (ih (by omega)).step (by omega) this.1 this.2
end Go.Proofs.Ytbcmheilgilipaa
