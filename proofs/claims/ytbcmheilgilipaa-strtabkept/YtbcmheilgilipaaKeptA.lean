/-
  Intern of the empty string; what the walk of StrtabKept carries along.
-/
import Derived.Test.YtbcmheilgilipaaKeptM
namespace Go.Proofs.Ytbcmheilgilipaa
open Go.RowKit Go.Maps
theorem intern_empty {w0 w : World} {tb : Nat} {S : Nat → Prop} {L : List ByteArray} {v mv : Value} {a : Option Addr} {c : Nat} (h : Both w0 w tb S L v mv a c) (h6 : (L.length : Int) ≤ 60000) :
    Calls Try.prog 20 #[.pointer (some ⟨tb, 0, none⟩), .string ⟨#[]⟩] w fun e w' => ∃ (id : Int) (L2 : List ByteArray), e = .returned (.tuple #[.int .i64 id, .int .i64 0]) ∧ 0 ≤ id ∧ id ≤ (L.length : Int) ∧ 0 < L2.length ∧ TabN w0 w' tb L2 := by
  cases hin : isIn L ⟨#[]⟩
  · refine (intern_new h.tab ⟨#[]⟩ (by decide) hin (decide_eq_true (by have := h.tab.sum; refine ⟨by decide, by omega, ?_⟩; show _ + 0 ≤ _; omega))).mono ?_
    rintro e w' ⟨rfl, ⟨v', mv', ht⟩, hb⟩
    exact ⟨_, L ++ [⟨#[]⟩], rfl, by omega, by omega, by simp, TabN.step h.newS h.below hb ht⟩
  · refine (intern_old h.tab ⟨#[]⟩ (by decide) hin).mono ?_
    rintro e w' ⟨rfl, ⟨v', mv', ht⟩, hb⟩
    have hp := place_lt hin
    exact ⟨_, L, rfl, by omega, by omega, by omega, TabN.step h.newS h.below hb ht⟩
theorem bytesN_any {w0 w : World} {tb : Nat} {L : List ByteArray} (h : TabN w0 w tb L) :
    Calls Try.prog 23 #[.pointer (some ⟨tb, 0, none⟩)] w fun e w' => e = .returned (.int .i64 (total L : Nat)) ∧ w' = w := by
  obtain ⟨S, v, mv, ht, _, _⟩ := h
  exact bytes_any tb _ w ht.cell2
/-- 'append(nil, l...)'. -/
theorem append_first (w : World) {ops : Array Oper} {rest : List Oper} {o : Oper} {a : Act} {Q : Exit → Act → World → Prop} (hgd : o.guard = none) (s x : Operand)
    (ho : o.op = .call { callee := .builtin .append, args := #[s, x], argTypes := #[27, 27] }) (hs : a.eval s = .slice none 0 0)
    (g m c base2 : Nat) (news : List Value) (hx : a.eval x = .slice (some ⟨g, 0, none⟩) m c) (hr : w.ownsRow base2 31 1 (.slice (some ⟨g, 0, none⟩) m c) m news) (h1 : ∀ u ∈ news, u.oneCell' = true)
    (hb : (m : Int) * 24 ≤ 140737488355328)
    (h : ∀ (a' : Option Addr) (c' : Nat) w', w'.ownsRow w.heap.size 31 1 (.slice a' m c') m news → Below w.heap.size w w' → wpList Try.prog ops Q rest (a.put o.dst (.slice a' m c')) w') : wpList Try.prog ops Q (o :: rest) a w := by
  refine append_lists w hgd s x ho w.heap.size (.slice none 0 0) 0 [] hs (World.ownsRow_nil _ _ _ _) g m c base2 news hx hr h1 (by omega) (Nat.le_refl _) ?_
  intro a' c' w' h2 h3
  rw [Nat.zero_add, List.nil_append] at h2
  rw [Nat.zero_add]
  exact h a' c' w' h2 ⟨h3.os, h3.tape, h3.output, h3.size, fun k hk => h3.block k hk (by simp [Value.ownBlock])⟩
/-- What is appended to is new since w. -/
theorem below_append {w w1 w2 : World} {v : Value} {n : Nat} {vals : List Value} (hb : Below w.heap.size w w1) (ho : w1.ownsRow w.heap.size 31 1 v n vals) (hg : w1.grownBy w2 v.ownBlock) : Below w.heap.size w w2 :=
  hb.grown hg hb.size (fun k hk => (ho.lt k hk).1)

theorem Away.but {O : Nat → Prop} {w w' : World} (h : Away O w w') : But O w w' := ⟨h.os, h.tape, h.output, h.size, h.block⟩
theorem Below.but_trans {S : Nat → Prop} {a b c : World} (h : But S a b) (k : Below b.heap.size b c) : But S a c := h.trans (T := fun _ => False) (But.of_below k) (fun _ _ e => e.elim)
theorem encT_any {w : World} {tb : Nat} {L : List ByteArray} (h : ∃ S v mv, Tab w tb S L v mv) (lim : Nat) (hlo : 64 ≤ (lim : Int)) (hhi : (lim : Int) ≤ 1048576) :
    Calls Try.prog 11 #[.pointer (some ⟨tb, 0, none⟩), .int .i64 (lim : Int)] w fun e w' => ∃ a c bs vals, e = .returned (.tuple #[.slice a bs.length c, .int .i64 0]) ∧ Cutting L lim 0 bs ∧ Lists w' w.heap.size (.slice a bs.length c) bs vals ∧ Below w.heap.size w w' := by
  obtain ⟨S, v, mv, ht⟩ := h
  exact encode_any ht lim hlo hhi
theorem tabE_below {w w' : World} {tb : Nat} {L : List ByteArray} (h : ∃ S v mv, Tab w tb S L v mv) (hb : Below w.heap.size w w') : ∃ S v mv, Tab w' tb S L v mv := by
  obtain ⟨S, v, mv, ht⟩ := h
  exact ⟨S, v, mv, ht.kept (T := fun _ => False) (But.of_below hb) (fun _ _ e => e)⟩
end Go.Proofs.Ytbcmheilgilipaa
