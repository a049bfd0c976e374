/-
  slices.Reverse of events.
-/
import Derived.Test.YtkjmmcpjdjjmlaaDoorRgO
namespace Go.Proofs.YtkjmmcpjdjjmlaaDoor
open Go.RowKit Go.Maps Go.Shelf
/-- The first i and the last i of L have changed their places. -/
structure Rvd (L M : List Ev) (i : Nat) : Prop where
  len : M.length = L.length
  out : ∀ q, q < L.length → (q < i ∨ L.length ≤ q + i) → M[q]? = L[L.length - 1 - q]?
  mid : ∀ q, i ≤ q → q + i < L.length → M[q]? = L[q]?
theorem Rvd.zero (L : List Ev) : Rvd L L 0 := ⟨rfl, fun q h1 h2 => by omega, fun _ _ _ => rfl⟩
theorem Rvd.done {L M : List Ev} {i : Nat} (h : Rvd L M i) (hi : L.length ≤ i + i + 1) : M = L.reverse := by
  apply List.ext_getElem?
  intro q
  by_cases hq : q < L.length
  · rw [List.getElem?_reverse hq]
    by_cases h1 : q < i ∨ L.length ≤ q + i
    · exact h.out q hq h1
    · rw [h.mid q (by omega) (by omega)]
      congr 1; omega
  · rw [List.getElem?_eq_none (by rw [h.len]; omega), List.getElem?_eq_none (by rw [List.length_reverse]; omega)]
theorem Rvd.step {L M : List Ev} {i j : Nat} {a b : Ev} (h : Rvd L M i) (hj : i + j + 1 = L.length) (hij : i < j) (ha : M[i]? = some a) (hb : M[j]? = some b) : Rvd L ((M.set i b).set j a) (i + 1) := by
  have hl := h.len
  refine ⟨by rw [List.length_set, List.length_set, hl], fun q hq hc => ?_, fun q h1 h2 => ?_⟩
  · by_cases e1 : q = j
    · subst e1
      rw [List.getElem?_set_self (by rw [List.length_set]; omega), ← ha, h.mid i (Nat.le_refl _) (by omega)]
      congr 1; omega
    · rw [List.getElem?_set_ne (fun e9 => e1 e9.symm)]
      by_cases e2 : q = i
      · subst e2
        rw [List.getElem?_set_self (by omega), ← hb, h.mid j (by omega) (by omega)]
        congr 1; omega
      · rw [List.getElem?_set_ne (fun e9 => e2 e9.symm)]
        exact h.out q hq (by omega)
  · rw [List.getElem?_set_ne (by omega), List.getElem?_set_ne (by omega)]
    exact h.mid q (by omega) (by omega)
theorem mem_swap {M : List Ev} {i j : Nat} {a b e : Ev} (ha : M[i]? = some a) (hb : M[j]? = some b) (h : e ∈ (M.set i b).set j a) : e ∈ M := by
  rcases List.mem_or_eq_of_mem_set h with h1 | h1
  · rcases List.mem_or_eq_of_mem_set h1 with h2 | h2
    · exact h2
    · rw [h2]; exact List.mem_of_getElem? hb
  · rw [h1]; exact List.mem_of_getElem? ha
set_option maxRecDepth 8000 in
set_option maxHeartbeats 2000000 in
theorem rev_any {w : World} {base : Nat} {v : Value} {es : List Ev} (h : Evs w base v es) (hn : (es.length : Int) ≤ 65536) :
    Calls Tryd.prog 19 #[v] w fun e w' => e = .returned (.tuple #[]) ∧ Evs w' base v es.reverse ∧ But (fun q => v.ownBlock = some q) w w' := by
  obtain ⟨a, c, rfl, h0, hc⟩ := h.form
  obtain ⟨n, hnl⟩ : ∃ n, n = es.length := ⟨_, rfl⟩
  rw [← hnl] at h h0 hc hn ⊢
  have HH := hide h
  have HL := hide hnl
  clear h h0 hc hnl
  go_enter Tryd.func19, Tryd.ntmps19
  go_wp2_with fail
  go_loopw [2, 3] (fun si sj wr => ∃ (i : Nat) (es1 : List Ev), si = .int .i64 i ∧ sj = .int .i64 ((n : Int) - 1 - i) ∧ i ≤ n ∧ Evs wr base (.slice a n c) es1 ∧ Rvd es es1 i ∧ But (fun q => (Value.slice a n c).ownBlock = some q) w wr) (fun si _ _ => n - (intOf si).toNat)
  case atStart =>
    exact ⟨0, es, rfl, by simp, Nat.zero_le _, HH.out, Rvd.zero _, But.refl _ _⟩
  case round =>
    obtain ⟨i, es1, rfl, rfl, hi, hE, hR, hB⟩ := hrel
    have HE := hide hE
    have HR := hide hR
    have HB := hide hB
    clear hE hR hB
    have hl1 : es1.length = n := by rw [HR.out.len, ← HL.out]
    by_cases hlt : i + i + 1 < n
    · obtain ⟨j, hj⟩ : ∃ j : Nat, i + j + 1 = n := ⟨n - 1 - i, by omega⟩
      have hjI : (n : Int) - 1 - i = (j : Int) := by omega
      rw [hjI]
      have hij : i < j := by omega
      have hijI : (i : Int) < j := by omega
      have hiI : (i : Int) < n := by omega
      have hjn : (j : Int) < n := by omega
      obtain ⟨x, hx⟩ : ∃ e, es1[i]? = some e := ⟨_, List.getElem?_eq_getElem (by omega)⟩
      obtain ⟨y, hy⟩ : ∃ e, es1[j]? = some e := ⟨_, List.getElem?_eq_getElem (by omega)⟩
      obtain ⟨g, c', hv, _, hg, _⟩ := HE.out.own.frm (by omega)
      have hva : a = some ⟨g, 0, .none⟩ := by injection hv
      clear hv
      subst hva
      have HX := hide hx
      have HY := hide hy
      have HL1 := hide hl1
      have HJ := hide (And.intro hj hij)
      have O := HE.out.own
      have x0 := O.cell hx 0 rfl; have x1 := O.cell hx 1 rfl; have x2 := O.cell hx 2 rfl; have x3 := O.cell hx 3 rfl; have x4 := O.cell hx 4 rfl
      have y0 := O.cell hy 0 rfl; have y1 := O.cell hy 1 rfl; have y2 := O.cell hy 2 rfl; have y3 := O.cell hy 3 rfl; have y4 := O.cell hy 4 rfl
      simp only [layE, Nat.add_zero] at x0 x1 x2 x3 x4 y0 y1 y2 y3 y4
      have z0 := O.frozen (i * 5); have z1 := O.frozen (i * 5 + 1); have z2 := O.frozen (i * 5 + 2); have z3 := O.frozen (i * 5 + 3); have z4 := O.frozen (i * 5 + 4)
      have v0 := O.frozen (j * 5); have v1 := O.frozen (j * 5 + 1); have v2 := O.frozen (j * 5 + 2); have v3 := O.frozen (j * 5 + 3); have v4 := O.frozen (j * 5 + 4)
      clear O hx hy hl1 hj
      go_wp2_with fail
      go_region
      obtain ⟨W2, hW2⟩ : ∃ W2, W2 = ((((((((((wr.setCell ⟨g, i * 5, .none⟩ (.int .i64 y.g)).setCell ⟨g, i * 5 + 1, .none⟩ (.int .i64 y.k)).setCell ⟨g, i * 5 + 2, .none⟩ (.int .u64 y.o)).setCell ⟨g, i * 5 + 3, .none⟩ (.int .u64 y.a)).setCell ⟨g, i * 5 + 4, .none⟩ (.slice y.sa y.ls.length y.sc)).setCell ⟨g, j * 5, .none⟩ (.int .i64 x.g)).setCell ⟨g, j * 5 + 1, .none⟩ (.int .i64 x.k)).setCell ⟨g, j * 5 + 2, .none⟩ (.int .u64 x.o)).setCell ⟨g, j * 5 + 3, .none⟩ (.int .u64 x.a)).setCell ⟨g, j * 5 + 4, .none⟩ (.slice x.sa x.ls.length x.sc)) := ⟨_, rfl⟩
      have hO2 : Own layE 32 W2 base (.slice (some ⟨g, 0, .none⟩) n c) ((es1.set i y).set j x) := by
        rw [hW2]
        exact own5 (own5 HE.out.own HL1.out (by have := HJ.out; omega) y) (by rw [List.length_set]; exact HL1.out) (by have := HJ.out; omega) x
      have hB2 : But (fun q => (Value.slice (some ⟨g, 0, .none⟩) n c).ownBlock = some q) wr W2 := by
        rw [hW2]
        exact ((but5 wr g (i * 5) _ _ _ _ _).trans (but5 _ g (j * 5) _ _ _ _ _) (fun _ _ e9 => e9)).mono (fun q e9 => by have e8 : q = g := e9; rw [e8]; rfl)
      rw [← hW2]
      have HE2 : Hid (Evs W2 base (.slice (some ⟨g, 0, .none⟩) n c) ((es1.set i y).set j x)) := hide ⟨hO2, fun e he => (HE.out.stk e (mem_swap HX.out HY.out he)).but hB2 HE.out.noStr⟩
      have HB2 := hide (HB.out.trans hB2 (fun _ _ e9 => e9))
      have HR2 := hide (HR.out.step (by rw [← HL.out]; exact HJ.out.1) HJ.out.2 HX.out HY.out)
      have hjn2 : (n : Int) - 1 - ((i + 1 : Nat) : Int) = (j : Int) - 1 := by have := HJ.out; omega
      have HJ2 := hide hjn2
      clear hW2 hO2 hB2 x0 x1 x2 x3 x4 y0 y1 y2 y3 y4 z0 z1 z2 z3 z4 v0 v1 v2 v3 v4 hjn2 hjI
      go_wp2
      exact ⟨⟨i + 1, _, by go_num, by rw [HJ2.out], by omega, HE2.out.below (Below.refl _ _).drew, HR2.out, HB2.out.drew⟩, by simp [intOf]; omega⟩
    · have hd : ¬ (i : Int) < (n : Int) - 1 - i := by omega
      have hw : decide ((i : Int) < (n : Int) - 1 - i) = false := decide_eq_false hd
      go_wp2
      go_end0
      have e9 : es1 = es.reverse := HR.out.done (by rw [← HL.out]; omega)
      rw [← e9]
      exact ⟨rfl, HE.out, HB.out⟩
end Go.Proofs.YtkjmmcpjdjjmlaaDoor
