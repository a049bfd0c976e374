/-
  One step of a play: a word into the table.
-/
import Derived.Test.YtjpccaeojimlfaaPlyE
import Derived.Deep.RegionHeld3
namespace Go.Proofs.Ytjpccaeojimlfaa
open Go.RowKit Go.Maps Go.Shelf
attribute [local go_sem] Oper.semAt_some
section
variable {w0 w : World} {pb tb ub FB GB : Nat} {f g : Nat → Nat} {Z : Nat → Nat → Prop} {L : List ByteArray} {N : Nat → List Nd} {P : Nat → List Stk}
theorem internV_form (L : List ByteArray) (s : ByteArray) : ∃ a b : Int, internV L s = .tuple #[.int .i64 a, .int .i64 b] := by
  unfold internV
  split
  · exact ⟨_, _, rfl⟩
  · split
    · exact ⟨_, _, rfl⟩
    · exact ⟨_, _, rfl⟩
set_option maxHeartbeats 1000000 in
set_option maxRecDepth 4000 in
theorem step_word (h : Ply w0 w pb tb ub FB GB f g Z L L N N P) (wh : Int) (sa : Option Addr) (sn sc : Nat) (s : ByteArray) (n : Int) (hs : s.size ≤ maxLen) :
    Calls Try.prog 43 #[.pointer (some ⟨pb, 0, none⟩), .agg #[.int .i64 3, .int .i64 wh, .slice sa sn sc, .string s, .int .i64 n]] w (StepR w0 pb) := by
  obtain ⟨i, hi, hwho⟩ := who_all wh
  have hX := boxed5 w 3 wh sa sn sc s n
  obtain ⟨W0, hW0⟩ : ∃ W0, W0 = w.alloc (opO 3 wh sa sn sc s n) := ⟨_, rfl⟩
  rw [← hW0] at hX
  unfold opO at hW0
  have h0 := h.below hX.bel
  obtain ⟨p0, p1, p2, p3⟩ := h0.cells
  obtain ⟨kF, kG⟩ := h0.forest i hi
  obtain ⟨x, hx⟩ : ∃ x, x = fPtr f i := ⟨_, rfl⟩
  obtain ⟨y, hy⟩ : ∃ y, y = fPtr g i := ⟨_, rfl⟩
  rw [← hx] at kF
  rw [← hy] at kG
  have b0 := hX.c0
  have b1 := hX.c1
  have H0 : Hid _ := hide h0
  have hi' : (i : Int) < 3 := by omega
  have b3 := hX.c3
  obtain ⟨i1, i2, hV⟩ := internV_form L s
  have Q1 := tintern_x (h0.below (below_drewN (Below.refl _ _) 1)) s hs
  rw [hV] at Q1
  have HQ1 : Hid _ := hide Q1
  have HV : Hid (internV L s = .tuple #[.int .i64 i1, .int .i64 i2]) := hV
  have HS : Hid (s.size ≤ maxLen) := hs
  have HPB : Hid (∀ j, 0 < j → ¬ Z j pb) := hide (fun j hj e => by have := h0.dis _ _ pb e h0.z0.1; omega)
  have HOB : Hid (∀ j, ¬ Z j w.heap.size) := hide (fun j e => by have := h.rng _ _ e; omega)
  have hlw := hX.lt
  clear hx hy hX h0 hs hV Q1 h
  subst hW0
  go_enter Try.func43, Try.ntmps43
  rcases hwho with ⟨d0, rfl⟩ | ⟨d0, d2, rfl⟩ | ⟨rfl, hi3⟩
  all_goals
    go_wp2
    go_region_held3 (fun W => W.cell? ⟨pb, 0, none⟩ = some (.pointer (some ⟨tb, 0, none⟩)) ∧ W.cell? ⟨w.heap.size, 3, none⟩ = some (.string s)) (first | exact ⟨p0, b3⟩ | exact ⟨M0, M3⟩) (first
      | (go_at_call 24; refine HQ1.out.mono ?_; rintro e w1 ⟨rfl, Z1, hP1, hgr, hb⟩; have HP1 := hide hP1; have HGr := hide (hgr 4 w.heap.size); have M0 := cell_but p0 hb.undrew (HPB.out 1 (by decide)); have M3 := cell_but b3 hb.undrew (HOB.out 1); have N1 := cell_but p1 hb.undrew (HPB.out 1 (by decide)); clear hP1 hb hgr))
    have Q2 := rtintern_x (HP1.out.below (below_drewN (Below.refl _ _) 1)) HS.out
    rw [HV.out] at Q2
    have HQ2 : Hid _ := hide Q2
    have HPB1 : Hid (¬ Z1 4 pb) := hide (fun e => by have := HP1.out.dis _ _ pb e HP1.out.z0.1; omega)
    have HOB1 : Hid (¬ Z1 4 w.heap.size) := hide (fun e => by
      rcases HGr.out e with e | e
      · exact HOB.out 4 e
      · exact absurd (Nat.lt_of_lt_of_le hlw e) (Nat.lt_irrefl _))
    clear Q2 p0 p1 b3
    go_wp2
    go_region_held3 (fun W => W.cell? ⟨pb, 1, none⟩ = some (.pointer (some ⟨ub, 0, none⟩)) ∧ W.cell? ⟨w.heap.size, 3, none⟩ = some (.string s)) (first | exact ⟨N1, M3⟩ | exact ⟨K1, K3⟩) (first
      | (go_at_call 63; refine HQ2.out.mono ?_; rintro e w2 ⟨rfl, Z2, hP2, hb⟩; have HP2 := hide hP2; have K1 := cell_but N1 hb.undrew HPB1.out; have K3 := cell_but M3 hb.undrew HOB1.out; clear hP2 hb))
    go_wp2
    go_ret
    exact ⟨rfl, _, _, _, _, _, _, _, _, _, _, HP2.out⟩
end
end Go.Proofs.Ytjpccaeojimlfaa
