/-
  One step with a pair of tables.
-/
import Derived.Test.YtbcmheilgilipaaPlayA
import Derived.Deep.RegionHeld3
namespace Go.Proofs.Ytbcmheilgilipaa
open Go.RowKit Go.Maps
/-- The program's table and the document's, both nil or with the same strings. -/
def Half (w : World) (x y : Value) (S : Nat → Prop) : Prop :=
  (x = .pointer none ∧ y = .pointer none) ∨ ∃ tb rb S1 S2 L v mv v2, x = .pointer (some ⟨tb, 0, none⟩) ∧ y = .pointer (some ⟨rb, 0, none⟩) ∧ Tab w tb S1 L v mv ∧ RTab w rb S2 L v2 ∧ (∀ k, S1 k → S k ∧ ¬ S2 k) ∧ (∀ k, S2 k → S k)
theorem Half.but {w w' : World} {x y : Value} {S T : Nat → Prop} (h : Half w x y S) (hb : But T w w') (hd : ∀ k, S k → ¬ T k) : Half w' x y S := by
  rcases h with h | ⟨tb, rb, S1, S2, L, v, mv, v2, hx, hy, h1, h2, h3, h4⟩
  · exact .inl h
  · exact .inr ⟨tb, rb, S1, S2, L, v, mv, v2, hx, hy, h1.kept hb (fun k hk => hd k (h3 k hk).1), h2.kept hb (fun k hk => hd k (h4 k hk)), h3, h4⟩
theorem Half.mono {w : World} {x y : Value} {S T : Nat → Prop} (h : Half w x y S) (hT : ∀ k, S k → T k) : Half w x y T := by
  rcases h with h | ⟨tb, rb, S1, S2, L, v, mv, v2, hx, hy, h1, h2, h3, h4⟩
  · exact .inl h
  · exact .inr ⟨tb, rb, S1, S2, L, v, mv, v2, hx, hy, h1, h2, fun k hk => ⟨hT k (h3 k hk).1, (h3 k hk).2⟩, fun k hk => hT k (h4 k hk)⟩
def StepPost (w : World) (pb po : Nat) (S : Nat → Prop) (e : Ending) (w' : World) : Prop :=
  e = .returned (.bool true) ∧ ∃ x' y' S', w'.cell? ⟨pb, po, none⟩ = some x' ∧ w'.cell? ⟨pb, po + 1, none⟩ = some y' ∧ Half w' x' y' S' ∧ (∀ k, S' k → S k ∨ (w.heap.size ≤ k ∧ k < w'.heap.size)) ∧
    (∀ q, q ≠ po → q ≠ po + 1 → w'.cell? ⟨pb, q, none⟩ = w.cell? ⟨pb, q, none⟩) ∧ (∀ q, w'.frozen? ⟨pb, q, none⟩ = w.frozen? ⟨pb, q, none⟩) ∧ But (fun k => S k ∨ k = pb) w w'
theorem step_same {w w' : World} {pb po : Nat} {x y : Value} {S S' : Nat → Prop} (c0 : w.cell? ⟨pb, po, none⟩ = some x) (c1 : w.cell? ⟨pb, po + 1, none⟩ = some y) (hpb : ¬ S pb) (hb : But S w w') (hh : Half w' x y S') (hs : ∀ k, S' k → S k ∨ (w.heap.size ≤ k ∧ k < w'.heap.size)) :
    StepPost w pb po S (.returned (.bool true)) w' := by
  have hlt := World.block_lt_of_cell? w _ c0
  have hbk := hb.block pb hlt hpb
  exact ⟨rfl, x, y, S', (World.cell?_of_block (w := w) hbk).trans c0, (World.cell?_of_block (w := w) hbk).trans c1, hh, hs, fun q _ _ => World.cell?_of_block (w := w) hbk, fun q => World.frozen?_of_block (w := w) hbk, hb.mono fun k hk => .inl hk⟩
theorem internV_form (L : List ByteArray) (s : ByteArray) : ∃ a b : Int, internV L s = .tuple #[.int .i64 a, .int .i64 b] := by
  unfold internV
  split
  · exact ⟨_, _, rfl⟩
  · split
    · exact ⟨_, _, rfl⟩
    · exact ⟨_, _, rfl⟩
/-- The step's own words, in a new block. -/
structure Boxed (w W : World) (ob : Nat) (s : ByteArray) (N : Int) : Prop where
  bel : Below w.heap.size w W
  within : w.heap.size ≤ ob ∧ ob < W.heap.size
  c2 : W.cell? ⟨ob, 2, none⟩ = some (.string s)
  c3 : W.cell? ⟨ob, 3, none⟩ = some (.int .i64 N)
theorem boxed (w : World) (kd wh N : Int) (s : ByteArray) : Boxed w (w.alloc (.cells #[.int .i64 kd, .int .i64 wh, .string s, .int .i64 N] 42)) w.heap.size s N :=
  ⟨(Below.refl _ w).alloc (Nat.le_refl _) _, ⟨Nat.le_refl _, by simp⟩, by rw [cell_of_row _ _ 2 _ 42 (0, 0) (heap_alloc_new w _)]; rfl, by rw [cell_of_row _ _ 3 _ 42 (0, 0) (heap_alloc_new w _)]; rfl⟩
theorem cell_but {S : Nat → Prop} {w w' : World} {a : Addr} {v : Value} (h : w.cell? a = some v) (hb : But S w w') (hn : ¬ S a.block) : w'.cell? a = some v :=
  (World.cell?_of_block (w := w) (hb.block a.block (World.block_lt_of_cell? w a h) hn)).trans h
theorem But.undrew {S : Nat → Prop} {w w' : World} (h : But S w.drew w') : But S w w' := ⟨h.os, h.tape, h.output, h.size, h.block⟩
theorem cell_drewN {w : World} {a : Addr} {v : Value} (h : w.cell? a = some v) (n : Nat) : (w.drewN n).cell? a = some v := ((below_drewN (Below.refl _ w) n).cell (World.block_lt_of_cell? w a h)).trans h
set_option maxHeartbeats 2000000 in
set_option maxRecDepth 4000 in
theorem step_intern (pb po : Nat) (x y : Value) (S : Nat → Prop) (wh N : Int) (s : ByteArray) (w : World) (c0 : w.cell? ⟨pb, po, none⟩ = some x) (c1 : w.cell? ⟨pb, po + 1, none⟩ = some y) (hpb : ¬ S pb) (hS : ∀ k, S k → k < w.heap.size) (hs : s.size ≤ maxLen) (hh : Half w x y S) :
    Calls Try.prog 14 #[.pointer (some ⟨pb, po, none⟩), .agg #[.int .i64 1, .int .i64 wh, .string s, .int .i64 N]] w (StepPost w pb po S) := by
  have HC0 : Hid (w.cell? ⟨pb, po, none⟩ = some x) := c0
  have HC1 : Hid (w.cell? ⟨pb, po + 1, none⟩ = some y) := c1
  have HPB : Hid (¬ S pb) := hpb
  have HS : Hid (∀ k, S k → k < w.heap.size) := hS
  have HSm : Hid (s.size ≤ maxLen) := hs
  have hlt := World.block_lt_of_cell? w _ c0
  have HX : Hid (Boxed w (w.alloc (.cells #[.int .i64 1, .int .i64 wh, .string s, .int .i64 N] 42)) w.heap.size s N) := boxed w 1 wh N s
  have HH : Hid (Half (w.alloc (.cells #[.int .i64 1, .int .i64 wh, .string s, .int .i64 N] 42)) x y S) := hide (hh.but (T := fun _ => False) (But.of_below HX.out.bel) (fun _ _ e => e))
  clear hs hpb hS hh
  go_enter Try.func14, Try.ntmps14
  go_wp2
  have K0 : (w.alloc (.cells #[.int .i64 1, .int .i64 wh, .string s, .int .i64 N] 42)).cell? ⟨pb, po, none⟩ = some x := (HX.out.bel.cell (p := ⟨pb, po, none⟩) hlt).trans c0
  have K1 : (w.alloc (.cells #[.int .i64 1, .int .i64 wh, .string s, .int .i64 N] 42)).cell? ⟨pb, po + 1, none⟩ = some y := (HX.out.bel.cell (p := ⟨pb, po + 1, none⟩) hlt).trans c1
  have K2 := HX.out.c2
  generalize hW : w.alloc (.cells #[.int .i64 1, .int .i64 wh, .string s, .int .i64 N] 42) = W0 at HX HH K0 K1 K2 ⊢
  have HOB : Hid (¬ S w.heap.size) := hide (fun e => by have := HS.out _ e; omega)
  clear c0 c1 hW
  obtain ⟨ob, hob⟩ : ∃ ob, ob = w.heap.size := ⟨_, rfl⟩
  rw [← hob] at K2 HOB ⊢
  have HX' : Hid (Below w.heap.size w W0) := HX.out.bel
  clear HX hob
  rcases HH.out with ⟨rfl, rfl⟩ | ⟨tb, rb, S1, S2, L, v, mv, v2, rfl, rfl, ht, hrt, hd1, hd2⟩
  · have HQ1 : Hid (∀ W, Calls Try.prog 20 #[.pointer none, .string s] W fun e w' => e = .returned (.tuple #[.int .i64 0, .int .i64 1]) ∧ w' = W) := hide (fun W => intern_nil s W)
    have HQ2 : Hid (∀ W, Calls Try.prog 32 #[.pointer none, .string s] W fun e w' => e = .returned (.tuple #[.int .i64 0, .int .i64 1]) ∧ w' = W) := hide (fun W => rintern_nil s W)
    go_quiet ((go_at_call 20; exact Calls.quiet_of_same (HQ1.out _)))
    go_wp2
    have M1 := cell_drewN K1 nq
    have M2 := cell_drewN K2 nq
    have HB1 : Hid (Below w.heap.size w (W0.drewN nq)) := hide (below_drewN HX'.out nq)
    generalize W0.drewN nq = W1 at M1 M2 HB1 ⊢
    clear K0 K1 K2
    go_quiet ((go_at_call 32; exact Calls.quiet_of_same (HQ2.out _)))
    go_wp2
    go_ret
    have hbw := below_drewN HB1.out nq
    exact step_same HC0.out HC1.out HPB.out (But.of_below hbw) (.inl ⟨rfl, rfl⟩) (S' := fun _ => False) (fun _ e => e.elim)
  · obtain ⟨i1, i2, hV⟩ := internV_form L s
    have HT : Hid (Tab W0 tb S1 L v mv) := ht
    have HR : Hid (RTab W0 rb S2 L v2) := hrt
    have HD1 : Hid (∀ k, S1 k → S k ∧ ¬ S2 k) := hd1
    have HD2 : Hid (∀ k, S2 k → S k) := hd2
    have Q1 := intern_any (ht.kept (T := fun _ => False) ((But.refl _ W0).drew) (fun _ _ e => e)) s HSm.out
    rw [hV] at Q1
    have HV : Hid (internV L s = .tuple #[.int .i64 i1, .int .i64 i2]) := hV
    have HQ1 : Hid _ := hide Q1
    clear ht hrt hd1 hd2 Q1 hV
    go_region_held3 (fun W => W.cell? ⟨pb, po, none⟩ = some (.pointer (some ⟨tb, 0, none⟩)) ∧ W.cell? ⟨ob, 2, none⟩ = some (.string s)) (first | exact ⟨K0, K2⟩ | exact ⟨M0, M2⟩) (first
      | (go_at_call 20; refine HQ1.out.mono ?_; rintro e w1 ⟨rfl, ⟨v', mv', ht⟩, hb⟩; have HT1 := hide ht; have HB1 := hide hb.undrew; have M0 := cell_but K0 hb.undrew (fun e => HPB.out (HD1.out _ e).1); have M2 := cell_but K2 hb.undrew (fun e => HOB.out (HD1.out _ e).1); clear ht hb))
    have N1 := cell_but K1 HB1.out (fun e => HPB.out (HD1.out _ e).1)
    have N2 := cell_but K2 HB1.out (fun e => HOB.out (HD1.out _ e).1)
    have HR1 : Hid (RTab w1 rb S2 L v2) := hide (HR.out.kept HB1.out (fun k hk e => (HD1.out k e).2 hk))
    have Q2 := rintern_any (HR1.out.kept (T := fun _ => False) ((But.refl _ w1).drew) (fun _ _ e => e)) s HSm.out
    rw [HV.out] at Q2
    have HQ2 : Hid _ := hide Q2
    clear Q2 K0 K1 K2 M0 M2
    go_wp2
    go_region_held3 (fun W => W.cell? ⟨pb, po + 1, none⟩ = some (.pointer (some ⟨rb, 0, none⟩)) ∧ W.cell? ⟨ob, 2, none⟩ = some (.string s)) (first | exact ⟨N1, N2⟩ | exact ⟨M1, M2⟩) (first
      | (go_at_call 32; refine HQ2.out.mono ?_; rintro e w2 ⟨rfl, ⟨v3, ht⟩, hb⟩; have HR2 := hide ht; have HB2 := hide hb.undrew; have M1 := cell_but N1 hb.undrew (fun e => HPB.out (HD2.out _ e)); have M2 := cell_but N2 hb.undrew (fun e => HOB.out (HD2.out _ e)); clear ht hb))
    go_wp2
    go_ret
    have hw0 := HX'.out.size
    have hw1 := HB1.out.size
    have hw2 := HB2.out.size
    have e1 : W0.drew.heap.size = W0.heap.size := rfl
    have e2 : w1.drew.heap.size = w1.heap.size := rfl
    refine step_same HC0.out HC1.out HPB.out (((But.of_below (S := S) HX'.out).trans HB1.out (fun i _ e => (HD1.out i e).1)).trans HB2.out (fun i _ e => HD2.out i e))
      (S' := fun k => S k ∨ (w.heap.size ≤ k ∧ k < w2.heap.size)) (.inr ⟨tb, rb, _, _, internL L s, v', mv', v3, rfl, rfl, HT1.out.kept HB2.out (fun k hk e => ?_), HR2.out, fun k hk => ⟨?_, fun e => ?_⟩, fun k hk => ?_⟩) (fun k hk => hk)
    · rcases hk with h | h
      · exact (HD1.out k h).2 e
      · have := HS.out k (HD2.out k e); omega
    · rcases hk with h | h
      · exact .inl (HD1.out k h).1
      · exact .inr ⟨by omega, by omega⟩
    · rcases hk with h | h
      · rcases e with e | e
        · exact (HD1.out k h).2 e
        · have := HS.out k (HD1.out k h).1; omega
      · rcases e with e | e
        · have := HS.out k (HD2.out k e); omega
        · omega
    · rcases hk with h | h
      · exact .inl (HD2.out k h)
      · exact .inr ⟨by omega, by omega⟩
end Go.Proofs.Ytbcmheilgilipaa
