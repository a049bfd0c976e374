/-
  The walk of StrtabPlays.
-/
import Derived.Test.YtbcmheilgilipaaPlayE
namespace Go.Proofs.Ytbcmheilgilipaa
open Go.RowKit Go.Maps
theorem step_any (pb po : Nat) (x y : Value) (S : Nat → Prop) (kd wh N : Int) (s : ByteArray) (w : World) (c0 : w.cell? ⟨pb, po, none⟩ = some x) (c1 : w.cell? ⟨pb, po + 1, none⟩ = some y) (fr : ∀ q, w.frozen? ⟨pb, q, none⟩ = false) (hpb : ¬ S pb) (hS : ∀ k, S k → k < w.heap.size)
    (hs : s.size ≤ maxLen) (hN : -9223372036854775808 ≤ N ∧ N ≤ 9223372036854775807) (hh : Half w x y S) :
    Calls Try.prog 14 #[.pointer (some ⟨pb, po, none⟩), .agg #[.int .i64 kd, .int .i64 wh, .string s, .int .i64 N]] w (StepPost w pb po S) := by
  by_cases h1 : kd = 1
  · subst h1; exact step_intern pb po x y S wh N s w c0 c1 hpb hS hs hh
  by_cases h2 : kd = 2
  · subst h2; exact step_find pb po x y S wh N s w c0 c1 hpb hS hs hh
  by_cases h3 : kd = 3
  · subst h3; exact step_text pb po x y S wh N s w c0 c1 hpb hS hN hh
  by_cases h4 : kd = 4
  · subst h4; exact step_len pb po x y S wh N s w c0 c1 hpb hS hh
  by_cases h5 : kd = 5
  · subst h5; exact step_encode pb po x y S wh N s w c0 c1 hpb hS hh
  by_cases h6 : kd = 6
  · subst h6; exact step_none pb po x y S wh N s w c0 c1 fr
  by_cases h7 : kd = 7
  · subst h7; exact step_new pb po x y S wh N s w c0 c1 fr
  exact step_other pb po x y S kd wh N s w c0 c1 hpb hh h1 h2 h3 h4 h5 h6 h7
/-- Two pairs of tables, all new since w0. -/
structure DuoAt (w0 w : World) (pb : Nat) (x0 x1 x2 x3 : Value) (S T : Nat → Prop) : Prop where
  c0 : w.cell? ⟨pb, 0, none⟩ = some x0
  c1 : w.cell? ⟨pb, 1, none⟩ = some x1
  c2 : w.cell? ⟨pb, 2, none⟩ = some x2
  c3 : w.cell? ⟨pb, 3, none⟩ = some x3
  fr : ∀ q, w.frozen? ⟨pb, q, none⟩ = false
  h0 : Half w x0 x1 S
  h1 : Half w x2 x3 T
  dis : ∀ k, S k → ¬ T k
  newS : ∀ k, S k → w0.heap.size ≤ k ∧ k < w.heap.size ∧ k ≠ pb
  newT : ∀ k, T k → w0.heap.size ≤ k ∧ k < w.heap.size ∧ k ≠ pb
  pbn : w0.heap.size ≤ pb
  bel : Below w0.heap.size w0 w
def Duo (w0 w : World) (pb : Nat) : Prop := ∃ x0 x1 x2 x3 S T, DuoAt w0 w pb x0 x1 x2 x3 S T
theorem DuoAt.lt {w0 w : World} {pb : Nat} {x0 x1 x2 x3 : Value} {S T : Nat → Prop} (h : DuoAt w0 w pb x0 x1 x2 x3 S T) : pb < w.heap.size := World.block_lt_of_cell? w _ h.c0
theorem Duo.below {w0 w w' : World} {pb : Nat} (h : Duo w0 w pb) (hb : Below w.heap.size w w') : Duo w0 w' pb := by
  obtain ⟨x0, x1, x2, x3, S, T, h⟩ := h
  have hsz := hb.size
  exact ⟨x0, x1, x2, x3, S, T, (hb.cell (p := ⟨pb, 0, none⟩) h.lt).trans h.c0, (hb.cell (p := ⟨pb, 1, none⟩) h.lt).trans h.c1, (hb.cell (p := ⟨pb, 2, none⟩) h.lt).trans h.c2, (hb.cell (p := ⟨pb, 3, none⟩) h.lt).trans h.c3, fun q => (hb.frozen (p := ⟨pb, q, none⟩) h.lt).trans (h.fr q),
    h.h0.but (T := fun _ => False) (But.of_below hb) (fun _ _ e => e), h.h1.but (T := fun _ => False) (But.of_below hb) (fun _ _ e => e), h.dis, fun k hk => by have := h.newS k hk; omega, fun k hk => by have := h.newT k hk; omega, h.pbn, h.bel.trans (hb.mono h.bel.size)⟩
theorem Duo.bel {w0 w : World} {pb : Nat} (h : Duo w0 w pb) : Below w0.heap.size w0 w := by obtain ⟨_, _, _, _, _, _, h⟩ := h; exact h.bel
theorem duo_step {w0 w : World} {pb : Nat} (h : Duo w0 w pb) (r : Nat) (hr : r < 2) (kd wh N : Int) (s : ByteArray) (hs : s.size ≤ maxLen) (hN : -9223372036854775808 ≤ N ∧ N ≤ 9223372036854775807) :
    Calls Try.prog 14 #[.pointer (some ⟨pb, r * 2, none⟩), .agg #[.int .i64 kd, .int .i64 wh, .string s, .int .i64 N]] w fun e w' => e = .returned (.bool true) ∧ Duo w0 w' pb := by
  obtain ⟨x0, x1, x2, x3, S, T, h⟩ := h
  have hlt := h.lt
  match r, hr with
  | 0, _ =>
    refine (step_any pb 0 x0 x1 S kd wh N s w h.c0 h.c1 h.fr (fun e => (h.newS _ e).2.2 rfl) (fun k hk => (h.newS k hk).2.1) hs hN h.h0).mono ?_
    rintro e w' ⟨rfl, x', y', S', d0, d1, hh, hS', ho, hf, hb⟩
    have hsz := hb.size
    have hbel : Below w0.heap.size w w' := hb.below h.bel.size (fun k hk => by rcases hk with e | e; exact (h.newS k e).1; rw [e]; exact h.pbn)
    refine ⟨rfl, x', y', x2, x3, S', T, d0, d1, (ho 2 (by omega) (by omega)).trans h.c2, (ho 3 (by omega) (by omega)).trans h.c3, fun q => (hf q).trans (h.fr q), hh, h.h1.but hb (fun k hk e => ?_), fun k hk e => ?_, fun k hk => ?_, fun k hk => ?_, h.pbn, h.bel.trans hbel⟩
    · rcases e with e | e
      · exact h.dis k e hk
      · exact (h.newT k hk).2.2 e
    · rcases hS' k hk with e1 | e1
      · exact h.dis k e1 e
      · have := h.newT k e; omega
    · rcases hS' k hk with e1 | e1
      · have := h.newS k e1; omega
      · have := h.bel.size; omega
    · have := h.newT k hk; omega
  | 1, _ =>
    refine (step_any pb 2 x2 x3 T kd wh N s w h.c2 h.c3 h.fr (fun e => (h.newT _ e).2.2 rfl) (fun k hk => (h.newT k hk).2.1) hs hN h.h1).mono ?_
    rintro e w' ⟨rfl, x', y', S', d0, d1, hh, hS', ho, hf, hb⟩
    have hsz := hb.size
    have hbel : Below w0.heap.size w w' := hb.below h.bel.size (fun k hk => by rcases hk with e | e; exact (h.newT k e).1; rw [e]; exact h.pbn)
    refine ⟨rfl, x0, x1, x', y', S, S', (ho 0 (by omega) (by omega)).trans h.c0, (ho 1 (by omega) (by omega)).trans h.c1, d0, d1, fun q => (hf q).trans (h.fr q), h.h0.but hb (fun k hk e => ?_), hh, fun k hk e => ?_, fun k hk => ?_, fun k hk => ?_, h.pbn, h.bel.trans hbel⟩
    · rcases e with e | e
      · exact h.dis k hk e
      · exact (h.newS k hk).2.2 e
    · rcases hS' k e with e1 | e1
      · exact h.dis k hk e1
      · have := h.newS k hk; omega
    · have := h.newS k hk; omega
    · rcases hS' k hk with e1 | e1
      · have := h.newT k e1; omega
      · have := h.bel.size; omega
/-- A step of a script. -/
structure SOp where
  kd : Int
  wh : Int
  s : ByteArray
  N : Int
def SOp.ok (o : SOp) : Prop := o.s.size ≤ maxLen ∧ (-9223372036854775808 ≤ o.N ∧ o.N ≤ 9223372036854775807) ∧ (-9223372036854775808 ≤ o.wh ∧ o.wh ≤ 9223372036854775807)
structure Ops (w : World) (a : Option Addr) (n : Nat) (f : Nat → SOp) : Prop where
  ok : ∀ i, i < n → (f i).ok
  cells : n = 0 ∨ ∃ b off, a = some ⟨b, off, none⟩ ∧ ∀ i, i < n → w.cell? ⟨b, off + i * 4, none⟩ = some (.int .i64 (f i).kd) ∧ w.cell? ⟨b, off + i * 4 + 1, none⟩ = some (.int .i64 (f i).wh) ∧ w.cell? ⟨b, off + i * 4 + 2, none⟩ = some (.string (f i).s) ∧ w.cell? ⟨b, off + i * 4 + 3, none⟩ = some (.int .i64 (f i).N)
theorem Ops.at {w w' : World} {a : Option Addr} {n : Nat} {f : Nat → SOp} (h : Ops w a n f) (hb : Below w.heap.size w w') {i : Nat} (hi : i < n) : ∃ b off, a = some ⟨b, off, none⟩ ∧ w'.cell? ⟨b, off + i * 4, none⟩ = some (.int .i64 (f i).kd) ∧ w'.cell? ⟨b, off + i * 4 + 1, none⟩ = some (.int .i64 (f i).wh) ∧ w'.cell? ⟨b, off + i * 4 + 2, none⟩ = some (.string (f i).s) ∧ w'.cell? ⟨b, off + i * 4 + 3, none⟩ = some (.int .i64 (f i).N) := by
  rcases h.cells with h0 | ⟨b, off, ha, hc⟩
  · omega
  · obtain ⟨e0, e1, e2, e3⟩ := hc i hi
    have hl := World.block_lt_of_cell? w _ e0
    exact ⟨b, off, ha, (hb.cell (p := ⟨b, off + i * 4, none⟩) hl).trans e0, (hb.cell (p := ⟨b, off + i * 4 + 1, none⟩) hl).trans e1, (hb.cell (p := ⟨b, off + i * 4 + 2, none⟩) hl).trans e2, (hb.cell (p := ⟨b, off + i * 4 + 3, none⟩) hl).trans e3⟩
set_option maxHeartbeats 2000000 in
set_option maxRecDepth 4000 in
theorem plays_any (a : Option Addr) (n c : Nat) (f : Nat → SOp) (w : World) (hr : Ops w a n f) (hn : (n : Int) ≤ 9223372036854775806) :
    Calls Try.prog 4 #[.slice a n c] w fun e w' => e = .returned (.bool true) ∧ Below w.heap.size w w' := by
  have HR : Hid (Ops w a n f) := hr
  clear hr
  go_enter Try.func4, Try.ntmps4
  go_wp2
  have B0 : Hid (Duo w (w.alloc (.cells #[.pointer none, .pointer none, .pointer none, .pointer none] 39)) w.heap.size) := hide (by
    have hh := heap_alloc_new w (.cells #[.pointer none, .pointer none, .pointer none, .pointer none] 39)
    refine ⟨.pointer none, .pointer none, .pointer none, .pointer none, fun _ => False, fun _ => False, ?_, ?_, ?_, ?_, fun q => frozen_of_row _ _ q _ 39 hh, .inl ⟨rfl, rfl⟩, .inl ⟨rfl, rfl⟩, fun _ e => e.elim, fun _ e => e.elim, fun _ e => e.elim, Nat.le_refl _, (Below.refl _ w).alloc (Nat.le_refl _) _⟩
    · rw [cell_of_row _ _ 0 _ 39 (0, 0) hh]; rfl
    · rw [cell_of_row _ _ 1 _ 39 (0, 0) hh]; rfl
    · rw [cell_of_row _ _ 2 _ 39 (0, 0) hh]; rfl
    · rw [cell_of_row _ _ 3 _ 39 (0, 0) hh]; rfl)
  obtain ⟨pb, hA⟩ : ∃ pb, pb = w.heap.size := ⟨_, rfl⟩
  rw [← hA] at B0 ⊢
  generalize hw1 : w.alloc (.cells #[.pointer none, .pointer none, .pointer none, .pointer none] 39) = w1 at B0 ⊢
  clear hA hw1
  go_loopw [4] (fun i wr => ∃ k : Nat, k ≤ 2 ∧ i = .int .i64 k ∧ Duo w wr pb) (fun i _ => 2 - (intOf i).toNat)
  case atStart => exact ⟨0, by decide, rfl, B0.out⟩
  case round =>
    clear B0
    obtain ⟨k, hk, rfl, hD⟩ := hrel
    have HD : Hid (Duo w wr pb) := hD
    clear hD
    by_cases hlt : k < 2
    · have HQ : Hid _ := hide (duo_step HD.out k hlt 7 0 0 ⟨#[]⟩ (by decide) (by decide))
      go_wp2_with fail
      refine HQ.out.mono ?_
      rintro e w2 ⟨rfl, hD2⟩
      have HD2 : Hid (Duo w w2 pb) := hD2
      clear hD2
      go_wp2
      exact ⟨⟨k + 1, by omega, by go_num, HD2.out⟩, by simp [intOf]; omega⟩
    · go_wp2
      go_loopw [5] (fun i wr => ∃ k : Nat, k ≤ n ∧ i = .int .i64 k ∧ Duo w wr pb) (fun i _ => n - (intOf i).toNat)
      case atStart => exact ⟨0, Nat.zero_le _, rfl, HD.out⟩
      case round =>
        clear HD
        obtain ⟨j, hj, rfl, hD⟩ := hrel
        have HD : Hid (Duo w wr pb) := hD
        clear hD
        by_cases hlj : j < n
        · obtain ⟨b, off, rfl, e0, e1, e2, e3⟩ := HR.out.at HD.out.bel hlj
          have hok := HR.out.ok j hlj
          have HOk : Hid (f j).ok := hok
          generalize f j = o at e0 e1 e2 e3 HOk
          obtain ⟨kd, wh, s, N⟩ := o
          dsimp only at e0 e1 e2 e3
          have hbw : b < w.heap.size := by
            rcases HR.out.cells with h0 | ⟨b', off', ea, hc⟩
            · omega
            · cases ea; exact World.block_lt_of_cell? w _ (hc j hlj).1
          have HDd : Hid (Duo w wr.drew pb) := hide (HD.out.below ((Below.refl _ wr).drew))
          have HQ14 : Hid _ := hide (within_any wh 2 wr.drew (by decide) (by decide))
          clear hok
          go_wp2_with fail
          go_region_held3 (fun W => W.cell? ⟨b, off + j * 4, none⟩ = some (.int .i64 kd) ∧ W.cell? ⟨b, off + j * 4 + 1, none⟩ = some (.int .i64 wh) ∧ W.cell? ⟨b, off + j * 4 + 2, none⟩ = some (.string s) ∧ W.cell? ⟨b, off + j * 4 + 3, none⟩ = some (.int .i64 N)) (first | exact ⟨e0, e1, e2, e3⟩ | exact ⟨M0, M1, M2, M3⟩) (first
            | (go_at_call 9; refine HQ14.out.mono ?_; rintro e w9 ⟨⟨r, rfl, hr0, hr1⟩, h9⟩; rw [h9]; clear h9 w9; obtain ⟨ρ, rfl⟩ := Int.eq_ofNat_of_zero_le hr0; have hρ : ρ < 2 := by omega)
            | (go_at_call 14; refine (duo_step HDd.out ρ hρ kd wh N s HOk.out.1 HOk.out.2.1).mono ?_; rintro e w2 ⟨rfl, hD2⟩; have HD2 : Hid (Duo w w2 pb) := hD2; have M0 := (hD2.bel.cell (p := ⟨b, off + j * 4, none⟩) hbw).trans ((HD.out.bel.cell (p := ⟨b, off + j * 4, none⟩) hbw).symm.trans e0); have M1 := (hD2.bel.cell (p := ⟨b, off + j * 4 + 1, none⟩) hbw).trans ((HD.out.bel.cell (p := ⟨b, off + j * 4 + 1, none⟩) hbw).symm.trans e1); have M2 := (hD2.bel.cell (p := ⟨b, off + j * 4 + 2, none⟩) hbw).trans ((HD.out.bel.cell (p := ⟨b, off + j * 4 + 2, none⟩) hbw).symm.trans e2); have M3 := (hD2.bel.cell (p := ⟨b, off + j * 4 + 3, none⟩) hbw).trans ((HD.out.bel.cell (p := ⟨b, off + j * 4 + 3, none⟩) hbw).symm.trans e3); clear hD2))
          go_wp2
          exact ⟨⟨j + 1, by omega, by go_num, HD2.out⟩, by simp [intOf]; omega⟩
        · go_wp2
          go_ret
          exact ⟨rfl, HD.out.bel⟩
end Go.Proofs.Ytbcmheilgilipaa
