/-
  Steps with a pair of tables: Len, nil, new, others.
-/
import Derived.Test.YtbcmheilgilipaaPlayC
namespace Go.Proofs.Ytbcmheilgilipaa
open Go.RowKit Go.Maps
set_option maxHeartbeats 2000000 in
set_option maxRecDepth 4000 in
theorem step_len (pb po : Nat) (x y : Value) (S : Nat → Prop) (wh N : Int) (s : ByteArray) (w : World) (c0 : w.cell? ⟨pb, po, none⟩ = some x) (c1 : w.cell? ⟨pb, po + 1, none⟩ = some y) (hpb : ¬ S pb) (hS : ∀ k, S k → k < w.heap.size) (hh : Half w x y S) :
    Calls Try.prog 14 #[.pointer (some ⟨pb, po, none⟩), .agg #[.int .i64 4, .int .i64 wh, .string s, .int .i64 N]] w (StepPost w pb po S) := by
  have HC0 : Hid (w.cell? ⟨pb, po, none⟩ = some x) := c0
  have HC1 : Hid (w.cell? ⟨pb, po + 1, none⟩ = some y) := c1
  have HPB : Hid (¬ S pb) := hpb
  have HS : Hid (∀ k, S k → k < w.heap.size) := hS
  have hlt := World.block_lt_of_cell? w _ c0
  have HX : Hid (Boxed w (w.alloc (.cells #[.int .i64 4, .int .i64 wh, .string s, .int .i64 N] 42)) w.heap.size s N) := boxed w 4 wh N s
  have HH : Hid (Half (w.alloc (.cells #[.int .i64 4, .int .i64 wh, .string s, .int .i64 N] 42)) x y S) := hide (hh.but (T := fun _ => False) (But.of_below HX.out.bel) (fun _ _ e => e))
  clear hpb hS hh
  go_enter Try.func14, Try.ntmps14
  go_wp2
  have K0 : (w.alloc (.cells #[.int .i64 4, .int .i64 wh, .string s, .int .i64 N] 42)).cell? ⟨pb, po, none⟩ = some x := (HX.out.bel.cell (p := ⟨pb, po, none⟩) hlt).trans c0
  have K1 : (w.alloc (.cells #[.int .i64 4, .int .i64 wh, .string s, .int .i64 N] 42)).cell? ⟨pb, po + 1, none⟩ = some y := (HX.out.bel.cell (p := ⟨pb, po + 1, none⟩) hlt).trans c1
  have K2 := HX.out.c2
  have K3 := HX.out.c3
  generalize hW : w.alloc (.cells #[.int .i64 4, .int .i64 wh, .string s, .int .i64 N] 42) = W0 at HX HH K0 K1 K2 K3 ⊢
  have HOB : Hid (¬ S w.heap.size) := hide (fun e => by have := HS.out _ e; omega)
  clear c0 c1 hW
  obtain ⟨ob, hob⟩ : ∃ ob, ob = w.heap.size := ⟨_, rfl⟩
  rw [← hob] at K2 K3 HOB ⊢
  have HX' : Hid (Below w.heap.size w W0) := HX.out.bel
  clear HX hob
  rcases HH.out with ⟨rfl, rfl⟩ | ⟨tb, rb, S1, S2, L, v, mv, v2, rfl, rfl, ht, hrt, hd1, hd2⟩
  · have HQ1 : Hid (∀ n, Calls Try.prog 16 #[.pointer none] (W0.drewN n) fun e w' => e = .returned (.int .i64 0) ∧ w' = W0.drewN n) := hide (fun n => len_nil _)
    have HQ2 : Hid (∀ n, Calls Try.prog 25 #[.pointer none] (W0.drewN n) fun e w' => e = .returned (.int .i64 0) ∧ w' = W0.drewN n) := hide (fun n => rlen_nil _)
    have HQ3 : Hid (∀ n, Calls Try.prog 23 #[.pointer none] (W0.drewN n) fun e w' => e = .returned (.int .i64 0) ∧ w' = W0.drewN n) := hide (fun n => bytes_nil _)
    have HQ4 : Hid (∀ n, Calls Try.prog 26 #[.pointer none] (W0.drewN n) fun e w' => e = .returned (.int .i64 0) ∧ w' = W0.drewN n) := hide (fun n => rbytes_nil _)
    go_quiet ((first
      | (go_at_call 16; exact Calls.quiet_of_same (HQ1.out _))
      | (go_at_call 25; exact Calls.quiet_of_same (HQ2.out _))
      | (go_at_call 23; exact Calls.quiet_of_same (HQ3.out _))
      | (go_at_call 26; exact Calls.quiet_of_same (HQ4.out _))))
    go_wp2
    go_ret
    exact step_same HC0.out HC1.out HPB.out (But.of_below (below_drewN HX'.out nq)) (S' := S) (HH.out.but (T := fun _ => False) (But.of_below (below_drewN (Below.refl _ _) nq)) (fun _ _ e => e)) (fun k hk => .inl hk)
  · have htn : ∀ n, Tab (W0.drewN n) tb S1 L v mv := fun n => ht.kept (T := fun _ => False) (But.of_below (below_drewN (Below.refl _ _) n)) (fun _ _ e => e)
    have hrn : ∀ n, RTab (W0.drewN n) rb S2 L v2 := fun n => hrt.kept (T := fun _ => False) (But.of_below (below_drewN (Below.refl _ _) n)) (fun _ _ e => e)
    have HQ1 : Hid (∀ n, Calls Try.prog 16 #[.pointer (some ⟨tb, 0, none⟩)] (W0.drewN n) fun e w' => e = .returned (.int .i64 (L.length : Nat)) ∧ w' = W0.drewN n) := hide (fun n => by obtain ⟨a9, c9, e9⟩ := own_form (htn n).own; have h0 := (htn n).cell0; rw [e9] at h0; exact len_any tb L.length c9 a9 _ h0)
    have HQ2 : Hid (∀ n, Calls Try.prog 25 #[.pointer (some ⟨rb, 0, none⟩)] (W0.drewN n) fun e w' => e = .returned (.int .i64 (L.length : Nat)) ∧ w' = W0.drewN n) := hide (fun n => by obtain ⟨a9, c9, e9⟩ := own_form (hrn n).own; have h0 := (hrn n).cell0; rw [e9] at h0; exact rlen_any rb L.length c9 a9 _ h0)
    have HQ3 : Hid (∀ n, Calls Try.prog 23 #[.pointer (some ⟨tb, 0, none⟩)] (W0.drewN n) fun e w' => e = .returned (.int .i64 (total L : Nat)) ∧ w' = W0.drewN n) := hide (fun n => bytes_any tb _ _ (htn n).cell2)
    have HQ4 : Hid (∀ n, Calls Try.prog 26 #[.pointer (some ⟨rb, 0, none⟩)] (W0.drewN n) fun e w' => e = .returned (.int .i64 (total L : Nat)) ∧ w' = W0.drewN n) := hide (fun n => rbytes_any rb _ _ (hrn n).cell1)
    clear htn hrn ht hrt hd1 hd2
    go_quiet ((first
      | (go_at_call 16; exact Calls.quiet_of_same (HQ1.out _))
      | (go_at_call 25; exact Calls.quiet_of_same (HQ2.out _))
      | (go_at_call 23; exact Calls.quiet_of_same (HQ3.out _))
      | (go_at_call 26; exact Calls.quiet_of_same (HQ4.out _))))
    go_wp2
    go_ret
    exact step_same HC0.out HC1.out HPB.out (But.of_below (below_drewN HX'.out nq)) (S' := S) (HH.out.but (T := fun _ => False) (But.of_below (below_drewN (Below.refl _ _) nq)) (fun _ _ e => e)) (fun k hk => .inl hk)
theorem set_pair {W : World} {pb po : Nat} {x y x' y' : Value} (K0 : W.cell? ⟨pb, po, none⟩ = some x) (K1 : W.cell? ⟨pb, po + 1, none⟩ = some y) :
    ((W.setCell ⟨pb, po, none⟩ x').setCell ⟨pb, po + 1, none⟩ y').cell? ⟨pb, po, none⟩ = some x' ∧ ((W.setCell ⟨pb, po, none⟩ x').setCell ⟨pb, po + 1, none⟩ y').cell? ⟨pb, po + 1, none⟩ = some y' ∧
      ∀ q, q ≠ po → q ≠ po + 1 → ((W.setCell ⟨pb, po, none⟩ x').setCell ⟨pb, po + 1, none⟩ y').cell? ⟨pb, q, none⟩ = W.cell? ⟨pb, q, none⟩ := by
  have hne : (⟨pb, po + 1, none⟩ : Addr) ≠ ⟨pb, po, none⟩ := by simp
  have h1 : (W.setCell ⟨pb, po, none⟩ x').cell? ⟨pb, po + 1, none⟩ = some y := (World.cell?_setCell_other W _ _ _ (fun e => hne e.symm)).trans K1
  refine ⟨(World.cell?_setCell_other _ _ _ _ hne).trans (World.cell?_setCell_same W _ _ K0), World.cell?_setCell_same _ _ _ h1, fun q h2 h3 => ?_⟩
  rw [World.cell?_setCell_other _ _ _ _ (by simp only [ne_eq, Addr.mk.injEq]; omega), World.cell?_setCell_other _ _ _ _ (by simp only [ne_eq, Addr.mk.injEq]; omega)]
theorem step_set {w W' : World} {pb po : Nat} {x y x' y' : Value} {S S' : Nat → Prop} (c0 : w.cell? ⟨pb, po, none⟩ = some x) (c1 : w.cell? ⟨pb, po + 1, none⟩ = some y)
    (hb : Below ((w.setCell ⟨pb, po, none⟩ x').setCell ⟨pb, po + 1, none⟩ y').heap.size ((w.setCell ⟨pb, po, none⟩ x').setCell ⟨pb, po + 1, none⟩ y') W') (hh : Half W' x' y' S') (hs : ∀ k, S' k → S k ∨ (w.heap.size ≤ k ∧ k < W'.heap.size)) :
    StepPost w pb po S (.returned (.bool true)) W' := by
  have hlt := World.block_lt_of_cell? w _ c0
  have hlt2 : pb < ((w.setCell ⟨pb, po, none⟩ x').setCell ⟨pb, po + 1, none⟩ y').heap.size := by rw [size_set, size_set]; exact hlt
  obtain ⟨h1, h2, h3⟩ := set_pair (x' := x') (y' := y') c0 c1
  have k2 : But (fun k => S k ∨ k = pb) w ((w.setCell ⟨pb, po, none⟩ x').setCell ⟨pb, po + 1, none⟩ y') := ((But.refl _ w).setCell ⟨pb, po, none⟩ (fun _ => .inr rfl) x').setCell ⟨pb, po + 1, none⟩ (fun _ => .inr rfl) y'
  refine ⟨rfl, x', y', S', (hb.cell (p := ⟨pb, po, none⟩) hlt2).trans h1, (hb.cell (p := ⟨pb, po + 1, none⟩) hlt2).trans h2, hh, hs, fun q g1 g2 => (hb.cell (p := ⟨pb, q, none⟩) hlt2).trans (h3 q g1 g2), fun q => ?_, k2.trans (But.of_below (S := fun _ => False) hb) (fun _ _ e => e.elim)⟩
  rw [hb.frozen (p := ⟨pb, q, none⟩) hlt2, World.frozen?_setCell, World.frozen?_setCell]
set_option maxHeartbeats 2000000 in
set_option maxRecDepth 4000 in
theorem step_none (pb po : Nat) (x y : Value) (S : Nat → Prop) (wh N : Int) (s : ByteArray) (w : World) (c0 : w.cell? ⟨pb, po, none⟩ = some x) (c1 : w.cell? ⟨pb, po + 1, none⟩ = some y) (fr : ∀ q, w.frozen? ⟨pb, q, none⟩ = false) :
    Calls Try.prog 14 #[.pointer (some ⟨pb, po, none⟩), .agg #[.int .i64 6, .int .i64 wh, .string s, .int .i64 N]] w (StepPost w pb po S) := by
  have HC0 : Hid (w.cell? ⟨pb, po, none⟩ = some x) := c0
  have HC1 : Hid (w.cell? ⟨pb, po + 1, none⟩ = some y) := c1
  have hlt := World.block_lt_of_cell? w _ c0
  go_enter Try.func14, Try.ntmps14
  go_wp2
  go_ret
  exact step_set HC0.out HC1.out ((Below.refl _ _).alloc (Nat.le_refl _) _) (S' := fun _ => False) (.inl ⟨rfl, rfl⟩) (fun _ e => e.elim)
set_option maxHeartbeats 2000000 in
set_option maxRecDepth 4000 in
theorem step_new (pb po : Nat) (x y : Value) (S : Nat → Prop) (wh N : Int) (s : ByteArray) (w : World) (c0 : w.cell? ⟨pb, po, none⟩ = some x) (c1 : w.cell? ⟨pb, po + 1, none⟩ = some y) (fr : ∀ q, w.frozen? ⟨pb, q, none⟩ = false) :
    Calls Try.prog 14 #[.pointer (some ⟨pb, po, none⟩), .agg #[.int .i64 7, .int .i64 wh, .string s, .int .i64 N]] w (StepPost w pb po S) := by
  have HC0 : Hid (w.cell? ⟨pb, po, none⟩ = some x) := c0
  have HC1 : Hid (w.cell? ⟨pb, po + 1, none⟩ = some y) := c1
  have hlt := World.block_lt_of_cell? w _ c0
  have HFr : Hid (∀ q, w.frozen? ⟨pb, q, none⟩ = false) := fr
  go_enter Try.func14, Try.ntmps14
  go_wp2_with fail
  have hbl : Below w.heap.size w (w.alloc (.cells #[.int .i64 7, .int .i64 wh, .string s, .int .i64 N] 42)) := (Below.refl _ w).alloc (Nat.le_refl _) _
  generalize w.alloc (.cells #[.int .i64 7, .int .i64 wh, .string s, .int .i64 N] 42) = W0 at hbl ⊢
  refine (new_any W0).mono ?_
  rintro e w1 ⟨rfl, hw1⟩
  have hb1 : Below W0.heap.size W0 w1 := by rw [hw1]; exact (Below.refl _ W0).alloc (Nat.le_refl _) _
  have HT1 : Hid (Tab w1 W0.heap.size (fun k => k = W0.heap.size) [] (.slice none 0 0) (.map none)) := hide (by rw [hw1]; exact ⟨heap_alloc_new W0 _, World.ownsRow_nil _ _ _ _, .inl ⟨rfl, rfl⟩, rfl, fun g e => by simp [Value.ownBlock] at e, List.nodup_nil, by simp, by simp, by simp [total]⟩)
  have HB1 : Hid (Below w.heap.size w w1) := hide (hbl.trans (hb1.mono hbl.size))
  have HTB : Hid (w.heap.size ≤ W0.heap.size ∧ W0.heap.size < w1.heap.size) := hide ⟨hbl.size, HT1.out.lt⟩
  generalize W0.heap.size = tb at HT1 HTB ⊢
  have C0 := (HB1.out.cell (p := ⟨pb, po, none⟩) hlt).trans HC0.out
  have C1 := (HB1.out.cell (p := ⟨pb, po + 1, none⟩) hlt).trans HC1.out
  have F1 : ∀ q, w1.frozen? ⟨pb, q, none⟩ = false := fun q => (HB1.out.frozen (p := ⟨pb, q, none⟩) hlt).trans (HFr.out q)
  clear hw1 hb1 hbl c0 c1 fr
  go_wp2_with fail
  refine (rnew_any _).mono ?_
  rintro e w2 ⟨rfl, hw2⟩
  have hlt1 : pb < w1.heap.size := World.block_lt_of_cell? w1 _ C0
  have hne : (⟨pb, po, none⟩ : Addr) ≠ ⟨pb, po + 1, none⟩ := by simp
  have hb2 : Below w1.heap.size (w1.setCell ⟨pb, po, none⟩ (.pointer (some ⟨tb, 0, none⟩))) w2 := by rw [hw2]; exact (Below.refl _ _).alloc (by rw [size_set]; exact Nat.le_refl _) _
  have HR2 : Hid (RTab w2 w1.heap.size (fun k => k = w1.heap.size) [] (.slice none 0 0)) := hide (by
    have hh := heap_alloc_new (w1.setCell ⟨pb, po, none⟩ (.pointer (some ⟨tb, 0, none⟩))) (.cells #[.slice none 0 0, .int .i64 0] 76)
    rw [← hw2, size_set] at hh
    exact ⟨hh, World.ownsRow_nil _ _ _ _, rfl, fun g e => by simp [Value.ownBlock] at e, List.nodup_nil, by simp, by simp, by simp [total]⟩)
  have D0 : w2.cell? ⟨pb, po, none⟩ = some (.pointer (some ⟨tb, 0, none⟩)) := (hb2.cell (p := ⟨pb, po, none⟩) hlt1).trans (World.cell?_setCell_same w1 _ _ C0)
  have D1 : w2.cell? ⟨pb, po + 1, none⟩ = some y := (hb2.cell (p := ⟨pb, po + 1, none⟩) hlt1).trans ((World.cell?_setCell_other w1 _ _ _ hne).trans C1)
  have F2 : ∀ q, w2.frozen? ⟨pb, q, none⟩ = false := fun q => by rw [hb2.frozen (p := ⟨pb, q, none⟩) hlt1, World.frozen?_setCell]; exact F1 q
  have HO2 : Hid (∀ q, q ≠ po → w2.cell? ⟨pb, q, none⟩ = w.cell? ⟨pb, q, none⟩) := hide (fun q hq => by
    rw [hb2.cell (p := ⟨pb, q, none⟩) hlt1, World.cell?_setCell_other w1 _ _ _ (by simp only [ne_eq, Addr.mk.injEq]; omega), HB1.out.cell (p := ⟨pb, q, none⟩) hlt])
  have HK2 : Hid (But (fun k => k = pb) w w2) := hide (((But.of_below (S := fun k => k = pb) HB1.out).setCell ⟨pb, po, none⟩ (fun _ => rfl) _).trans (T := fun _ => False) ⟨hb2.os, hb2.tape, hb2.output, hb2.size, fun k hk _ => hb2.block k (by rw [size_set] at hk; exact hk)⟩ (fun _ _ e => e.elim))
  have HT2 : Hid (Tab w2 tb (fun k => k = tb) [] (.slice none 0 0) (.map none)) := hide ((HT1.out.kept (T := fun k => k = pb) ((But.refl (fun k => k = pb) w1).setCell ⟨pb, po, none⟩ (fun _ => rfl) _) (fun k hk e => by have := HTB.out; omega)).kept (T := fun _ => False) ⟨hb2.os, hb2.tape, hb2.output, hb2.size, fun k hk _ => hb2.block k (by rw [size_set] at hk; exact hk)⟩ (fun _ _ e => e))
  have hw12 : w1.heap.size < w2.heap.size := HR2.out.lt
  rw [size_set]
  have HRB : Hid (w1.heap.size < w2.heap.size ∧ tb < w1.heap.size ∧ w.heap.size ≤ w1.heap.size) := hide ⟨hw12, HTB.out.2, HB1.out.size⟩
  generalize w1.heap.size = rb at HR2 HRB ⊢
  clear hw2 hb2 C0 C1 F1 hlt1 hw12
  go_wp2
  go_ret
  have hW : But (fun k => k = pb) w2 (w2.setCell ⟨pb, po + 1, none⟩ (.pointer (some ⟨rb, 0, none⟩))) := (But.refl (fun k => k = pb) w2).setCell ⟨pb, po + 1, none⟩ (fun _ => rfl) _
  refine ⟨rfl, .pointer (some ⟨tb, 0, none⟩), .pointer (some ⟨rb, 0, none⟩), fun k => k = tb ∨ k = rb, (World.cell?_setCell_other w2 _ _ _ hne.symm).trans D0, World.cell?_setCell_same w2 _ _ D1, .inr ⟨tb, rb, _, _, [], _, _, _, rfl, rfl, HT2.out.kept hW ?_, HR2.out.kept hW ?_, ?_, ?_⟩, ?_, ?_, ?_, ?_⟩
  · intro k hk e; have := HTB.out; omega
  · intro k hk e; have := HRB.out; omega
  · intro k hk; exact ⟨.inl hk, fun e => by have := HRB.out; omega⟩
  · intro k hk; exact .inr hk
  · intro k hk; right; rw [size_set]; have := HRB.out; have := HTB.out; omega
  · intro q h1 h2; rw [World.cell?_setCell_other w2 _ _ _ (by simp only [ne_eq, Addr.mk.injEq]; omega)]; exact HO2.out q h1
  · intro q; rw [World.frozen?_setCell, F2 q, HFr.out q]
  · exact (HK2.out.trans hW (fun _ _ e => e)).mono (fun k hk => .inr hk)
set_option maxRecDepth 4000 in
theorem step_other (pb po : Nat) (x y : Value) (S : Nat → Prop) (kd wh N : Int) (s : ByteArray) (w : World) (c0 : w.cell? ⟨pb, po, none⟩ = some x) (c1 : w.cell? ⟨pb, po + 1, none⟩ = some y) (hpb : ¬ S pb) (hh : Half w x y S)
    (h1 : ¬ kd = 1) (h2 : ¬ kd = 2) (h3 : ¬ kd = 3) (h4 : ¬ kd = 4) (h5 : ¬ kd = 5) (h6 : ¬ kd = 6) (h7 : ¬ kd = 7) :
    Calls Try.prog 14 #[.pointer (some ⟨pb, po, none⟩), .agg #[.int .i64 kd, .int .i64 wh, .string s, .int .i64 N]] w (StepPost w pb po S) := by
  have HC0 : Hid (w.cell? ⟨pb, po, none⟩ = some x) := c0
  have HC1 : Hid (w.cell? ⟨pb, po + 1, none⟩ = some y) := c1
  have HPB : Hid (¬ S pb) := hpb
  have HH : Hid (Half w x y S) := hh
  clear c0 c1 hpb hh
  go_enter Try.func14, Try.ntmps14
  go_wp2
  go_ret
  have hbl := (Below.refl w.heap.size w).alloc (Nat.le_refl _) (.cells #[.int .i64 kd, .int .i64 wh, .string s, .int .i64 N] 42)
  exact step_same HC0.out HC1.out HPB.out (But.of_below hbl) (S' := S) (HH.out.but (T := fun _ => False) (But.of_below hbl) (fun _ _ e => e)) (fun k hk => .inl hk)
end Go.Proofs.Ytbcmheilgilipaa
