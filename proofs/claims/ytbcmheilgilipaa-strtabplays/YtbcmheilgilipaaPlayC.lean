/-
  More steps with a pair of tables.
-/
import Derived.Test.YtbcmheilgilipaaPlayB
namespace Go.Proofs.Ytbcmheilgilipaa
open Go.RowKit Go.Maps
set_option maxHeartbeats 2000000 in
set_option maxRecDepth 4000 in
theorem step_find (pb po : Nat) (x y : Value) (S : Nat → Prop) (wh N : Int) (s : ByteArray) (w : World) (c0 : w.cell? ⟨pb, po, none⟩ = some x) (c1 : w.cell? ⟨pb, po + 1, none⟩ = some y) (hpb : ¬ S pb) (hS : ∀ k, S k → k < w.heap.size) (hs : s.size ≤ maxLen) (hh : Half w x y S) :
    Calls Try.prog 14 #[.pointer (some ⟨pb, po, none⟩), .agg #[.int .i64 2, .int .i64 wh, .string s, .int .i64 N]] w (StepPost w pb po S) := by
  have HC0 : Hid (w.cell? ⟨pb, po, none⟩ = some x) := c0
  have HC1 : Hid (w.cell? ⟨pb, po + 1, none⟩ = some y) := c1
  have HPB : Hid (¬ S pb) := hpb
  have HS : Hid (∀ k, S k → k < w.heap.size) := hS
  have HSm : Hid (s.size ≤ maxLen) := hs
  have hlt := World.block_lt_of_cell? w _ c0
  have HX : Hid (Boxed w (w.alloc (.cells #[.int .i64 2, .int .i64 wh, .string s, .int .i64 N] 42)) w.heap.size s N) := boxed w 2 wh N s
  have HH : Hid (Half (w.alloc (.cells #[.int .i64 2, .int .i64 wh, .string s, .int .i64 N] 42)) x y S) := hide (hh.but (T := fun _ => False) (But.of_below HX.out.bel) (fun _ _ e => e))
  clear hs hpb hS hh
  go_enter Try.func14, Try.ntmps14
  go_wp2
  have K0 : (w.alloc (.cells #[.int .i64 2, .int .i64 wh, .string s, .int .i64 N] 42)).cell? ⟨pb, po, none⟩ = some x := (HX.out.bel.cell (p := ⟨pb, po, none⟩) hlt).trans c0
  have K1 : (w.alloc (.cells #[.int .i64 2, .int .i64 wh, .string s, .int .i64 N] 42)).cell? ⟨pb, po + 1, none⟩ = some y := (HX.out.bel.cell (p := ⟨pb, po + 1, none⟩) hlt).trans c1
  have K2 := HX.out.c2
  have K3 := HX.out.c3
  generalize hW : w.alloc (.cells #[.int .i64 2, .int .i64 wh, .string s, .int .i64 N] 42) = W0 at HX HH K0 K1 K2 K3 ⊢
  have HOB : Hid (¬ S w.heap.size) := hide (fun e => by have := HS.out _ e; omega)
  clear c0 c1 hW
  obtain ⟨ob, hob⟩ : ∃ ob, ob = w.heap.size := ⟨_, rfl⟩
  rw [← hob] at K2 K3 HOB ⊢
  have HX' : Hid (Below w.heap.size w W0) := HX.out.bel
  clear HX hob
  rcases HH.out with ⟨rfl, rfl⟩ | ⟨tb, rb, S1, S2, L, v, mv, v2, rfl, rfl, ht, hrt, hd1, hd2⟩
  · have HQ1 : Hid (∀ n, Calls Try.prog 28 #[.pointer none, .string s] (W0.drewN n) fun e w' => e = .returned (.tuple #[.int .i64 0, .bool false]) ∧ w' = W0.drewN n) := hide (fun n => find_nil s (W0.drewN n))
    have HQ2 : Hid (∀ n, Calls Try.prog 33 #[.pointer none, .string s] (W0.drewN n) fun e w' => e = .returned (.tuple #[.int .i64 0, .bool false]) ∧ w' = W0.drewN n) := hide (fun n => rfind_nil s (W0.drewN n))
    go_quiet ((go_at_call 28; exact Calls.quiet_of_same (HQ1.out _)))
    go_wp2
    have M1 := cell_drewN K1 nq
    have M2 := cell_drewN K2 nq
    have HB1 : Hid (Below w.heap.size w (W0.drewN nq)) := hide (below_drewN HX'.out nq)
    have HQ2' : Hid (∀ n, Calls Try.prog 33 #[.pointer none, .string s] ((W0.drewN nq).drewN n) fun e w' => e = .returned (.tuple #[.int .i64 0, .bool false]) ∧ w' = (W0.drewN nq).drewN n) := hide (fun n => by have := HQ2.out (nq + n); rwa [← World.drewN_drewN] at this)
    have HW1 : Hid (Half (W0.drewN nq) (.pointer none) (.pointer none) S) := hide (HH.out.but (T := fun _ => False) (But.of_below (below_drewN (Below.refl _ _) nq)) (fun _ _ e => e))
    generalize W0.drewN nq = W1 at M1 M2 HB1 HQ2' HW1 ⊢
    clear K0 K1 K2 K3
    go_quiet ((go_at_call 33; exact Calls.quiet_of_same (HQ2'.out _)))
    go_wp2
    go_ret
    have hbw := below_drewN HB1.out nq
    exact step_same HC0.out HC1.out HPB.out (But.of_below hbw) (S' := S) (HW1.out.but (T := fun _ => False) (But.of_below (below_drewN (Below.refl _ _) nq)) (fun _ _ e => e)) (fun k hk => .inl hk)
  · have htn : ∀ n, Tab (W0.drewN n) tb S1 L v mv := fun n => ht.kept (T := fun _ => False) (But.of_below (below_drewN (Below.refl _ _) n)) (fun _ _ e => e)
    have hrn : ∀ n, RTab (W0.drewN n) rb S2 L v2 := fun n => hrt.kept (T := fun _ => False) (But.of_below (below_drewN (Below.refl _ _) n)) (fun _ _ e => e)
    obtain ⟨i1, b1, hV⟩ : ∃ (i1 : Int) (b1 : Bool), lookV L s = .tuple #[.int .i64 i1, .bool b1] := ⟨_, _, rfl⟩
    have HQ1 : Hid (∀ n, Calls Try.prog 28 #[.pointer (some ⟨tb, 0, none⟩), .string s] (W0.drewN n) fun e w' => e = .returned (.tuple #[.int .i64 i1, .bool b1]) ∧ w' = W0.drewN n) := hide (fun n => by have := find_any (htn n) s HSm.out; rwa [hV] at this)
    have HQ2 : Hid (∀ n, Calls Try.prog 33 #[.pointer (some ⟨rb, 0, none⟩), .string s] (W0.drewN n) fun e w' => e = .returned (.tuple #[.int .i64 i1, .bool b1]) ∧ w' = W0.drewN n) := hide (fun n => by have := rfind_any (hrn n) s; rwa [hV] at this)
    clear htn hrn ht hrt hd1 hd2 hV
    go_quiet ((go_at_call 28; exact Calls.quiet_of_same (HQ1.out _)))
    go_wp2
    have M1 := cell_drewN K1 nq
    have M2 := cell_drewN K2 nq
    have HB1 : Hid (Below w.heap.size w (W0.drewN nq)) := hide (below_drewN HX'.out nq)
    have HQ2' : Hid (∀ n, Calls Try.prog 33 #[.pointer (some ⟨rb, 0, none⟩), .string s] ((W0.drewN nq).drewN n) fun e w' => e = .returned (.tuple #[.int .i64 i1, .bool b1]) ∧ w' = (W0.drewN nq).drewN n) := hide (fun n => by have := HQ2.out (nq + n); rwa [← World.drewN_drewN] at this)
    have HW1 : Hid (Half (W0.drewN nq) (.pointer (some ⟨tb, 0, none⟩)) (.pointer (some ⟨rb, 0, none⟩)) S) := hide (HH.out.but (T := fun _ => False) (But.of_below (below_drewN (Below.refl _ _) nq)) (fun _ _ e => e))
    generalize W0.drewN nq = W1 at M1 M2 HB1 HQ2' HW1 ⊢
    clear K0 K1 K2 K3
    go_quiet ((go_at_call 33; exact Calls.quiet_of_same (HQ2'.out _)))
    go_wp2
    go_ret
    have hbw := below_drewN HB1.out nq
    exact step_same HC0.out HC1.out HPB.out (But.of_below hbw) (S' := S) (HW1.out.but (T := fun _ => False) (But.of_below (below_drewN (Below.refl _ _) nq)) (fun _ _ e => e)) (fun k hk => .inl hk)
set_option maxHeartbeats 2000000 in
set_option maxRecDepth 4000 in
theorem step_text (pb po : Nat) (x y : Value) (S : Nat → Prop) (wh N : Int) (s : ByteArray) (w : World) (c0 : w.cell? ⟨pb, po, none⟩ = some x) (c1 : w.cell? ⟨pb, po + 1, none⟩ = some y) (hpb : ¬ S pb) (hS : ∀ k, S k → k < w.heap.size) (hN : -9223372036854775808 ≤ N ∧ N ≤ 9223372036854775807) (hh : Half w x y S) :
    Calls Try.prog 14 #[.pointer (some ⟨pb, po, none⟩), .agg #[.int .i64 3, .int .i64 wh, .string s, .int .i64 N]] w (StepPost w pb po S) := by
  have HC0 : Hid (w.cell? ⟨pb, po, none⟩ = some x) := c0
  have HC1 : Hid (w.cell? ⟨pb, po + 1, none⟩ = some y) := c1
  have HPB : Hid (¬ S pb) := hpb
  have HS : Hid (∀ k, S k → k < w.heap.size) := hS
  have HN : Hid (-9223372036854775808 ≤ N ∧ N ≤ 9223372036854775807) := hN
  have hlt := World.block_lt_of_cell? w _ c0
  have HX : Hid (Boxed w (w.alloc (.cells #[.int .i64 3, .int .i64 wh, .string s, .int .i64 N] 42)) w.heap.size s N) := boxed w 3 wh N s
  have HH : Hid (Half (w.alloc (.cells #[.int .i64 3, .int .i64 wh, .string s, .int .i64 N] 42)) x y S) := hide (hh.but (T := fun _ => False) (But.of_below HX.out.bel) (fun _ _ e => e))
  clear hN hpb hS hh
  go_enter Try.func14, Try.ntmps14
  go_wp2
  have K0 : (w.alloc (.cells #[.int .i64 3, .int .i64 wh, .string s, .int .i64 N] 42)).cell? ⟨pb, po, none⟩ = some x := (HX.out.bel.cell (p := ⟨pb, po, none⟩) hlt).trans c0
  have K1 : (w.alloc (.cells #[.int .i64 3, .int .i64 wh, .string s, .int .i64 N] 42)).cell? ⟨pb, po + 1, none⟩ = some y := (HX.out.bel.cell (p := ⟨pb, po + 1, none⟩) hlt).trans c1
  have K2 := HX.out.c2
  have K3 := HX.out.c3
  generalize hW : w.alloc (.cells #[.int .i64 3, .int .i64 wh, .string s, .int .i64 N] 42) = W0 at HX HH K0 K1 K2 K3 ⊢
  have HOB : Hid (¬ S w.heap.size) := hide (fun e => by have := HS.out _ e; omega)
  clear c0 c1 hW
  obtain ⟨ob, hob⟩ : ∃ ob, ob = w.heap.size := ⟨_, rfl⟩
  rw [← hob] at K2 K3 HOB ⊢
  have HX' : Hid (Below w.heap.size w W0) := HX.out.bel
  clear HX hob
  rcases HH.out with ⟨rfl, rfl⟩ | ⟨tb, rb, S1, S2, L, v, mv, v2, rfl, rfl, ht, hrt, hd1, hd2⟩
  · have HQ1 : Hid (∀ n, Calls Try.prog 17 #[.pointer none, .int .i64 N] (W0.drewN n) fun e w' => e = .returned (.tuple #[.string ⟨#[]⟩, .int .i64 1]) ∧ w' = W0.drewN n) := hide (fun n => text_nil N (W0.drewN n))
    have HQ2 : Hid (∀ n, Calls Try.prog 27 #[.pointer none, .int .i64 N] (W0.drewN n) fun e w' => e = .returned (.tuple #[.string ⟨#[]⟩, .int .i64 1]) ∧ w' = W0.drewN n) := hide (fun n => rtext_nil N (W0.drewN n))
    go_quiet ((go_at_call 17; exact Calls.quiet_of_same (HQ1.out _)))
    go_wp2
    have M1 := cell_drewN K1 nq
    have M2 := cell_drewN K3 nq
    have HB1 : Hid (Below w.heap.size w (W0.drewN nq)) := hide (below_drewN HX'.out nq)
    have HQ2' : Hid (∀ n, Calls Try.prog 27 #[.pointer none, .int .i64 N] ((W0.drewN nq).drewN n) fun e w' => e = .returned (.tuple #[.string ⟨#[]⟩, .int .i64 1]) ∧ w' = (W0.drewN nq).drewN n) := hide (fun n => by have := HQ2.out (nq + n); rwa [← World.drewN_drewN] at this)
    have HW1 : Hid (Half (W0.drewN nq) (.pointer none) (.pointer none) S) := hide (HH.out.but (T := fun _ => False) (But.of_below (below_drewN (Below.refl _ _) nq)) (fun _ _ e => e))
    generalize W0.drewN nq = W1 at M1 M2 HB1 HQ2' HW1 ⊢
    clear K0 K1 K2 K3
    go_quiet ((go_at_call 27; exact Calls.quiet_of_same (HQ2'.out _)))
    go_wp2
    go_ret
    have hbw := below_drewN HB1.out nq
    exact step_same HC0.out HC1.out HPB.out (But.of_below hbw) (S' := S) (HW1.out.but (T := fun _ => False) (But.of_below (below_drewN (Below.refl _ _) nq)) (fun _ _ e => e)) (fun k hk => .inl hk)
  · have htn : ∀ n, Tab (W0.drewN n) tb S1 L v mv := fun n => ht.kept (T := fun _ => False) (But.of_below (below_drewN (Below.refl _ _) n)) (fun _ _ e => e)
    have hrn : ∀ n, RTab (W0.drewN n) rb S2 L v2 := fun n => hrt.kept (T := fun _ => False) (But.of_below (below_drewN (Below.refl _ _) n)) (fun _ _ e => e)
    obtain ⟨s1, i1, hV⟩ : ∃ (s1 : ByteArray) (i1 : Int), textV L N = .tuple #[.string s1, .int .i64 i1] := by
      unfold textV; split
      · exact ⟨_, _, rfl⟩
      · exact ⟨_, _, rfl⟩
    have HQ1 : Hid (∀ n, Calls Try.prog 17 #[.pointer (some ⟨tb, 0, none⟩), .int .i64 N] (W0.drewN n) fun e w' => e = .returned (.tuple #[.string s1, .int .i64 i1]) ∧ w' = W0.drewN n) := hide (fun n => by obtain ⟨a9, c9, e9⟩ := own_form (htn n).own; have h0 := (htn n).cell0; have h1 := (htn n).own; rw [e9] at h0 h1; have := text_any tb L.length c9 a9 L N _ h0 (SRow.of_own h1) HN.out.1 HN.out.2; rwa [hV] at this)
    have HQ2 : Hid (∀ n, Calls Try.prog 27 #[.pointer (some ⟨rb, 0, none⟩), .int .i64 N] (W0.drewN n) fun e w' => e = .returned (.tuple #[.string s1, .int .i64 i1]) ∧ w' = W0.drewN n) := hide (fun n => by obtain ⟨a9, c9, e9⟩ := own_form (hrn n).own; have h0 := (hrn n).cell0; have h1 := (hrn n).own; rw [e9] at h0 h1; have := rtext_any rb L.length c9 a9 L N _ h0 (SRow.of_own h1) HN.out.1 HN.out.2; rwa [hV] at this)
    clear htn hrn ht hrt hd1 hd2 hV
    go_quiet ((go_at_call 17; exact Calls.quiet_of_same (HQ1.out _)))
    go_wp2
    have M1 := cell_drewN K1 nq
    have M2 := cell_drewN K3 nq
    have HB1 : Hid (Below w.heap.size w (W0.drewN nq)) := hide (below_drewN HX'.out nq)
    have HQ2' : Hid (∀ n, Calls Try.prog 27 #[.pointer (some ⟨rb, 0, none⟩), .int .i64 N] ((W0.drewN nq).drewN n) fun e w' => e = .returned (.tuple #[.string s1, .int .i64 i1]) ∧ w' = (W0.drewN nq).drewN n) := hide (fun n => by have := HQ2.out (nq + n); rwa [← World.drewN_drewN] at this)
    have HW1 : Hid (Half (W0.drewN nq) (.pointer (some ⟨tb, 0, none⟩)) (.pointer (some ⟨rb, 0, none⟩)) S) := hide (HH.out.but (T := fun _ => False) (But.of_below (below_drewN (Below.refl _ _) nq)) (fun _ _ e => e))
    generalize W0.drewN nq = W1 at M1 M2 HB1 HQ2' HW1 ⊢
    clear K0 K1 K2 K3
    go_quiet ((go_at_call 27; exact Calls.quiet_of_same (HQ2'.out _)))
    go_wp2
    go_ret
    have hbw := below_drewN HB1.out nq
    exact step_same HC0.out HC1.out HPB.out (But.of_below hbw) (S' := S) (HW1.out.but (T := fun _ => False) (But.of_below (below_drewN (Below.refl _ _) nq)) (fun _ _ e => e)) (fun k hk => .inl hk)
end Go.Proofs.Ytbcmheilgilipaa
