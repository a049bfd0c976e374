/-
  One step of a play: Stack.
-/
import Derived.Test.YtjpccaeojimlfaaPlyE
namespace Go.Proofs.Ytjpccaeojimlfaa
open Go.RowKit Go.Maps Go.Shelf
attribute [local go_sem] Oper.semAt_some
section
variable {w0 w : World} {pb tb ub FB GB : Nat} {f g : Nat → Nat} {Z : Nat → Nat → Prop} {L : List ByteArray} {N : Nat → List Nd} {P : Nat → List Stk}
/-- Strings that are written over. -/
structure Ovs (w3 wr : World) (base : Nat) (a : Option Addr) (n c : Nat) : Prop where
  own : ∃ xs, wr.ownsRow base 9 1 (.slice a n c) n xs
  but : But (fun g => (Value.slice a n c).ownBlock = some g) w3 wr
theorem Ovs.at {w3 wr : World} {base : Nat} {a : Option Addr} {n c : Nat} (h : Ovs w3 wr base a n c) {k : Nat} (hk : k < n) : ∃ G y, a = some ⟨G, 0, none⟩ ∧ base ≤ G ∧ wr.cell? ⟨G, k, none⟩ = some y ∧ wr.frozen? ⟨G, k, none⟩ = false ∧ ∀ u, Ovs w3 (wr.setCell ⟨G, k, none⟩ u) base a n c := by
  obtain ⟨xs, ho⟩ := h.own
  rcases ho.2 with ⟨_, e⟩ | ⟨G, cap, cur, e, hb, _⟩
  · omega
  · cases e
    have hxl : xs.length = n := by have := ho.1; simpa using this
    refine ⟨G, xs.getD k undef, rfl, hb, ?_, ho.frozenAt k, fun u => ⟨⟨_, (ho.stored k u).1⟩, h.but.setCell ⟨G, k, none⟩ (fun _ => rfl) u⟩⟩
    rw [ho.cellAt k (by omega), List.getD_eq_getElem?_getD]; simp [hxl, hk]
set_option maxHeartbeats 1000000 in
set_option maxRecDepth 4000 in
theorem step_stack (h : Ply w0 w pb tb ub FB GB f g Z L L N N P) (wh : Int) (sa : Option Addr) (sn sc : Nat) (s : ByteArray) (n : Int) (hn : -9223372036854775808 ≤ n ∧ n ≤ 9223372036854775807) :
    Calls Try.prog 43 #[.pointer (some ⟨pb, 0, none⟩), .agg #[.int .i64 1, .int .i64 wh, .slice sa sn sc, .string s, .int .i64 n]] w (StepR w0 pb) := by
  obtain ⟨i, hi, hwho⟩ := who_all wh
  have hX := boxed5 w 1 wh sa sn sc s n
  obtain ⟨W0, hW0⟩ : ∃ W0, W0 = w.alloc (opO 1 wh sa sn sc s n) := ⟨_, rfl⟩
  rw [← hW0] at hX
  unfold opO at hW0
  have h0 := h.below hX.bel
  obtain ⟨p0, p1, p2, p3⟩ := h0.cells
  obtain ⟨kF, kG⟩ := h0.forest i hi
  obtain ⟨x, hx⟩ : ∃ x, x = fPtr f i := ⟨_, rfl⟩
  obtain ⟨y, hy⟩ : ∃ y, y = fPtr g i := ⟨_, rfl⟩
  have b0 := hX.c0
  have b1 := hX.c1
  have H0 : Hid _ := hide h0
  have HX : Hid _ := hide hX
  have hi' : (i : Int) < 3 := by omega
  have b4 := hX.c4
  have HQ1 : Hid _ := hide (stack_x h0 i n hn)
  have HQ2 : Hid (∀ W : World, Below W0.heap.size W0 W → _) := hide (fun W hW => rstack_x (h0.below hW) i n)
  rw [← hx] at kF HQ1
  simp only [← hy] at kG HQ2
  have hAl : Hid ((sAns N P i n).1.length ≤ 16) := hide (by
    unfold sAns; split
    · split
      · rename_i h1 _; exact stkP_len (h0.fit i h1).rep _
      · simp
    · simp)
  obtain ⟨A, er, hA⟩ : ∃ A er, sAns N P i n = (A, er) := ⟨_, _, rfl⟩
  rw [hA] at HQ1 HQ2 hAl
  dsimp only at HQ1 HQ2 hAl
  have hAI : (A.length : Int) ≤ 16 := by have := hAl.out; omega
  clear hx hy h hX h0 p0 p1 hA hn hAl
  have HW0 : Hid _ := hide hW0
  rw [hW0] at HQ1 kF kG b0 b1 b4 p2 p3
  clear hW0
  go_enter Try.func43, Try.ntmps43
  rcases hwho with ⟨d0, rfl⟩ | ⟨d0, d2, rfl⟩ | ⟨rfl, hi3⟩
  all_goals
    go_wp2_with fail
    rw [← HW0.out] at HQ1 ⊢
    refine HQ1.out.mono ?_
    rintro e w1 ⟨a1, c1, rfl, ho1, hb1⟩
    have HB1 : Hid (Below W0.heap.size W0 w1) := hb1
    have HO1 : Hid _ := hide ho1
    have HQ3 : Hid _ := hide (HQ2.out w1 hb1)
    rw [← HW0.out] at b4
    have m4 : w1.cell? ⟨w.heap.size, 4, none⟩ = some (.int .i64 n) := cell_below b4 hb1
    clear ho1 hb1 HQ2 HQ1 b0 b1 b4 kF kG p2 p3
    go_wp2_with fail
    refine HQ3.out.mono ?_
    rintro e w2 ⟨a2, c2, rfl, ho2, hb2⟩
    have HB2 : Hid (Below W0.heap.size W0 w2) := hide (HB1.out.trans (hb2.mono HB1.out.size))
    have HQ4 : Hid _ := hide (texts_any a1 a2 A.length c1 A.length c2 A A w2 (SRow.of_own (own_but (S := fun _ => False) HO1.out (But.of_below hb2) (fun _ _ e => e))) (SRow.of_own ho2) (by omega))
    rw [eqB_self] at HQ4
    have HO2 : Hid _ := hide (own_but (S := fun _ => False) HO1.out (But.of_below hb2) (fun _ _ e => e))
    clear ho2 hb2 HQ3 m4
    go_wp2_with fail
    refine HQ4.out.mono ?_
    rintro e w3 ⟨rfl, m3, hw3⟩
    have HB3 : Hid (Below W0.heap.size W0 w3) := hide (by rw [hw3]; exact below_drewN HB2.out m3)
    have HV3 : Hid (Ovs w3 w3 W0.heap.size a1 A.length c1) := hide ⟨⟨_, by rw [hw3]; exact own_but HO2.out (But.of_below (S := fun _ => False) (below_drewN (Below.refl _ _) m3)) (fun _ _ e => e)⟩, But.refl _ _⟩
    clear hw3 HQ4 HO2
    go_wp2
    go_loopw [20] (fun q wr => ∃ k : Nat, k ≤ A.length ∧ q = .int .i64 k ∧ Ovs w3 wr W0.heap.size a1 A.length c1) (fun q _ => A.length - (intOf q).toNat)
    case atStart => exact ⟨0, Nat.zero_le _, rfl, HV3.out⟩
    case round =>
      obtain ⟨k, hk, rfl, hO⟩ := hrel
      have HO : Hid _ := hide hO
      by_cases hlt : k < A.length
      · obtain ⟨G, y, rfl, _, hc, hf, hu⟩ := hO.at hlt
        have HU : Hid _ := hide hu
        have hltI : (k : Int) < A.length := by omega
        clear hO hu
        go_wp2
        exact ⟨⟨k + 1, by omega, by go_num, HU.out _⟩, by simp [intOf]; omega⟩
      · have hltI : ¬ (k : Int) < A.length := by omega
        clear hO
        go_wp2
        go_ret
        have hG : Ply w0 wr pb tb ub FB GB f g Z L L N N P := H0.out.since HB3.out HO.out.but (fun k e => by
          obtain ⟨xs, ho⟩ := HO.out.own
          exact own_base ho k e)
        exact ⟨rfl, _, _, _, _, _, _, _, _, _, _, hG⟩
end
end Go.Proofs.Ytjpccaeojimlfaa
