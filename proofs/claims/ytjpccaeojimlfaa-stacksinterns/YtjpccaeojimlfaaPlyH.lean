/-
  One step of a play: Intern.
-/
import Derived.Test.YtjpccaeojimlfaaPlyG
namespace Go.Proofs.Ytjpccaeojimlfaa
open Go.RowKit Go.Maps Go.Shelf
attribute [local go_sem] Oper.semAt_some
section
variable {w0 w : World} {pb tb ub FB GB : Nat} {f g : Nat → Nat} {Z : Nat → Nat → Prop} {L : List ByteArray} {N : Nat → List Nd} {P : Nat → List Stk}
theorem Rm.to {u v w w' : World} {a : Option Addr} {n c k : Nat} {l : List ByteArray} {U : Nat → Prop} (h : Rm u w a n c l k) (hb : But U w w') (hU : ∀ g, u.heap.size ≤ g → ¬ U g) (hv : v.heap.size ≤ u.heap.size) (hbel : Below v.heap.size v w') : Rm v w' a n c l k :=
  ⟨own_mono (own_but h.1 hb (fun g hg => hU g (own_base h.1 g hg))) hv, hbel⟩
theorem Rm.ovs {u w : World} {a : Option Addr} {n c k : Nat} {l : List ByteArray} (h : Rm u w a n c l k) (hl : l.length = n) (hk : 0 < k) (base : Nat) (hb : ∀ g, (Value.slice a n c).ownBlock = some g → base ≤ g) : Ovs w w base a n c := by
  refine ⟨⟨l.map Value.string, ?_⟩, But.refl _ _⟩
  obtain ⟨g, rfl, _⟩ := h.cell hl hk
  have h1 := h.1
  rw [List.map_append] at h1
  have h2 := own_take h1 (by simpa using hl)
  rcases h2.2 with ⟨e, _⟩ | ⟨g', cap, cur, e, _, r⟩
  · cases e
  · exact ⟨h2.1, .inr ⟨g', cap, cur, e, hb g' (by cases e; rfl), r⟩⟩
set_option maxHeartbeats 1000000 in
set_option maxRecDepth 4000 in
theorem step_intern (h : Ply w0 w pb tb ub FB GB f g Z L L N N P) (wh : Int) (sa : Option Addr) (sn sc : Nat) (s : ByteArray) (n : Int) (ls : List ByteArray)
    (hr : SRow w0 sa sn ls) (hsa : sa = none → sn = 0 ∧ sc = 0) (hsn : (sn : Int) ≤ 8796093021952) (hz : ∀ s ∈ ls, s.size ≤ maxLen) :
    Calls Try.prog 43 #[.pointer (some ⟨pb, 0, none⟩), .agg #[.int .i64 0, .int .i64 wh, .slice sa sn sc, .string s, .int .i64 n]] w (StepR w0 pb) := by
  obtain ⟨i, hi, hwho⟩ := who_all wh
  have hX := boxed5 w 0 wh sa sn sc s n
  obtain ⟨W0, hW0⟩ : ∃ W0, W0 = w.alloc (opO 0 wh sa sn sc s n) := ⟨_, rfl⟩
  rw [← hW0] at hX
  unfold opO at hW0
  have h0 := h.below hX.bel
  obtain ⟨p0, p1, p2, p3⟩ := h0.cells
  obtain ⟨kF, kG⟩ := h0.forest i hi
  obtain ⟨x, hx⟩ : ∃ x, x = fPtr f i := ⟨_, rfl⟩
  obtain ⟨y, hy⟩ : ∃ y, y = fPtr g i := ⟨_, rfl⟩
  have b0 := hX.c0
  have b1 := hX.c1
  have b2 := hX.c2
  have H0 : Hid _ := hide h0
  have HZl : Hid (∀ j k, Z j k → k < w.heap.size) := hide (fun j k e => (h.rng j k e).2)
  have hi' : (i : Int) < 3 := by omega
  have hll : Hid (ls.length = sn) := hr.len
  have HSR : Hid (∀ W, Below w0.heap.size w0 W → SRow W sa sn ls) := hide (fun W hW => hr.below hW)
  have HSB : Hid (∀ b off, sa = some ⟨b, off, none⟩ → sn ≠ 0 → b < w0.heap.size) := hide (fun b off e hne => by
    obtain ⟨b', off', e', hc⟩ := hr.at (i := 0) (by omega)
    rw [e] at e'; cases e'
    exact World.block_lt_of_cell? _ _ hc)
  have HSA : Hid (sa = none → sn = 0 ∧ sc = 0) := hsa
  have HSN : Hid ((sn : Int) ≤ 8796093021952) := hsn
  have HZ : Hid (∀ s ∈ ls, s.size ≤ maxLen) := hz
  have HX : Hid _ := hide hX
  have HQ0 : Hid _ := hide (roomy_any sa sn sc ls W0 (HSR.out W0 h0.bel) hsa hsn)
  rw [← hx] at kF
  rw [← hy] at kG
  obtain ⟨I, hI⟩ : ∃ I, I = i := ⟨_, rfl⟩
  have HXE : Hid (x = fPtr f I) := by rw [hI]; exact hx
  have HYE : Hid (y = fPtr g I) := by rw [hI]; exact hy
  clear hI
  have hsnI : (sn : Int) ≤ 9223372036854775806 := by omega
  clear hx hy h hX h0 p0 p1 hr hsa hsn hz
  have HW0 : Hid _ := hide hW0
  rw [hW0] at HQ0 kF kG b0 b1 b2 p2 p3
  clear hW0
  go_enter Try.func43, Try.ntmps43
  rcases hwho with ⟨d0, rfl⟩ | ⟨d0, d2, rfl⟩ | ⟨rfl, hi3⟩
  all_goals
    go_wp2_with fail
    rw [← HW0.out] at HQ0 ⊢
    refine HQ0.out.mono ?_
    rintro e w1 ⟨a1, c1, rfl, hrm⟩
    have HR1 : Hid (Rm W0 w1 a1 sn c1 ls 70) := hrm
    have HP1 : Hid (Ply w0 w1 pb tb ub FB GB f g Z L L N N P) := hide (H0.out.below hrm.2)
    rw [← HW0.out] at b2
    have m2 : w1.cell? ⟨w.heap.size, 2, none⟩ = some (.slice sa sn sc) := cell_below b2 hrm.2
    obtain ⟨G, rfl, hG1, hG2, hc1, hc2, hs1, _, _⟩ := hrm.cell hll.out (by decide)
    have HG1 : Hid (W0.heap.size ≤ G ∧ G < w1.heap.size) := hide ⟨hG1, hG2⟩
    have HQ1 := intern_x HP1.out I (some ⟨G, 0, none⟩) sn c1 ls hs1 hsnI (by omega) HZ.out (fun b off e _ j hj => by
      cases e
      have := HZl.out j _ hj
      have := HX.out.lt
      omega)
    rw [← HXE.out] at HQ1
    have HQ1 := hide HQ1
    clear hrm HQ0 b0 b1 b2 kF kG p2 p3 hG1 hG2 hc1 hc2 hs1
    go_wp2_with fail
    refine HQ1.out.mono ?_
    rintro e w2 ⟨id, er, Z', L', N', P', rfl, hdid, hP2, hgr, hb2⟩
    have HD : Hid (Did L N P ls I id er L' N' P') := hdid
    have HP2 : Hid _ := hide hP2
    have HB2 : Hid (But (fun k => ∃ j, Z j k) w1 w2) := hb2
    have HGr : Hid (Grew w1 Z Z') := hgr
    have HN2 : Hid (∀ j, ¬ Z' j w.heap.size) := hide (fun j hj => by
      rcases hgr j _ hj with e | e
      · exact absurd (HZl.out j _ e) (Nat.lt_irrefl _)
      · have := HR1.out.2.size
        have := HX.out.lt
        omega)
    have q2 : w2.cell? ⟨w.heap.size, 2, none⟩ = some (.slice sa sn sc) := cell_but m2 hb2 (fun ⟨j, hj⟩ => absurd (HZl.out j _ hj) (Nat.lt_irrefl _))
    have HQ2 := rintern_x hP2 I sa sn sc ls (HSR.out w2 hP2.bel) hsnI HZ.out (fun b off e hne j hj => by
      have := hP2.rng j b hj
      have := HSB.out b off e hne
      omega) hdid
    rw [← HYE.out] at HQ2
    have HQ2 := hide HQ2
    clear hdid hP2 hb2 hgr m2 HQ1
    go_wp2_with fail
    refine HQ2.out.mono ?_
    rintro e w3 ⟨rfl, Z3, hP3, hgr3, hb3⟩
    have HP3 : Hid _ := hide hP3
    have HGr3 : Hid (Grew w2 Z' Z3) := hgr3
    have q3 : w3.cell? ⟨w.heap.size, 2, none⟩ = some (.slice sa sn sc) := cell_but q2 hb3 (fun ⟨j, hj⟩ => HN2.out j hj)
    have hR3 : Rm w0 w3 (some ⟨G, 0, none⟩) sn c1 ls 70 := by
      have hlo := H0.out.bel.size
      have k1 : Rm W0 w1 (some ⟨G, 0, none⟩) sn c1 ls 70 := HR1.out
      have o1 := own_but k1.1 HB2.out (fun g hg ⟨j, hj⟩ => by
        have := own_base k1.1 g hg
        have := HZl.out j g hj
        have := HX.out.lt
        omega)
      have o2 := own_but o1 hb3 (fun g hg ⟨j, hj⟩ => by
        have hge : g = G := by simp [Value.ownBlock] at hg; exact hg.symm
        subst hge
        have := HG1.out
        rcases HGr.out j _ hj with e | e
        · have := HZl.out j _ e
          have := HX.out.lt
          omega
        · omega)
      exact ⟨own_mono o2 hlo, hP3.bel⟩
    have HR3 : Hid _ := hide hR3
    have HQ3 : Hid _ := hide (kept_any sa (some ⟨G, 0, none⟩) sn sc c1 ls w0 w3 (HSR.out w3 hP3.bel) HSN.out hR3)
    clear hP3 hgr3 hb3 hR3 q2 HQ2
    go_wp2_with fail
    refine HQ3.out.mono ?_
    rintro e w4 ⟨rfl, hb4⟩
    have HP4 : Hid _ := hide (HP3.out.below hb4)
    have HV4 : Hid (Ovs w4 w4 W0.heap.size (some ⟨G, 0, none⟩) sn c1) := hide ((HR3.out.to (U := fun _ => False) (v := w0) (But.of_below hb4) (fun _ _ e => e) (Nat.le_refl _) (HP4.out.bel)).ovs hll.out (by decide) _ (fun g hg => by
      simp [Value.ownBlock] at hg
      have := HG1.out.1
      omega))
    have HN4 : Hid (∀ j, ¬ Z3 j G) := hide (fun j hj => by
      have := HG1.out
      have := HB2.out.size
      have := HX.out.lt
      rcases HGr3.out j _ hj with e | e
      · rcases HGr.out j _ e with e | e
        · have := HZl.out j _ e
          omega
        · omega
      · omega)
    clear hb4 HQ3 q3
    go_wp2
    go_loopw [14] (fun q wr => ∃ k : Nat, k ≤ sn ∧ q = .int .i64 k ∧ Ovs w4 wr W0.heap.size (some ⟨G, 0, none⟩) sn c1) (fun q _ => sn - (intOf q).toNat)
    case atStart => exact ⟨0, Nat.zero_le _, rfl, HV4.out⟩
    case round =>
      obtain ⟨k, hk, rfl, hO⟩ := hrel
      have HO : Hid _ := hide hO
      by_cases hlt : k < sn
      · obtain ⟨G', y, e, _, hc, hf, hu⟩ := hO.at hlt
        cases e
        have HU : Hid _ := hide hu
        have hltI : (k : Int) < sn := by omega
        clear hO hu
        go_wp2
        exact ⟨⟨k + 1, by omega, by go_num, HU.out _⟩, by simp [intOf]; omega⟩
      · have hltI : ¬ (k : Int) < sn := by omega
        clear hO
        go_wp2
        go_ret
        have hG : Ply w0 wr pb tb ub FB GB f g Z3 L' L' N' N' P' := HP4.out.but HO.out.but (fun j k hj e => by
          simp [Value.ownBlock] at e
          subst e
          exact HN4.out j hj) (fun k e => by
          simp [Value.ownBlock] at e
          subst e
          have := HG1.out.1
          have := H0.out.bel.size
          omega)
        exact ⟨rfl, _, _, _, _, _, _, _, _, _, _, hG⟩
end
end Go.Proofs.Ytjpccaeojimlfaa
