/-
  chunk.Read; read.
-/
import Derived.Test.YtjpccaeojimlfaaDecG
import Derived.Deep.RegionHeld3
namespace Go.Proofs.Ytjpccaeojimlfaa
open Go.RowKit Go.Maps Go.Shelf
theorem clo_any {w0 w : World} {T S : Nat → Prop} {tb fb : Nat} {L : List ByteArray} {N : List Nd} (h : FN w0 w T S tb fb L N) (Xf Xb : Nat) (a : Option Addr) (n c : Nat) (zs : List Int) (t : Int) (hf : w.cell? ⟨Xf, 0, none⟩ = some (.pointer (some ⟨fb, 0, none⟩))) (hb : w.cell? ⟨Xb, 0, none⟩ = some (.slice a n c)) (hr : Row w0 a n zs) (hn : (n : Int) ≤ 140737488355328) :
    Calls Try.prog 52 #[.int .i64 t, .pointer (some ⟨Xf, 0, none⟩), .pointer (some ⟨Xb, 0, none⟩)] w fun e w' => e = recE (rdRecN L.length N zs t) ∧ ∃ S', FN w0 w' T S' tb fb L (rdRecN L.length N zs t).2.2 ∧ More w S S' ∧ But S w w' := by
  have HQ : Hid _ := hide (rrec_any h a n c zs t hr hn)
  clear h hr
  generalize rdRecN L.length N zs t = R at HQ ⊢
  obtain ⟨x, f, N'⟩ := R
  simp only [recE] at HQ ⊢
  go_enter Try.func52, Try.ntmps52
  go_wp2_with fail
  refine HQ.out.mono ?_
  rintro e w1 ⟨rfl, hS⟩
  have HS : Hid _ := hide hS
  clear hS
  go_wp2
  go_ret2
  exact ⟨rfl, HS.out⟩
/-- What a reading leaves. -/
def Left (w0 w w' : World) (T S : Nat → Prop) (tb fb : Nat) (L : List ByteArray) (N : List Nd) : Prop := ∃ S', FN w0 w' T S' tb fb L N ∧ More w S S' ∧ But S w w'
theorem Left.refl {w0 w : World} {T S : Nat → Prop} {tb fb : Nat} {L : List ByteArray} {N : List Nd} (h : FN w0 w T S tb fb L N) : Left w0 w w T S tb fb L N := ⟨S, h, fun _ e => .inl e, But.refl _ _⟩
theorem More.trans {w w' : World} {T T' T'' : Nat → Prop} (h : More w T T') (k : More w' T' T'') (hs : w.heap.size ≤ w'.heap.size) : More w T T'' := fun x hx => by
  rcases k x hx with e | e
  · exact h x e
  · right; omega
theorem Left.trans {w0 w w1 w2 : World} {T S S1 : Nat → Prop} {tb fb : Nat} {L : List ByteArray} {N : List Nd} (h1 : More w S S1) (hb : But S w w1) (h : Left w0 w1 w2 T S1 tb fb L N) : Left w0 w w2 T S tb fb L N := by
  obtain ⟨S', hF, hM, hb2⟩ := h
  refine ⟨S', hF, h1.trans hM hb.size, hb.trans hb2 (fun i hi e => ?_)⟩
  rcases h1 i e with e | e
  · exact e
  · omega
set_option maxHeartbeats 1000000 in
set_option maxRecDepth 4000 in
theorem cread_any {w0 w : World} {T S : Nat → Prop} {tb fb : Nat} {L : List ByteArray} {N : List Nd} (h : FN w0 w T S tb fb L N) (Xf Xb : Nat) (a : Option Addr) (n c : Nat) (zs : List Int) (hf : w.cell? ⟨Xf, 0, none⟩ = some (.pointer (some ⟨fb, 0, none⟩))) (hb : w.cell? ⟨Xb, 0, none⟩ = some (.slice a n c)) (hXf : ¬ S Xf) (hXb : ¬ S Xb) (hr : Row w0 a n zs) (hn : (n : Int) ≤ 140737488355328) :
    Calls Try.prog 51 #[.slice a n c, .int .i64 ((N.length : Int) + 1), .func (.func 52) #[] #[.pointer (some ⟨Xf, 0, none⟩), .pointer (some ⟨Xb, 0, none⟩)]] w fun e w' => e = .returned (.int .i64 (rdBodyN L.length N zs).1) ∧ Left w0 w w' T S tb fb L (rdBodyN L.length N zs).2 := by
  have HN : Hid (FN w0 w T S tb fb L N) := h
  have hrw := hr.below h.bel
  have HQ : Hid _ := hide (ru_any a n c 0 zs w hrw (by omega))
  have hbd := rdAt_bd zs 0 hr.u8
  have hplc := rdAt_place (zs := zs) (t := 0)
  have hl := hr.len
  have hNl : (N.length : Int) ≤ 262144 := by obtain ⟨v, mb, hF⟩ := h.frs; have := hF.len; omega
  have hb1 : (rdAt zs 0).2.2 ≠ 0 → rdBodyN L.length N zs = ((rdAt zs 0).2.2, N) := fun h => by unfold rdBodyN; rw [if_pos h]
  have hb2 : (rdAt zs 0).2.2 = 0 → ((rdAt zs 0).1 ≠ ((N.length + 1 : Nat) : Int) ∨ (rdAt zs 0).2.1 = (zs.length : Int)) → rdBodyN L.length N zs = (42, N) := fun h h' => by unfold rdBodyN; rw [if_neg (by omega), if_pos h']
  have hb3 : (rdAt zs 0).2.2 = 0 → ¬ ((rdAt zs 0).1 ≠ ((N.length + 1 : Nat) : Int) ∨ (rdAt zs 0).2.1 = (zs.length : Int)) → rdBodyN L.length N zs = rdRecsN L.length zs.length N zs (rdAt zs 0).2.1 := fun h h' => by unfold rdBodyN; rw [if_neg (by omega), if_neg h']
  have HR : Hid (Row w0 a n zs) := hr
  have HXf : Hid (¬ S Xf ∧ ¬ S Xb) := ⟨hXf, hXb⟩
  have HCf : Hid (w.cell? ⟨Xf, 0, none⟩ = some (.pointer (some ⟨fb, 0, none⟩)) ∧ w.cell? ⟨Xb, 0, none⟩ = some (.slice a n c)) := ⟨hf, hb⟩
  generalize rdAt zs 0 = r at HQ hbd hplc hb1 hb2 hb3
  obtain ⟨x, p, f⟩ := r
  simp only [out3] at HQ hbd hplc hb1 hb2 hb3
  clear hr hrw h hf hb hXf hXb
  by_cases hf : f = 0
  · subst hf
    obtain ⟨hp0, hp1, hp2⟩ := hplc (by first | rfl | trivial)
    have hx0 := hbd.1
    have hx1 := hbd.2.1
    by_cases hx : x = (N.length : Int) + 1
    · by_cases hpe : p = (zs.length : Int)
      · have HE : Hid (rdBodyN L.length N zs = (42, N)) := hb2 (by first | rfl | trivial) (.inr hpe)
        generalize rdBodyN L.length N zs = R at HE ⊢
        subst hx
        clear hx0 hx1
        have hpe' : p = (n : Int) := by omega
        subst hpe'
        clear hb1 hb2 hb3 hbd hplc hl hp2 hpe
        go_enter Try.func51, Try.ntmps51
        go_wp2_with fail
        refine HQ.out.mono ?_
        rintro e w1 ⟨rfl, hh⟩; rw [hh]; clear hh
        go_wp2
        go_ret
        exact ⟨by rw [HE.out]; rfl, by rw [HE.out]; exact Left.refl HN.out⟩
      · have HE : Hid (rdBodyN L.length N zs = rdRecsN L.length zs.length N zs p) := hb3 (by first | rfl | trivial) (by omega)
        rw [HE.out]
        have hpe' : ¬ p = (n : Int) := by omega
        have hpb : (p == (n : Int)) = false := by rw [beq_eq_false_iff_ne]; exact hpe'
        subst hx
        clear hx0 hx1
        clear hb1 hb2 hb3 hbd hplc hpe
        obtain ⟨R, hR⟩ : ∃ R, R = rdRecsN L.length zs.length N zs p := ⟨_, rfl⟩
        rw [← hR]
        have HRc : Hid (R = rdRecsN L.length zs.length N zs p) := hR
        have HL : Hid (zs.length = n) := hl
        have HP : Hid (0 < p ∧ p ≤ zs.length) := ⟨hp1, hp2⟩
        clear hR hl hp2
        go_enter Try.func51, Try.ntmps51
        go_wp2_with fail
        refine HQ.out.mono ?_
        rintro e w1 ⟨rfl, hh⟩; rw [hh]; clear hh
        go_wp2
        go_loopw [8] (fun i wr => ∃ (k : Nat) (t : Int) (N' : List Nd) (S' : Nat → Prop), 0 ≤ t ∧ t ≤ (n : Int) ∧ (n : Int) - t ≤ k ∧ i = .int .i64 t ∧ FN w0 wr T S' tb fb L N' ∧ More w S S' ∧ But S w wr ∧ rdRecsN L.length k N' zs t = R) (fun i _ => n - (intOf i).toNat)
        case atStart => exact ⟨zs.length, p, N, S, by have := HP.out; omega, by have := HP.out; have := HL.out; omega, by have := HP.out; have := HL.out; omega, rfl, HN.out, fun _ e => .inl e, But.refl _ _, HRc.out.symm⟩
        case round =>
          obtain ⟨k, t, N', S', ht0, ht1, htk, rfl, hN, hM, hBu, hRR⟩ := hrel
          have HN' : Hid (FN w0 wr T S' tb fb L N') := hN
          have HM : Hid (More w S S') := hM
          have HBu : Hid (But S w wr) := hBu
          have HRR : Hid (rdRecsN L.length k N' zs t = R) := hRR
          by_cases hlt : t < (n : Int)
          · have hcf := cell_block HCf.out.1 (hBu.block _ (World.block_lt_of_cell? _ _ HCf.out.1) HXf.out.1)
            have hcb := cell_block HCf.out.2 (hBu.block _ (World.block_lt_of_cell? _ _ HCf.out.2) HXf.out.2)
            have HQ2 : Hid _ := hide (clo_any hN Xf Xb a n c zs t hcf hcb HR.out hn)
            have hpl := rdRecN_place (m := L.length) (N := N') (zs := zs) (t := t)
            obtain ⟨k, rfl⟩ : ∃ k', k = k' + 1 := ⟨k - 1, by omega⟩
            have hlz : t < (zs.length : Int) := by have := HL.out; omega
            have hr1 := rdRecsN_fault (m := L.length) (k := k) (N := N') hlz
            have hr2 := rdRecsN_next (m := L.length) (k := k) (N := N') hlz
            clear hRR hN hM hBu hcf hcb
            generalize rdRecN L.length N' zs t = r at HQ2 hpl hr1 hr2
            obtain ⟨nx, f, N2⟩ := r
            dsimp only at hpl hr1 hr2
            simp only [recE] at HQ2
            by_cases hf : f = 0
            · subst hf
              have HP2 : Hid (t < nx ∧ nx ≤ zs.length) := hpl rfl
              have HN2 : Hid (rdRecsN L.length k N2 zs nx = R) := hide (by rw [← hr2 rfl]; exact HRR.out)
              clear hpl hr1 hr2
              go_wp2_with fail
              refine HQ2.out.mono ?_
              rintro e w2 ⟨rfl, S2, hF2, hM2, hb2⟩
              have HF2 : Hid _ := hide hF2
              have HT2 : Hid (Left w0 w w2 T S tb fb L N2) := hide (Left.trans HM.out HBu.out ⟨S2, hF2, hM2, hb2⟩)
              clear hF2 hM2 hb2
              go_wp2
              obtain ⟨S3, h31, h32, h33⟩ := HT2.out
              exact ⟨⟨k, nx, N2, S3, by have := HP2.out; omega, by have := HP2.out; have := HL.out; omega, by have := HP2.out; omega, rfl, h31, h32, h33, HN2.out⟩, by have := HP2.out; have := HL.out; simp [intOf]; omega⟩
            · have HE : Hid (R = (f, N2)) := hide (by rw [← HRR.out, hr1 hf])
              clear hpl hr1 hr2
              go_wp2_with fail
              refine HQ2.out.mono ?_
              rintro e w2 ⟨rfl, S2, hF2, hM2, hb2⟩
              have HT2 : Hid (Left w0 w w2 T S tb fb L N2) := hide (Left.trans HM.out HBu.out ⟨S2, hF2, hM2, hb2⟩)
              clear hF2 hM2 hb2
              go_wp2
              go_ret
              exact ⟨by rw [HE.out]; rfl, by rw [HE.out]; exact HT2.out⟩
          · have HE : Hid (R = (0, N')) := hide (by rw [← hRR, rdRecsN_out (by have := HL.out; omega)])
            clear hN hRR hM hBu
            go_wp2
            go_ret
            exact ⟨by rw [HE.out]; rfl, by rw [HE.out]; exact ⟨S', HN'.out, HM.out, HBu.out⟩⟩
    · have HE : Hid (rdBodyN L.length N zs = (42, N)) := hb2 (by first | rfl | trivial) (.inl (by omega))
      generalize rdBodyN L.length N zs = R at HE ⊢
      have hxx : (x != (N.length : Int) + 1) = true := by rw [bne_iff_ne]; exact hx
      clear hb1 hb2 hb3 hbd hplc hl hp2
      go_enter Try.func51, Try.ntmps51
      go_wp2_with fail
      refine HQ.out.mono ?_
      rintro e w1 ⟨rfl, hh⟩; rw [hh]; clear hh
      go_wp2
      go_ret
      exact ⟨by rw [HE.out]; rfl, by rw [HE.out]; exact Left.refl HN.out⟩
  · have HE : Hid (rdBodyN L.length N zs = (f, N)) := hb1 hf
    generalize rdBodyN L.length N zs = R at HE ⊢
    clear hb1 hb2 hb3 hbd hplc hl
    go_enter Try.func51, Try.ntmps51
    go_wp2_with fail
    refine HQ.out.mono ?_
    rintro e w1 ⟨rfl, hh⟩; rw [hh]; clear hh
    go_wp2
    go_ret
    exact ⟨by rw [HE.out]; rfl, by rw [HE.out]; exact Left.refl HN.out⟩
end Go.Proofs.Ytjpccaeojimlfaa
