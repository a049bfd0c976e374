/-
  A body is read.
-/
import Derived.Test.YtmedpemicgffnaaDecB
namespace Go.Proofs.Ytmedpemicgffnaa
open Go.RowKit Go.Maps
theorem rdRecs_out {k : Nat} {L : List ByteArray} {zs : List Int} {t : Int} (h : ¬ t < zs.length) : rdRecs k L zs t = (0, L) := by
  cases k with
  | zero => rfl
  | succ k => rw [rdRecs, if_neg h]
theorem rdRecs_fault {k : Nat} {L : List ByteArray} {zs : List Int} {t : Int} (h : t < zs.length) (hf : (rdRec L zs t).2.1 ≠ 0) : rdRecs (k + 1) L zs t = ((rdRec L zs t).2.1, (rdRec L zs t).2.2) := by
  rw [rdRecs, if_pos h, if_pos hf]
theorem rdRecs_next {k : Nat} {L : List ByteArray} {zs : List Int} {t : Int} (h : t < zs.length) (hf : (rdRec L zs t).2.1 = 0) : rdRecs (k + 1) L zs t = rdRecs k (rdRec L zs t).2.2 zs (rdRec L zs t).1 := by
  rw [rdRecs, if_pos h, if_neg (by omega)]
/-- The table, all its memory new since w0. -/
def TabN (w0 w : World) (tb : Nat) (L : List ByteArray) : Prop :=
  ∃ S v mv, Tab w tb S L v mv ∧ (∀ k, S k → w0.heap.size ≤ k ∧ k < w.heap.size) ∧ Below w0.heap.size w0 w
theorem TabN.step {w0 w w' : World} {tb : Nat} {S : Nat → Prop} {L' : List ByteArray} {v' mv' : Value} (hS : ∀ k, S k → w0.heap.size ≤ k ∧ k < w.heap.size) (hB : Below w0.heap.size w0 w) (hb : But S w w') (ht : Tab w' tb (fun k => S k ∨ (w.heap.size ≤ k ∧ k < w'.heap.size)) L' v' mv') : TabN w0 w' tb L' := by
  refine ⟨_, v', mv', ht, fun k hk => ?_, hB.trans (hb.below hB.size fun k hk => (hS k hk).1)⟩
  have := hb.size
  have := hB.size
  rcases hk with e | e
  · have := hS k e; omega
  · omega
theorem rd_any {w0 w : World} {tb : Nat} {L : List ByteArray} (h : TabN w0 w tb L) (a : Option Addr) (n c : Nat) (zs : List Int) (hr : Row w0 a n zs) (hn : (n : Int) ≤ 140737488355328) (hnc : n ≤ c) :
    Calls Try.prog 39 #[.pointer (some ⟨tb, 0, none⟩), .slice a n c] w fun e w' => e = .returned (.int .i64 (rdBody L zs).1) ∧ TabN w0 w' tb (rdBody L zs).2 := by
  have HT : Hid (TabN w0 w tb L) := h
  obtain ⟨S, v, mv, ht, hS, hB⟩ := h
  have hrw := hr.below hB
  have HQ : Hid _ := hide (ru_any a n c 0 zs w hrw (by omega))
  have hbd := rdAt_bd zs 0 hr.u8
  have hplc := rdAt_place (zs := zs) (t := 0)
  have hl := hr.len
  have c0 := ht.cell0
  obtain ⟨a0, k0, rfl⟩ := own_form ht.own
  have hLl : (L.length : Int) ≤ 9223372036854775806 := by have := ht.len; omega
  have hb1 : (rdAt zs 0).2.2 ≠ 0 → rdBody L zs = ((rdAt zs 0).2.2, L) := fun h => by unfold rdBody; rw [if_pos h]
  have hb2 : (rdAt zs 0).2.2 = 0 → ((rdAt zs 0).1 ≠ (L.length : Int) ∨ (rdAt zs 0).2.1 = (zs.length : Int)) → rdBody L zs = (42, L) := fun h h' => by unfold rdBody; rw [if_neg (by omega), if_pos h']
  have hb3 : (rdAt zs 0).2.2 = 0 → ¬ ((rdAt zs 0).1 ≠ (L.length : Int) ∨ (rdAt zs 0).2.1 = (zs.length : Int)) → rdBody L zs = rdRecs zs.length L zs (rdAt zs 0).2.1 := fun h h' => by unfold rdBody; rw [if_neg (by omega), if_neg h']
  have HR : Hid (Row w0 a n zs) := hr
  generalize rdAt zs 0 = r at HQ hbd hplc hb1 hb2 hb3
  obtain ⟨x, p, f⟩ := r
  simp only [out3] at HQ hbd hplc hb1 hb2 hb3
  clear hr hrw ht hS hB
  by_cases hf : f = 0
  · subst hf
    obtain ⟨hp0, hp1, hp2⟩ := hplc rfl
    have hx0 := hbd.1
    have hx1 := hbd.2.1
    by_cases hx : x = (L.length : Int)
    · by_cases hpe : p = (zs.length : Int)
      · have HE : Hid (rdBody L zs = (42, L)) := hb2 rfl (.inr hpe)
        generalize rdBody L zs = R at HE ⊢
        subst hx
        have hpe' : p = (n : Int) := by omega
        subst hpe'
        clear hb1 hb2 hb3 hbd hplc hl hp2 hpe
        go_enter Try.func39, Try.ntmps39
        go_wp2_with fail
        refine HQ.out.mono ?_
        rintro e w1 ⟨rfl, rfl⟩
        go_wp2
        go_ret
        exact ⟨by rw [HE.out]; rfl, by rw [HE.out]; exact HT.out⟩
      · have HE : Hid (rdBody L zs = rdRecs zs.length L zs p) := hb3 rfl (by omega)
        rw [HE.out]
        have hpe' : ¬ p = (n : Int) := by omega
        subst hx
        clear hb1 hb2 hb3 hbd hplc hpe
        obtain ⟨R, hR⟩ : ∃ R, R = rdRecs zs.length L zs p := ⟨_, rfl⟩
        rw [← hR]
        have HRc : Hid (R = rdRecs zs.length L zs p) := hR
        have HL : Hid (zs.length = n) := hl
        have HP : Hid (0 < p ∧ p ≤ zs.length) := ⟨hp1, hp2⟩
        clear hR hl hp2
        go_enter Try.func39, Try.ntmps39
        go_wp2_with fail
        refine HQ.out.mono ?_
        rintro e w1 ⟨rfl, rfl⟩
        go_wp2
        clear c0
        go_loopw [6] (fun i wr => ∃ (k : Nat) (t : Int) (L' : List ByteArray), 0 ≤ t ∧ t ≤ (n : Int) ∧ (n : Int) - t ≤ k ∧ i = .int .i64 t ∧ TabN w0 wr tb L' ∧ rdRecs k L' zs t = R) (fun i _ => n - (intOf i).toNat)
        case atStart => exact ⟨zs.length, p, L, by have := HP.out; omega, by have := HP.out; have := HL.out; omega, by have := HP.out; have := HL.out; omega, rfl, HT.out, HRc.out.symm⟩
        case round =>
          obtain ⟨k, t, L', ht0, ht1, htk, rfl, hN, hRR⟩ := hrel
          have HN : Hid (TabN w0 wr tb L') := hN
          have HRR : Hid (rdRecs k L' zs t = R) := hRR
          by_cases hlt : t < (n : Int)
          · obtain ⟨S, v, mv, ht, hS, hB⟩ := hN
            have HQ2 : Hid _ := hide (rr_any ht a n c zs t (HR.out.below hB) hn hnc)
            have HS : Hid (∀ k, S k → w0.heap.size ≤ k ∧ k < wr.heap.size) := hS
            have HB : Hid (Below w0.heap.size w0 wr) := hB
            have hpl := rdRec_place (L := L') (t := t) HR.out.u8
            obtain ⟨k, rfl⟩ : ∃ k', k = k' + 1 := ⟨k - 1, by omega⟩
            have hlz : t < (zs.length : Int) := by have := HL.out; omega
            have hr1 := rdRecs_fault (k := k) (L := L') hlz
            have hr2 := rdRecs_next (k := k) (L := L') hlz
            clear ht hS hB hRR
            generalize rdRec L' zs t = r at HQ2 hpl hr1 hr2
            obtain ⟨nx, f, L2⟩ := r
            dsimp only at hpl hr1 hr2
            by_cases hf : f = 0
            · subst hf
              have HP2 : Hid (t < nx ∧ nx ≤ zs.length) := hpl rfl
              have HN2 : Hid (rdRecs k L2 zs nx = R) := hide (by rw [← hr2 rfl]; exact HRR.out)
              clear hpl hr1 hr2
              go_wp2_with fail
              refine HQ2.out.mono ?_
              rintro e w2 ⟨rfl, ⟨v', mv', ht⟩, hb⟩
              have HT2 : Hid (TabN w0 w2 tb L2) := hide (TabN.step HS.out HB.out hb ht)
              clear ht hb
              simp only [recV]
              go_wp2
              exact ⟨⟨k, nx, L2, by have := HP2.out; omega, by have := HP2.out; have := HL.out; omega, by have := HP2.out; omega, rfl, HT2.out, HN2.out⟩, by have := HP2.out; have := HL.out; simp [intOf]; omega⟩
            · have HE : Hid (R = (f, L2)) := hide (by rw [← HRR.out, hr1 hf])
              clear hpl hr1 hr2
              go_wp2_with fail
              refine HQ2.out.mono ?_
              rintro e w2 ⟨rfl, ⟨v', mv', ht⟩, hb⟩
              have HT2 : Hid (TabN w0 w2 tb L2) := hide (TabN.step HS.out HB.out hb ht)
              clear ht hb
              simp only [recV]
              go_wp2
              go_ret
              exact ⟨by rw [HE.out]; rfl, by rw [HE.out]; exact HT2.out⟩
          · have HE : Hid (R = (0, L')) := hide (by rw [← hRR, rdRecs_out (by have := HL.out; omega)])
            clear hN hRR
            go_wp2
            go_ret
            exact ⟨by rw [HE.out]; rfl, by rw [HE.out]; exact HN.out⟩
    · have HE : Hid (rdBody L zs = (42, L)) := hb2 rfl (.inl hx)
      generalize rdBody L zs = R at HE ⊢
      clear hb1 hb2 hb3 hbd hplc hl hp2
      go_enter Try.func39, Try.ntmps39
      go_wp2_with fail
      refine HQ.out.mono ?_
      rintro e w1 ⟨rfl, rfl⟩
      go_wp2
      go_ret
      exact ⟨by rw [HE.out]; rfl, by rw [HE.out]; exact HT.out⟩
  · have HE : Hid (rdBody L zs = (f, L)) := hb1 hf
    generalize rdBody L zs = R at HE ⊢
    clear hb1 hb2 hb3 hbd hplc hl
    go_enter Try.func39, Try.ntmps39
    go_wp2_with fail
    refine HQ.out.mono ?_
    rintro e w1 ⟨rfl, rfl⟩
    go_wp2
    go_ret
    exact ⟨by rw [HE.out]; rfl, by rw [HE.out]; exact HT.out⟩
end Go.Proofs.Ytmedpemicgffnaa
