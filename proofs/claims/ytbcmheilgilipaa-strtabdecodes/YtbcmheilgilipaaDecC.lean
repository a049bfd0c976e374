/-
  A body is read.
-/
import Derived.Test.YtbcmheilgilipaaDecB
import Derived.Test.YtbcmheilgilipaaAid
import Derived.Deep.RegionWith
namespace Go.Proofs.Ytbcmheilgilipaa
open Go.RowKit Go.Maps
theorem rdRecs_out {k : Nat} {L : List ByteArray} {zs : List Int} {t : Int} (h : ¬ t < zs.length) : rdRecs k L zs t = (0, L) := by
  cases k with
  | zero => rfl
  | succ k => rw [rdRecs, if_neg h]
theorem rdRecs_fault {k : Nat} {L : List ByteArray} {zs : List Int} {t : Int} (h : t < zs.length) (hf : (rdRec L zs t).2.1 ≠ 0) : rdRecs (k + 1) L zs t = ((rdRec L zs t).2.1, (rdRec L zs t).2.2) := by
  rw [rdRecs, if_pos h, if_pos hf]
theorem rdRecs_next {k : Nat} {L : List ByteArray} {zs : List Int} {t : Int} (h : t < zs.length) (hf : (rdRec L zs t).2.1 = 0) : rdRecs (k + 1) L zs t = rdRecs k (rdRec L zs t).2.2 zs (rdRec L zs t).1 := by
  rw [rdRecs, if_pos h, if_neg (by omega)]
/-- The table, all its memory new since w0. -/
def TabN (w0 w : World) (tb : Nat) (L : List ByteArray) : Prop :=
  ∃ S v mv, Tab w tb S L v mv ∧ (∀ k, S k → w0.heap.size ≤ k ∧ k < w.heap.size) ∧ Below w0.heap.size w0 w
theorem TabN.step {w0 w w' : World} {tb : Nat} {S : Nat → Prop} {L' : List ByteArray} {v' mv' : Value} (hS : ∀ k, S k → w0.heap.size ≤ k ∧ k < w.heap.size) (hB : Below w0.heap.size w0 w) (hb : But S w w') (ht : Tab w' tb (fun k => S k ∨ (w.heap.size ≤ k ∧ k < w'.heap.size)) L' v' mv') : TabN w0 w' tb L' := by
  refine ⟨_, v', mv', ht, fun k hk => ?_, hB.trans (hb.below hB.size fun k hk => (hS k hk).1)⟩
  have := hb.size
  have := hB.size
  rcases hk with e | e
  · have := hS k e; omega
  · omega
/-- The same, and two boxes that a closure reads. -/
def TabX (w0 w : World) (tb : Nat) (L : List ByteArray) (Xf Xb : Nat) (vb : Value) : Prop :=
  ∃ S v mv, Tab w tb S L v mv ∧ (∀ k, S k → (w0.heap.size ≤ k ∧ k < w.heap.size) ∧ k ≠ Xf ∧ k ≠ Xb) ∧ Below w0.heap.size w0 w ∧ w.cell? ⟨Xf, 0, none⟩ = some (.pointer (some ⟨tb, 0, none⟩)) ∧ w.cell? ⟨Xb, 0, none⟩ = some vb
theorem TabX.tabN {w0 w : World} {tb : Nat} {L : List ByteArray} {Xf Xb : Nat} {vb : Value} (h : TabX w0 w tb L Xf Xb vb) : TabN w0 w tb L := by
  obtain ⟨S, v, mv, ht, hS, hB, _⟩ := h
  exact ⟨S, v, mv, ht, fun k hk => (hS k hk).1, hB⟩
theorem TabX.step {w0 w w' : World} {tb Xf Xb : Nat} {vb : Value} {S : Nat → Prop} {L' : List ByteArray} {v' mv' : Value} (hS : ∀ k, S k → (w0.heap.size ≤ k ∧ k < w.heap.size) ∧ k ≠ Xf ∧ k ≠ Xb) (hB : Below w0.heap.size w0 w) (hf : w.cell? ⟨Xf, 0, none⟩ = some (.pointer (some ⟨tb, 0, none⟩))) (hb' : w.cell? ⟨Xb, 0, none⟩ = some vb) (hb : But S w w') (ht : Tab w' tb (fun k => S k ∨ (w.heap.size ≤ k ∧ k < w'.heap.size)) L' v' mv') : TabX w0 w' tb L' Xf Xb vb := by
  have h1 := World.block_lt_of_cell? w _ hf
  have h2 := World.block_lt_of_cell? w _ hb'
  dsimp only at h1 h2
  refine ⟨_, v', mv', ht, fun k hk => ?_, hB.trans (hb.below hB.size fun k hk => (hS k hk).1.1), cell_block hf (hb.block _ h1 (fun e => (hS _ e).2.1 rfl)), cell_block hb' (hb.block _ h2 (fun e => (hS _ e).2.2 rfl))⟩
  have := hb.size
  have := hB.size
  rcases hk with e | e
  · have := hS k e; omega
  · omega
theorem clo_any {w : World} {tb : Nat} {S : Nat → Prop} {L : List ByteArray} {v mv : Value} (h : Tab w tb S L v mv) (Xf Xb : Nat) (a : Option Addr) (n c : Nat) (zs : List Int) (t : Int) (hf : w.cell? ⟨Xf, 0, none⟩ = some (.pointer (some ⟨tb, 0, none⟩))) (hb : w.cell? ⟨Xb, 0, none⟩ = some (.slice a n c)) (hr : Row w a n zs) (hn : (n : Int) ≤ 140737488355328) (hnc : n ≤ c) :
    Calls Try.prog 47 #[.int .i64 t, .pointer (some ⟨Xf, 0, none⟩), .pointer (some ⟨Xb, 0, none⟩)] w (RecPost w tb S (rdRec L zs t)) := by
  have HQ : Hid _ := hide (rr_any h a n c zs t hr hn hnc)
  clear h hr
  generalize rdRec L zs t = R at HQ ⊢
  obtain ⟨x, f, N'⟩ := R
  go_enter Try.func47, Try.ntmps47
  go_wp2_with fail
  refine HQ.out.mono ?_
  rintro e w1 ⟨rfl, hS⟩
  have HS : Hid _ := hide hS
  clear hS
  simp only [recV]
  go_wp2
  go_ret2
  exact ⟨rfl, HS.out⟩
theorem cread_any {w0 w : World} {tb : Nat} {L : List ByteArray} (Xf Xb : Nat) (a : Option Addr) (n c : Nat) (h : TabX w0 w tb L Xf Xb (.slice a n c)) (zs : List Int) (hr : Row w0 a n zs) (hn : (n : Int) ≤ 140737488355328) (hnc : n ≤ c) :
    Calls Try.prog 46 #[.slice a n c, .int .i64 (L.length : Int), .func (.func 47) #[] #[.pointer (some ⟨Xf, 0, none⟩), .pointer (some ⟨Xb, 0, none⟩)]] w fun e w' => e = .returned (.int .i64 (rdBody L zs).1) ∧ TabX w0 w' tb (rdBody L zs).2 Xf Xb (.slice a n c) := by
  have HT : Hid (TabX w0 w tb L Xf Xb (.slice a n c)) := h
  obtain ⟨S, v, mv, ht, hS, hB, hcf, hcb⟩ := h
  have hrw := hr.below hB
  have HQ : Hid _ := hide (ru_any a n c 0 zs w hrw (by omega))
  have hbd := rdAt_bd zs 0 hr.u8
  have hplc := rdAt_place (zs := zs) (t := 0)
  have hl := hr.len
  have hLl : (L.length : Int) ≤ 9223372036854775806 := by have := ht.len; omega
  have hb1 : (rdAt zs 0).2.2 ≠ 0 → rdBody L zs = ((rdAt zs 0).2.2, L) := fun h => by unfold rdBody; rw [if_pos h]
  have hb2 : (rdAt zs 0).2.2 = 0 → ((rdAt zs 0).1 ≠ (L.length : Int) ∨ (rdAt zs 0).2.1 = (zs.length : Int)) → rdBody L zs = (42, L) := fun h h' => by unfold rdBody; rw [if_neg (by omega), if_pos h']
  have hb3 : (rdAt zs 0).2.2 = 0 → ¬ ((rdAt zs 0).1 ≠ (L.length : Int) ∨ (rdAt zs 0).2.1 = (zs.length : Int)) → rdBody L zs = rdRecs zs.length L zs (rdAt zs 0).2.1 := fun h h' => by unfold rdBody; rw [if_neg (by omega), if_neg h']
  have HR : Hid (Row w0 a n zs) := hr
  generalize rdAt zs 0 = r at HQ hbd hplc hb1 hb2 hb3
  obtain ⟨x, p, f⟩ := r
  simp only [out3] at HQ hbd hplc hb1 hb2 hb3
  clear hr hrw ht hS hB hcf hcb
  by_cases hf : f = 0
  · subst hf
    obtain ⟨hp0, hp1, hp2⟩ := hplc rfl
    have hx0 := hbd.1
    have hx1 := hbd.2.1
    by_cases hx : x = (L.length : Int)
    · by_cases hpe : p = (zs.length : Int)
      · have HE : Hid (rdBody L zs = (42, L)) := hb2 rfl (.inr hpe)
        generalize rdBody L zs = R at HE ⊢
        subst hx
        have hpe' : p = (n : Int) := by omega
        subst hpe'
        clear hb1 hb2 hb3 hbd hplc hl hp2 hpe
        go_enter Try.func46, Try.ntmps46
        go_wp2_with fail
        refine HQ.out.mono ?_
        rintro e w1 ⟨rfl, rfl⟩
        go_wp2
        go_ret
        exact ⟨by rw [HE.out]; rfl, by rw [HE.out]; exact HT.out⟩
      · have HE : Hid (rdBody L zs = rdRecs zs.length L zs p) := hb3 rfl (by omega)
        rw [HE.out]
        have hpe' : ¬ p = (n : Int) := by omega
        subst hx
        clear hb1 hb2 hb3 hbd hplc hpe
        obtain ⟨R, hR⟩ : ∃ R, R = rdRecs zs.length L zs p := ⟨_, rfl⟩
        rw [← hR]
        have HRc : Hid (R = rdRecs zs.length L zs p) := hR
        have HL : Hid (zs.length = n) := hl
        have HP : Hid (0 < p ∧ p ≤ zs.length) := ⟨hp1, hp2⟩
        clear hR hl hp2
        go_enter Try.func46, Try.ntmps46
        go_wp2_with fail
        refine HQ.out.mono ?_
        rintro e w1 ⟨rfl, rfl⟩
        go_wp2
        go_loopw [8] (fun i wr => ∃ (k : Nat) (t : Int) (L' : List ByteArray), 0 ≤ t ∧ t ≤ (n : Int) ∧ (n : Int) - t ≤ k ∧ i = .int .i64 t ∧ TabX w0 wr tb L' Xf Xb (.slice a n c) ∧ rdRecs k L' zs t = R) (fun i _ => n - (intOf i).toNat)
        case atStart => exact ⟨zs.length, p, L, by have := HP.out; omega, by have := HP.out; have := HL.out; omega, by have := HP.out; have := HL.out; omega, rfl, HT.out, HRc.out.symm⟩
        case round =>
          obtain ⟨k, t, L', ht0, ht1, htk, rfl, hN, hRR⟩ := hrel
          have HN : Hid (TabX w0 wr tb L' Xf Xb (.slice a n c)) := hN
          have HRR : Hid (rdRecs k L' zs t = R) := hRR
          by_cases hlt : t < (n : Int)
          · obtain ⟨S, v, mv, ht, hS, hB, hcf, hcb⟩ := hN
            have HQ2 : Hid _ := hide (clo_any ht Xf Xb a n c zs t hcf hcb (HR.out.below hB) hn hnc)
            have HS : Hid (∀ k, S k → (w0.heap.size ≤ k ∧ k < wr.heap.size) ∧ k ≠ Xf ∧ k ≠ Xb) := hS
            have HCf : Hid (wr.cell? ⟨Xf, 0, none⟩ = some (.pointer (some ⟨tb, 0, none⟩)) ∧ wr.cell? ⟨Xb, 0, none⟩ = some (.slice a n c)) := ⟨hcf, hcb⟩
            have HB : Hid (Below w0.heap.size w0 wr) := hB
            have hpl := rdRec_place (L := L') (t := t) HR.out.u8
            obtain ⟨k, rfl⟩ : ∃ k', k = k' + 1 := ⟨k - 1, by omega⟩
            have hlz : t < (zs.length : Int) := by have := HL.out; omega
            have hr1 := rdRecs_fault (k := k) (L := L') hlz
            have hr2 := rdRecs_next (k := k) (L := L') hlz
            clear ht hS hB hRR hcf hcb
            generalize rdRec L' zs t = r at HQ2 hpl hr1 hr2
            obtain ⟨nx, f, L2⟩ := r
            dsimp only at hpl hr1 hr2
            by_cases hf : f = 0
            · subst hf
              have HP2 : Hid (t < nx ∧ nx ≤ zs.length) := hpl rfl
              have HN2 : Hid (rdRecs k L2 zs nx = R) := hide (by rw [← hr2 rfl]; exact HRR.out)
              clear hpl hr1 hr2
              go_wp2_with fail
              refine HQ2.out.mono ?_
              rintro e w2 ⟨rfl, ⟨v', mv', ht⟩, hb⟩
              have HT2 : Hid (TabX w0 w2 tb L2 Xf Xb (.slice a n c)) := hide (TabX.step HS.out HB.out HCf.out.1 HCf.out.2 hb ht)
              clear ht hb
              simp only [recV]
              go_wp2
              exact ⟨⟨k, nx, L2, by have := HP2.out; omega, by have := HP2.out; have := HL.out; omega, by have := HP2.out; omega, rfl, HT2.out, HN2.out⟩, by have := HP2.out; have := HL.out; simp [intOf]; omega⟩
            · have HE : Hid (R = (f, L2)) := hide (by rw [← HRR.out, hr1 hf])
              clear hpl hr1 hr2
              go_wp2_with fail
              refine HQ2.out.mono ?_
              rintro e w2 ⟨rfl, ⟨v', mv', ht⟩, hb⟩
              have HT2 : Hid (TabX w0 w2 tb L2 Xf Xb (.slice a n c)) := hide (TabX.step HS.out HB.out HCf.out.1 HCf.out.2 hb ht)
              clear ht hb
              simp only [recV]
              go_wp2
              go_ret
              exact ⟨by rw [HE.out]; rfl, by rw [HE.out]; exact HT2.out⟩
          · have HE : Hid (R = (0, L')) := hide (by rw [← hRR, rdRecs_out (by have := HL.out; omega)])
            clear hN hRR
            go_wp2
            go_ret
            exact ⟨by rw [HE.out]; rfl, by rw [HE.out]; exact HN.out⟩
    · have HE : Hid (rdBody L zs = (42, L)) := hb2 rfl (.inl hx)
      generalize rdBody L zs = R at HE ⊢
      clear hb1 hb2 hb3 hbd hplc hl hp2
      go_enter Try.func46, Try.ntmps46
      go_wp2_with fail
      refine HQ.out.mono ?_
      rintro e w1 ⟨rfl, rfl⟩
      go_wp2
      go_ret
      exact ⟨by rw [HE.out]; rfl, by rw [HE.out]; exact HT.out⟩
  · have HE : Hid (rdBody L zs = (f, L)) := hb1 hf
    generalize rdBody L zs = R at HE ⊢
    clear hb1 hb2 hb3 hbd hplc hl
    go_enter Try.func46, Try.ntmps46
    go_wp2_with fail
    refine HQ.out.mono ?_
    rintro e w1 ⟨rfl, rfl⟩
    go_wp2
    go_ret
    exact ⟨by rw [HE.out]; rfl, by rw [HE.out]; exact HT.out⟩
set_option maxHeartbeats 2000000 in
set_option maxRecDepth 4000 in
theorem rd_any {w0 w : World} {tb : Nat} {L : List ByteArray} (h : TabN w0 w tb L) (a : Option Addr) (n c : Nat) (zs : List Int) (hr : Row w0 a n zs) (hn : (n : Int) ≤ 140737488355328) (hnc : n ≤ c) :
    Calls Try.prog 36 #[.pointer (some ⟨tb, 0, none⟩), .slice a n c] w fun e w' => e = .returned (.int .i64 (rdBody L zs).1) ∧ TabN w0 w' tb (rdBody L zs).2 := by
  obtain ⟨W2, hW2⟩ : ∃ W2, W2 = (w.alloc (.cells #[.pointer (some ⟨tb, 0, none⟩)] 24)).alloc (.cells #[.slice a n c] 31) := ⟨_, rfl⟩
  have b2 : Below w.heap.size w W2 := by rw [hW2]; exact ((Below.refl _ w).alloc (Nat.le_refl _) _).alloc (by simp) _
  have k0 : W2.cell? ⟨w.heap.size, 0, none⟩ = some (.pointer (some ⟨tb, 0, none⟩)) := by
    rw [hW2]; exact (World.cell?_alloc_old _ _ _ (by simp)).trans (cell_new _ _ _)
  have k1 : W2.cell? ⟨w.heap.size + 1, 0, none⟩ = some (.slice a n c) := by
    rw [hW2]; have := cell_new (w.alloc (.cells #[.pointer (some ⟨tb, 0, none⟩)] 24)) (.slice a n c) 31; rw [World.size_alloc] at this; exact this
  obtain ⟨S, v, mv, ht, hS, hB⟩ := h
  have ht2 := ht.kept (T := fun _ => False) (But.of_below b2) (fun _ _ e => e)
  have c0 := ht2.cell0
  obtain ⟨va, vc, rfl⟩ := own_form ht2.own
  have hLl : (L.length : Int) ≤ 65536 := by have := ht.len; omega
  have hs2 := b2.size
  have hQ := cread_any (w := W2.drew) (w0 := w0) (tb := tb) (L := L) w.heap.size (w.heap.size + 1) a n c ⟨S, _, mv, ht2.kept (T := fun _ => False) ((But.refl _ W2).drew) (fun _ _ e => e), fun k hk => by
    have := hS k hk
    exact ⟨⟨this.1, by show k < W2.heap.size; omega⟩, by omega, by omega⟩, (hB.trans (b2.mono hB.size)).drew, k0, k1⟩ zs hr hn hnc
  have HQ : Hid _ := hide hQ
  have htb : tb < W2.heap.size := ht2.lt
  have hx0 : w.heap.size < W2.heap.size := World.block_lt_of_cell? _ _ k0
  have hx1 : w.heap.size + 1 < W2.heap.size := World.block_lt_of_cell? _ _ k1
  clear ht ht2 hQ hS hr hB b2 hs2
  generalize rdBody L zs = R at HQ ⊢
  obtain ⟨f, N'⟩ := R
  dsimp only at HQ ⊢
  go_enter Try.func36, Try.ntmps36
  go_wp2
  rw [← hW2]
  clear hW2
  go_region_with (go_at_call 46; refine HQ.out.mono ?_; rintro e w3 ⟨rfl, hL⟩; have HL : Hid _ := hide hL; clear hL)
  all_goals
    go_wp2
    go_ret
    exact ⟨rfl, HL.out.tabN⟩
end Go.Proofs.Ytbcmheilgilipaa
