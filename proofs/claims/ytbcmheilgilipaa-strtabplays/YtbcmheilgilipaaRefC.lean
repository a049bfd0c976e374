/-
  The document reads a body.
-/
import Derived.Test.YtbcmheilgilipaaRefB
import Derived.Test.YtbcmheilgilipaaDecC
namespace Go.Proofs.Ytbcmheilgilipaa
open Go.RowKit Go.Maps
/-- The document's table, all its memory new since w0. -/
def RTabN (w0 w : World) (tb : Nat) (L : List ByteArray) : Prop :=
  ∃ S v, RTab w tb S L v ∧ (∀ k, S k → w0.heap.size ≤ k ∧ k < w.heap.size) ∧ Below w0.heap.size w0 w
theorem RTabN.step {w0 w w' : World} {tb : Nat} {S : Nat → Prop} {L' : List ByteArray} {v' : Value} (hS : ∀ k, S k → w0.heap.size ≤ k ∧ k < w.heap.size) (hB : Below w0.heap.size w0 w) (hb : But S w w') (ht : RTab w' tb (fun k => S k ∨ (w.heap.size ≤ k ∧ k < w'.heap.size)) L' v') : RTabN w0 w' tb L' := by
  refine ⟨_, v', ht, fun k hk => ?_, hB.trans (hb.below hB.size fun k hk => (hS k hk).1)⟩
  have := hb.size
  have := hB.size
  rcases hk with e | e
  · have := hS k e; omega
  · omega
set_option maxHeartbeats 3000000 in
set_option maxRecDepth 4000 in
theorem rrd_any {w0 w : World} {tb : Nat} {L : List ByteArray} (h : RTabN w0 w tb L) (a : Option Addr) (n c : Nat) (zs : List Int) (hr : Row w0 a n zs) (hn : (n : Int) ≤ 140737488355328) (hnc : n ≤ c) :
    Calls Try.prog 41 #[.pointer (some ⟨tb, 0, none⟩), .slice a n c] w fun e w' => e = .returned (.int .i64 (rdBody L zs).1) ∧ RTabN w0 w' tb (rdBody L zs).2 := by
  have HT : Hid (RTabN w0 w tb L) := h
  obtain ⟨S, v, ht, hS, hB⟩ := h
  have hrw := hr.below hB
  have HQ : Hid _ := hide (rru_any a n c 0 zs w hrw (by omega))
  have hbd := rdAt_bd zs 0 hr.u8
  have hplc := rdAt_place (zs := zs) (t := 0)
  have hl := hr.len
  have c0 := ht.cell0
  obtain ⟨a0, k0, rfl⟩ := own_form ht.own
  have hLl : (L.length : Int) ≤ 9223372036854775806 := by have := ht.len; omega
  have hb1 : (rdAt zs 0).2.2 ≠ 0 → rdBody L zs = ((rdAt zs 0).2.2, L) := fun h => by unfold rdBody; rw [if_pos h]
  have hb2 : (rdAt zs 0).2.2 = 0 → ((rdAt zs 0).1 ≠ (L.length : Int) ∨ (rdAt zs 0).2.1 = (zs.length : Int)) → rdBody L zs = (42, L) := fun h h' => by unfold rdBody; rw [if_neg (by omega), if_pos h']
  have hb3 : (rdAt zs 0).2.2 = 0 → ¬ ((rdAt zs 0).1 ≠ (L.length : Int) ∨ (rdAt zs 0).2.1 = (zs.length : Int)) → rdBody L zs = rdRecs zs.length L zs (rdAt zs 0).2.1 := fun h h' => by unfold rdBody; rw [if_neg (by omega), if_neg h']
  have HR : Hid (Row w0 a n zs) := hr
  generalize rdAt zs 0 = r at HQ hbd hplc hb1 hb2 hb3
  obtain ⟨x, p, f⟩ := r
  simp only [out3] at HQ hbd hplc hb1 hb2 hb3
  clear hr hrw ht hS hB
  by_cases hf : f = 0
  · subst hf
    obtain ⟨hp0, hp1, hp2⟩ := hplc rfl
    have hx0 := hbd.1
    have hx1 := hbd.2.1
    by_cases hx : x = (L.length : Int)
    · by_cases hpe : p = (zs.length : Int)
      · have HE : Hid (rdBody L zs = (42, L)) := hb2 rfl (.inr hpe)
        generalize rdBody L zs = R at HE ⊢
        subst hx
        have hpe' : p = (n : Int) := by omega
        subst hpe'
        clear hb1 hb2 hb3 hbd hplc hl hp2 hpe
        go_enter Try.func41, Try.ntmps41
        go_wp2_with fail
        refine HQ.out.mono ?_
        rintro e w1 ⟨rfl, rfl⟩
        go_wp2
        go_ret
        exact ⟨by rw [HE.out]; rfl, by rw [HE.out]; exact HT.out⟩
      · have HE : Hid (rdBody L zs = rdRecs zs.length L zs p) := hb3 rfl (by omega)
        rw [HE.out]
        have hpe' : ¬ p = (n : Int) := by omega
        have hpn : (p == (n : Int)) = false := by rw [beq_eq_false_iff_ne]; exact hpe'
        clear hpe'
        subst hx
        clear hb1 hb2 hb3 hbd hplc hpe
        obtain ⟨R, hR⟩ : ∃ R, R = rdRecs zs.length L zs p := ⟨_, rfl⟩
        rw [← hR]
        have HRc : Hid (R = rdRecs zs.length L zs p) := hR
        have HL : Hid (zs.length = n) := hl
        have HP : Hid (0 < p ∧ p ≤ zs.length) := ⟨hp1, hp2⟩
        clear hR hl hp2
        go_enter Try.func41, Try.ntmps41
        go_wp2_with fail
        refine HQ.out.mono ?_
        rintro e w1 ⟨rfl, rfl⟩
        go_wp2
        clear c0
        go_loopw [6] (fun i wr => ∃ (k : Nat) (t : Int) (L' : List ByteArray), 0 ≤ t ∧ t ≤ (n : Int) ∧ (n : Int) - t ≤ k ∧ i = .int .i64 t ∧ RTabN w0 wr tb L' ∧ rdRecs k L' zs t = R) (fun i _ => n - (intOf i).toNat)
        case atStart => exact ⟨zs.length, p, L, by have := HP.out; omega, by have := HP.out; have := HL.out; omega, by have := HP.out; have := HL.out; omega, rfl, HT.out, HRc.out.symm⟩
        case round =>
          obtain ⟨k, t, L', ht0, ht1, htk, rfl, hN, hRR⟩ := hrel
          have HN : Hid (RTabN w0 wr tb L') := hN
          have HRR : Hid (rdRecs k L' zs t = R) := hRR
          by_cases hlt : t < (n : Int)
          · obtain ⟨S, v, ht, hS, hB⟩ := hN
            have HTb : Hid (RTab wr tb S L' v) := ht
            have hrw := HR.out.below hB
            have HQ2 : Hid _ := hide (rru_any a n c t zs wr hrw (by omega))
            have FQ : Hid (∀ (W : World) {v : Value}, RTab W tb S L' v → ∀ s, Calls Try.prog 33 #[.pointer (some ⟨tb, 0, none⟩), .string s] W fun e w' => e = .returned (lookV L' s) ∧ w' = W) := hide (fun W _ h s => rfind_any h s)
            have HS : Hid (∀ k, S k → w0.heap.size ≤ k ∧ k < wr.heap.size) := hS
            have HB : Hid (Below w0.heap.size w0 wr) := hB
            have hbd2 := rdAt_bd zs t HR.out.u8
            have hplc2 := rdAt_place (zs := zs) (t := t)
            obtain ⟨k, rfl⟩ : ∃ k', k = k' + 1 := ⟨k - 1, by omega⟩
            have hlz : t < (zs.length : Int) := by have := HL.out; omega
            clear ht hS hB hRR
            generalize hr0 : rdAt zs t = r at HQ2 hbd2 hplc2
            obtain ⟨x, p2, f⟩ := r
            simp only [out3] at HQ2 hbd2 hplc2
            have HRA : Hid (rdAt zs t = (x, p2, f)) := hr0
            clear hr0
            have hlz2 : Hid (t < (zs.length : Int)) := hlz
            by_cases hf : f = 0
            · subst hf
              obtain ⟨hq0, hq1, hq2⟩ := hplc2 rfl
              have hy0 := hbd2.1
              have hy1 := hbd2.2.1
              clear hbd2 hplc2
              have hq3 : 0 ≤ p2 := by omega
              have hq4 : p2 ≤ (n : Int) := by have := HL.out; omega
              by_cases h1 : 65536 < x
              · have HE : Hid (R = (3, L')) := hide (by have := rdRec_large (L := L') HRA.out h1; rw [← HRR.out, rdRecs_fault hlz (by rw [this]; simp), this])
                have q1 : decide (65536 < x) = true := decide_eq_true h1
                clear hlz hq2 hrw
                go_wp2_with fail
                refine HQ2.out.mono ?_
                rintro e w2 ⟨rfl, rfl⟩
                go_wp2
                go_ret
                exact ⟨by rw [HE.out]; rfl, by rw [HE.out]; exact HN.out⟩
              · have q1 : decide (65536 < x) = false := decide_eq_false h1
                by_cases h2 : (zs.length : Int) - p2 < x
                · have HE : Hid (R = (13, L')) := hide (by have := rdRec_take (L := L') HRA.out h1 h2; rw [← HRR.out, rdRecs_fault hlz (by rw [this]; simp), this])
                  have q2 : decide ((n : Int) - p2 < x) = true := decide_eq_true (by have := HL.out; omega)
                  clear hlz hq2 hrw h2
                  go_wp2_with fail
                  refine HQ2.out.mono ?_
                  rintro e w2 ⟨rfl, rfl⟩
                  go_wp2
                  go_ret
                  exact ⟨by rw [HE.out]; rfl, by rw [HE.out]; exact HN.out⟩
                · have q2 : decide ((n : Int) - p2 < x) = false := decide_eq_false (by have := HL.out; omega)
                  obtain ⟨P, rfl⟩ := Int.eq_ofNat_of_zero_le hq3
                  obtain ⟨X, rfl⟩ := Int.eq_ofNat_of_zero_le hy0
                  have hPX : P + X ≤ n := by have := HL.out; omega
                  obtain ⟨b, off, rfl, hcl⟩ := hrw.cells.resolve_left (by omega)
                  have HRA2 := HRA.out
                  have R1 : Hid _ := hide (fun h3 => rdRec_twice (L := L') HRA2 h1 h2 h3)
                  have R2 : Hid _ := hide (fun h3 h4 => rdRec_new (L := L') HRA2 h1 h2 h3 h4)
                  have R3 : Hid _ := hide (fun h3 h4 => rdRec_full (L := L') HRA2 h1 h2 h3 h4)
                  simp only [Int.toNat_natCast] at R1 R2 R3
                  have hcv : ∀ c', (convert 31 9 (.slice (some ⟨b, off + P, none⟩) X c')).run Try.prog wr = .ok (.string (cutS zs P X)) wr := fun c' => conv_any c' (hrw.cut hPX) (fun e => by cases e)
                  have HSz : Hid ((cutS zs P X).size = X) := cutS_size (by have := HL.out; omega)
                  have HX6 : Hid ((X : Int) ≤ 65536) := hide (by omega)
                  clear h2
                  by_cases hcP : c = P
                  · have hX0 : X = 0 := by omega
                    have hcv0 : ∀ c', (convert 31 9 (.slice (some ⟨b, off, none⟩) 0 c')).run Try.prog wr = .ok (.string (cutS zs P X)) wr := fun c' => by
                      have e : strOfNums [] = cutS zs P X := by unfold cutS; rw [hX0]; rfl
                      rw [← e]; exact conv_any (zs := []) c' ⟨rfl, fun i => by simp, .inl rfl⟩ (fun e => by cases e)
                    subst hX0
                    subst hcP
                    generalize cutS zs c 0 = s at R1 R2 R3 hcv hcv0 HSz
                    have hsm : Hid (s.size ≤ maxLen) := hide (by rw [HSz.out]; have := HX6.out; unfold maxLen; omega)
                    clear hcl HRA2 hrw
                    go_wp2_with fail
                    refine HQ2.out.mono ?_
                    rintro e w9 ⟨rfl, h9⟩
                    rw [h9]
                    clear h9 w9
                    go_wp2_with fail
                    refine (FQ.out wr HTb.out s).mono ?_
                    rintro e w2 ⟨rfl, h2⟩
                    rw [h2]
                    clear h2 w2
                    cases hin : isIn L' s
                    · have HIN : Hid (isIn L' s = false) := hin
                      rw [show lookV L' s = .tuple #[.int .i64 0, .bool false] by unfold lookV; rw [hin]; rfl]
                      clear hin
                      go_wp2_with fail
                      cases hro : roomy L'.length (total L') s.size
                      · have HE : Hid (R = (3, L')) := hide (by have := R3.out HIN.out hro; rw [← HRR.out, rdRecs_fault hlz (by rw [this]; simp), this])
                        have Q := rintern_any HTb.out s hsm.out
                        rw [show internV L' s = .tuple #[.int .i64 0, .int .i64 3] by unfold internV; rw [HIN.out, hro]; rfl, show internL L' s = L' by unfold internL; rw [HIN.out, hro]; rfl] at Q
                        refine Q.mono ?_
                        rintro e w3 ⟨rfl, ⟨v', ht⟩, hb⟩
                        have HT3 : Hid (RTabN w0 w3 tb L') := hide (RTabN.step HS.out HB.out hb ht)
                        clear ht hb Q hro R1 R2 R3
                        go_wp2
                        go_ret
                        exact ⟨by rw [HE.out]; rfl, by rw [HE.out]; exact HT3.out⟩
                      · have hne := R2.out HIN.out hro
                        have HN2 : Hid (rdRecs k (L' ++ [s]) zs ((c : Int) + ((0 : Nat) : Int)) = R) := hide (by rw [← HRR.out, rdRecs_next hlz (by rw [hne]), hne])
                        have Q := rintern_any HTb.out s hsm.out
                        rw [show internV L' s = .tuple #[.int .i64 (L'.length : Int), .int .i64 0] by unfold internV; rw [HIN.out, hro]; rfl, show internL L' s = L' ++ [s] by unfold internL; rw [HIN.out, hro]; rfl] at Q
                        refine Q.mono ?_
                        rintro e w3 ⟨rfl, ⟨v', ht⟩, hb⟩
                        have HT3 : Hid (RTabN w0 w3 tb (L' ++ [s])) := hide (RTabN.step HS.out HB.out hb ht)
                        clear ht hb Q hro R1 R2 R3 hne
                        go_wp2
                        exact ⟨⟨k, (c : Int) + ((0 : Nat) : Int), L' ++ [s], by omega, by omega, by omega, by go_num, HT3.out, HN2.out⟩, by simp [intOf]; omega⟩
                    · have HE : Hid (R = (41, L')) := hide (by have := R1.out hin; rw [← HRR.out, rdRecs_fault hlz (by rw [this]; simp), this])
                      rw [show lookV L' s = .tuple #[.int .i64 (place L' s : Int), .bool true] by unfold lookV; rw [hin]; rfl]
                      clear hin R1 R2 R3
                      go_wp2
                      go_ret
                      exact ⟨by rw [HE.out]; rfl, by rw [HE.out]; exact HN.out⟩
                  · generalize cutS zs P X = s at R1 R2 R3 hcv HSz
                    have hsm : Hid (s.size ≤ maxLen) := hide (by rw [HSz.out]; have := HX6.out; unfold maxLen; omega)
                    clear hcl HRA2 hrw
                    go_wp2_with fail
                    refine HQ2.out.mono ?_
                    rintro e w9 ⟨rfl, h9⟩
                    rw [h9]
                    clear h9 w9
                    go_wp2_with fail
                    refine (FQ.out wr HTb.out s).mono ?_
                    rintro e w2 ⟨rfl, h2⟩
                    rw [h2]
                    clear h2 w2
                    cases hin : isIn L' s
                    · have HIN : Hid (isIn L' s = false) := hin
                      rw [show lookV L' s = .tuple #[.int .i64 0, .bool false] by unfold lookV; rw [hin]; rfl]
                      clear hin
                      go_wp2_with fail
                      cases hro : roomy L'.length (total L') s.size
                      · have HE : Hid (R = (3, L')) := hide (by have := R3.out HIN.out hro; rw [← HRR.out, rdRecs_fault hlz (by rw [this]; simp), this])
                        have Q := rintern_any HTb.out s hsm.out
                        rw [show internV L' s = .tuple #[.int .i64 0, .int .i64 3] by unfold internV; rw [HIN.out, hro]; rfl, show internL L' s = L' by unfold internL; rw [HIN.out, hro]; rfl] at Q
                        refine Q.mono ?_
                        rintro e w3 ⟨rfl, ⟨v', ht⟩, hb⟩
                        have HT3 : Hid (RTabN w0 w3 tb L') := hide (RTabN.step HS.out HB.out hb ht)
                        clear ht hb Q hro R1 R2 R3
                        go_wp2
                        go_ret
                        exact ⟨by rw [HE.out]; rfl, by rw [HE.out]; exact HT3.out⟩
                      · have hne := R2.out HIN.out hro
                        have HN2 : Hid (rdRecs k (L' ++ [s]) zs ((P : Int) + (X : Int)) = R) := hide (by rw [← HRR.out, rdRecs_next hlz (by rw [hne]), hne])
                        have Q := rintern_any HTb.out s hsm.out
                        rw [show internV L' s = .tuple #[.int .i64 (L'.length : Int), .int .i64 0] by unfold internV; rw [HIN.out, hro]; rfl, show internL L' s = L' ++ [s] by unfold internL; rw [HIN.out, hro]; rfl] at Q
                        refine Q.mono ?_
                        rintro e w3 ⟨rfl, ⟨v', ht⟩, hb⟩
                        have HT3 : Hid (RTabN w0 w3 tb (L' ++ [s])) := hide (RTabN.step HS.out HB.out hb ht)
                        clear ht hb Q hro R1 R2 R3 hne
                        go_wp2
                        exact ⟨⟨k, (P : Int) + (X : Int), L' ++ [s], by omega, by omega, by omega, by go_num, HT3.out, HN2.out⟩, by simp [intOf]; omega⟩
                    · have HE : Hid (R = (41, L')) := hide (by have := R1.out hin; rw [← HRR.out, rdRecs_fault hlz (by rw [this]; simp), this])
                      rw [show lookV L' s = .tuple #[.int .i64 (place L' s : Int), .bool true] by unfold lookV; rw [hin]; rfl]
                      clear hin R1 R2 R3
                      go_wp2
                      go_ret
                      exact ⟨by rw [HE.out]; rfl, by rw [HE.out]; exact HN.out⟩
            · have HE : Hid (R = (f, L')) := hide (by have := rdRec_fault (L := L') HRA.out hf; rw [← HRR.out, rdRecs_fault hlz (by rw [this]; exact hf), this])
              clear hlz hrw hbd2 hplc2
              go_wp2_with fail
              refine HQ2.out.mono ?_
              rintro e w2 ⟨rfl, rfl⟩
              go_wp2
              go_ret
              exact ⟨by rw [HE.out]; rfl, by rw [HE.out]; exact HN.out⟩
          · have HE : Hid (R = (0, L')) := hide (by rw [← hRR, rdRecs_out (by have := HL.out; omega)])
            clear hN hRR
            go_wp2
            go_ret
            exact ⟨by rw [HE.out]; rfl, by rw [HE.out]; exact HN.out⟩
    · have HE : Hid (rdBody L zs = (42, L)) := hb2 rfl (.inl hx)
      generalize rdBody L zs = R at HE ⊢
      clear hb1 hb2 hb3 hbd hplc hl hp2
      go_enter Try.func41, Try.ntmps41
      go_wp2_with fail
      refine HQ.out.mono ?_
      rintro e w1 ⟨rfl, rfl⟩
      go_wp2
      go_ret
      exact ⟨by rw [HE.out]; rfl, by rw [HE.out]; exact HT.out⟩
  · have HE : Hid (rdBody L zs = (f, L)) := hb1 hf
    generalize rdBody L zs = R at HE ⊢
    clear hb1 hb2 hb3 hbd hplc hl
    go_enter Try.func41, Try.ntmps41
    go_wp2_with fail
    refine HQ.out.mono ?_
    rintro e w1 ⟨rfl, rfl⟩
    go_wp2
    go_ret
    exact ⟨by rw [HE.out]; rfl, by rw [HE.out]; exact HT.out⟩
end Go.Proofs.Ytbcmheilgilipaa
