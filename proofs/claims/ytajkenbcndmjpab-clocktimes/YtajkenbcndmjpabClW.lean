/-
  The document's Decode.
-/
import Derived.Test.YtajkenbcndmjpabClV
namespace Go.Proofs.Ytajkenbcndmjpab
open Go.RowKit
open Go.Proofs.Ytajkenbcndmjpab.W1 (Row out3 ret_out3 rdAt rdAt_bd rdAt_place ru_any rru_any)
theorem rdT_doc {zs : List Int} {m at_ d p f t q g : Int} (h1 : rdAt zs at_ = (d, p, f)) (h2 : rdAt zs p = (t, q, g)) (_hm : 0 ≤ m) (hd : 0 ≤ d) :
    rdT zs m at_ = if f ≠ 0 then (⟨0, 0⟩, 0, f) else if 65536 ≤ m + d then (⟨0, 0⟩, 0, 170) else if g ≠ 0 then (⟨0, 0⟩, 0, g) else if t = 0 ∨ 9223372036854775807 < t then (⟨0, 0⟩, 0, 170) else (⟨m + d, t⟩, q, 0) := by
  unfold rdT
  have e1 : rdN zs (65535 - m) at_ = if f ≠ 0 then (0, 0, f) else if 65536 ≤ m + d then (0, 0, 170) else (d, p, 0) := by
    unfold rdN
    rw [h1]
    dsimp only
    by_cases hf : f ≠ 0
    · rw [if_pos hf, if_pos hf]
    · rw [if_neg hf, if_neg hf]
      by_cases hc : 65536 ≤ m + d
      · rw [if_pos (by omega), if_pos hc]
      · rw [if_neg (by omega), if_neg hc]
  rw [e1]
  by_cases hf : f ≠ 0
  · rw [if_pos hf, if_pos hf]
    dsimp only
    rw [if_pos hf]
  · rw [if_neg hf, if_neg hf]
    by_cases hc : 65536 ≤ m + d
    · rw [if_pos hc, if_pos hc]
      dsimp only
      rw [if_pos (by decide)]
    · rw [if_neg hc, if_neg hc]
      dsimp only
      rw [if_neg (by simp)]
      have e2 : rdN zs 9223372036854775807 p = if g ≠ 0 then (0, 0, g) else if 9223372036854775807 < t then (0, 0, 170) else (t, q, 0) := by
        unfold rdN
        rw [h2]
        dsimp only
        by_cases hg : g ≠ 0
        · rw [if_pos hg, if_pos hg]
        · rw [if_neg hg, if_neg hg]
          by_cases ht : 9223372036854775807 < t
          · rw [if_pos (.inr ht), if_pos ht]
          · rw [if_neg (by omega), if_neg ht]
      rw [e2]
      by_cases hg : g ≠ 0
      · rw [if_pos hg, if_pos hg]
        dsimp only
        rw [if_pos hg]
      · rw [if_neg hg, if_neg hg]
        by_cases ht : 9223372036854775807 < t
        · rw [if_pos ht]
          dsimp only
          rw [if_pos (show (170 : Int) ≠ 0 by decide), if_pos (show t = 0 ∨ 9223372036854775807 < t from .inr ht)]
        · rw [if_neg ht]
          dsimp only
          rw [if_neg (by simp)]
          by_cases h0 : t = 0
          · rw [if_pos h0, if_pos (.inl h0)]
          · rw [if_neg h0, if_neg (by omega)]
set_option maxRecDepth 100000 in
set_option maxHeartbeats 8000000 in
theorem rdec_any (a : Option Addr) (n c : Nat) (zs : List Int) (w : World) (hr : Row w a n zs) (hn : (n : Int) ≤ 9223372036854700000) :
    Calls Try.prog 10 #[.slice a n c] w fun e w' => ∃ v, e = .returned (.tuple #[v, .int .i64 (decC zs).2]) ∧ Own layT 43 w' w.heap.size v (decC zs).1 ∧ Below w.heap.size w w' := by
  have B1 := rdN_bd zs 65536 0 hr.u8
  have A1 := rdAt_bd zs 0 hr.u8
  have H1 := rru_any a n c 0 zs w hr hn
  have E : Hid (decC zs = if (rdN zs 65536 0).2.2 ≠ 0 then ([], (rdN zs 65536 0).2.2) else fin zs [] (rdL zs (rdN zs 65536 0).1.toNat 0 (rdN zs 65536 0).2.1)) := hide rfl
  have EN : rdN zs 65536 0 = if (rdAt zs 0).2.2 ≠ 0 then (0, 0, (rdAt zs 0).2.2) else if (65536 : Int) < 0 ∨ 65536 < (rdAt zs 0).1 then (0, 0, 170) else ((rdAt zs 0).1, (rdAt zs 0).2.1, 0) := rfl
  generalize decC zs = R at E ⊢
  generalize rdN zs 65536 0 = q1 at B1 E EN
  generalize rdAt zs 0 = q0 at H1 EN A1
  obtain ⟨cnt, at0, e1⟩ := q0
  dsimp only at EN A1
  simp only [out3] at H1
  obtain ⟨Rl, Re⟩ := R
  obtain ⟨hc0, hc1, -⟩ := A1
  have K1 := hide H1
  have HRw := hide hr
  have HN := hide hn
  have HL := hide hr.len
  clear H1 hr
  by_cases h1 : e1 = 0
  · subst h1
    rw [if_neg (by simp)] at EN
    by_cases h2 : 65536 < cnt
    · rw [if_pos (.inr h2)] at EN
      rw [EN] at E
      have E2 : Rl = [] ∧ Re = 170 := by have h9 := E.out; rw [if_pos (by decide)] at h9; injection h9 with h9 h8; exact ⟨h9, h8⟩
      obtain ⟨rfl, rfl⟩ := E2
      have d2 : decide (65536 < cnt) = true := decide_eq_true h2
      clear E EN B1
      go_enter Try.func10, Try.ntmps10
      go_wp2_with fail
      refine K1.out.mono ?_
      rintro e w1 ⟨rfl, hw⟩
      rw [hw]
      clear hw w1 K1
      go_wp2
      go_ret2
      exact ⟨_, rfl, Own.nil _ _ _ _, Below.refl _ _⟩
    · rw [if_neg (by omega)] at EN
      rw [EN] at E B1
      have d2 : decide (65536 < cnt) = false := decide_eq_false h2
      obtain ⟨hb2, -, hb3, hb4⟩ := B1.2 rfl
      dsimp only at hb2 hb3 hb4
      obtain ⟨N, rfl⟩ := Int.eq_ofNat_of_zero_le hc0
      have HS : Hid (Dc zs (Rl, Re) N 0 ((-1 : Int) + 1) at0 []) := hide ⟨by rw [E.out, if_neg (by simp)]; dsimp only; rw [Int.toNat_natCast]; rfl, rfl⟩
      obtain ⟨i0, hi, hz0, hz1, hz2⟩ := info_parts Try.infoT
      have hN1 : (N : Int) ≤ 65536 := hb2
      have hwN : wrap64 (N : Int) = N := by unfold wrap64; omega
      clear E EN B1 hc0 hc1 hb2 hb3 hb4 h2
      go_enter Try.func10, Try.ntmps10
      go_wp2_with fail
      refine K1.out.mono ?_
      rintro e w1 ⟨rfl, hw⟩
      rw [hw]
      clear hw w1 K1
      go_wp2
      go_loopw [5, 7, 8, 9] (fun p o l i wr => ∃ (k : Nat) (ls A : Int) (acc : List Tk), k ≤ N ∧ i = .int .i64 k ∧ l = .int .i64 ls ∧ p = .int .i64 A ∧ -1 ≤ ls ∧ ls ≤ 65535 ∧ Hid (Own layT 43 wr w.heap.size o acc) ∧ Hid (Dc zs (Rl, Re) N k (ls + 1) A acc) ∧ Hid (Below w.heap.size w wr)) (fun _ _ _ i _ => N - (intOf i).toNat)
      case atStart => exact ⟨0, -1, at0, [], Nat.zero_le _, rfl, rfl, rfl, by omega, by omega, hide (Own.nil _ _ _ _), HS, hide (Below.refl _ _)⟩
      case round =>
        obtain ⟨k, ls, A, acc, hk, rfl, rfl, rfl, hm0, hm1, HO, HD, HBr⟩ := hrel
        by_cases hlt : k < N
        · have hltI : (k : Int) < N := by omega
          have R1 := rru_any a n c A zs wr (HRw.out.below HBr.out) HN.out
          have A1 := rdAt_bd zs A HRw.out.u8
          generalize h1q : rdAt zs A = q1 at R1 A1
          obtain ⟨d, p, f⟩ := q1
          have R2 := rru_any a n c p zs wr (HRw.out.below HBr.out) HN.out
          have A2 := rdAt_bd zs p HRw.out.u8
          generalize h2q : rdAt zs p = q2 at R2 A2
          obtain ⟨t, q, g⟩ := q2
          dsimp only at A1 A2
          simp only [out3] at R1 R2
          obtain ⟨hd0, hd1, -⟩ := A1
          obtain ⟨ht0, ht1, -⟩ := A2
          have hdoc := rdT_doc (m := ls + 1) h1q h2q (by omega) hd0
          have HDs := hide (fun (x : Tk) (p' e' : Int) (h : rdT zs (ls + 1) A = (x, p', e')) => HD.out.step hlt h)
          have K1 := hide R1
          have K2 := hide R2
          have HAl : Hid ((acc.length : Int) ≤ 65536) := hide (by have := HD.out.l; omega)
          clear h1q h2q R1 R2
          by_cases hf : f = 0
          · subst hf
            rw [if_neg (by simp)] at hdoc
            by_cases hc : 65536 ≤ ls + 1 + d
            · rw [if_pos hc] at hdoc
              have E2 := (HDs.out _ _ _ hdoc).1 (by decide)
              injection E2 with e3 e4
              subst e3
              subst e4
              clear hdoc HDs
              by_cases hd2 : 65536 < d
              · have d3 : decide (65536 < d) = true := decide_eq_true hd2
                go_wp2_with fail
                refine K1.out.mono ?_
                rintro e w1 ⟨rfl, hw⟩
                rw [hw]
                clear hw w1 K1
                go_wp2
                go_ret2
                exact ⟨_, rfl, Own.nil _ _ _ _, HBr.out⟩
              · have d3 : decide (65536 < d) = false := decide_eq_false hd2
                have hwd : wrap64 d = d := by unfold wrap64; omega
                have hws : wrap64 (ls + 1 + d) = ls + 1 + d := by unfold wrap64; omega
                have d4 : decide (65536 ≤ ls + 1 + d) = true := decide_eq_true hc
                go_wp2_with fail
                refine K1.out.mono ?_
                rintro e w1 ⟨rfl, hw⟩
                rw [hw]
                clear hw w1 K1
                go_wp2
                go_ret2
                exact ⟨_, rfl, Own.nil _ _ _ _, HBr.out⟩
            · rw [if_neg hc] at hdoc
              have d3 : decide (65536 < d) = false := decide_eq_false (by omega)
              have hwd : wrap64 d = d := by unfold wrap64; omega
              have hws : wrap64 (ls + 1 + d) = ls + 1 + d := by unfold wrap64; omega
              have d4 : decide (65536 ≤ ls + 1 + d) = false := decide_eq_false hc
              by_cases hg : g = 0
              · subst hg
                rw [if_neg (by simp)] at hdoc
                by_cases ht : t = 0 ∨ 9223372036854775807 < t
                · rw [if_pos ht] at hdoc
                  have E2 := (HDs.out _ _ _ hdoc).1 (by decide)
                  injection E2 with e3 e4
                  subst e3
                  subst e4
                  clear hdoc HDs
                  have ht2 : t = 0 ∨ (¬ t = 0 ∧ 9223372036854775807 < t) := by omega
                  clear ht
                  rcases ht2 with rfl | ⟨ht2, ht3⟩
                  · go_wp2_with fail
                    refine K1.out.mono ?_
                    rintro e w1 ⟨rfl, hw⟩
                    rw [hw]
                    clear hw w1 K1
                    go_wp2_with fail
                    refine K2.out.mono ?_
                    rintro e w1 ⟨rfl, hw⟩
                    rw [hw]
                    clear hw w1 K2
                    go_wp2
                    go_ret2
                    exact ⟨_, rfl, Own.nil _ _ _ _, HBr.out⟩
                  · have d5 : (t == 0) = false := by simp [ht2]
                    have d6 : decide (9223372036854775807 < t) = true := decide_eq_true ht3
                    go_wp2_with fail
                    refine K1.out.mono ?_
                    rintro e w1 ⟨rfl, hw⟩
                    rw [hw]
                    clear hw w1 K1
                    go_wp2_with fail
                    refine K2.out.mono ?_
                    rintro e w1 ⟨rfl, hw⟩
                    rw [hw]
                    clear hw w1 K2
                    go_wp2
                    go_ret2
                    exact ⟨_, rfl, Own.nil _ _ _ _, HBr.out⟩
                · rw [if_neg ht] at hdoc
                  have HD1 := hide ((HDs.out _ _ _ hdoc).2 rfl)
                  dsimp only at HD1
                  have d5 : (t == 0) = false := by simp; omega
                  have d6 : decide (9223372036854775807 < t) = false := decide_eq_false (by omega)
                  have hwt : wrap64 t = t := by unfold wrap64; omega
                  clear hdoc HDs
                  go_wp2_with fail
                  refine K1.out.mono ?_
                  rintro e w1 ⟨rfl, hw⟩
                  rw [hw]
                  clear hw w1 K1
                  go_wp2_with fail
                  refine K2.out.mono ?_
                  rintro e w1 ⟨rfl, hw⟩
                  rw [hw]
                  clear hw w1 K2
                  go_wp2_with (at_builtin; refine append_lay layT _ 22 43 i0 _ 16 Try.underlying22 hi hz0 hz1 hz2 rfl rfl (.tmp 74) (.tmp 79) rfl w.heap.size _ acc rfl (HO.out.below (below_alloc1 _ _)) (some ⟨wr.heap.size, 0, none⟩) 1 1 [⟨ls + 1 + d, t⟩] rfl (TRow.one (y := layT) (x := ⟨ls + 1 + d, t⟩) (e := 43) (heap_new _ _)) (by intro e; cases e) ?b1 ?b2 ?b3 ?_)
                  case b1 => unfold maxLen; have := HAl.out; omega
                  case b2 => have := HAl.out; omega
                  case b3 => have := HBr.out.size; simp; omega
                  intro v4 W4 o4 g4 l4
                  have HO4 := hide o4
                  have HB4 := hide ((HBr.out.alloc HBr.out.size (.cells #[.int .i64 (ls + 1 + d), .int .i64 t] 43)).grown g4 (by have := HBr.out.size; simp; omega) (fun q hq => (HO.out.lt q hq).1))
                  clear o4 g4 l4
                  go_wp2
                  exact ⟨⟨k + 1, ls + 1 + d, q, _, by omega, by go_num, rfl, rfl, by omega, by omega, HO4, HD1, HB4⟩, by simp [intOf]; omega⟩
              · rw [if_pos hg] at hdoc
                have E2 := (HDs.out _ _ _ hdoc).1 hg
                injection E2 with e3 e4
                subst e3
                subst e4
                have d5 : (Re != 0) = true := by simp [hg]
                clear hdoc HDs
                go_wp2_with fail
                refine K1.out.mono ?_
                rintro e w1 ⟨rfl, hw⟩
                rw [hw]
                clear hw w1 K1
                go_wp2_with fail
                refine K2.out.mono ?_
                rintro e w1 ⟨rfl, hw⟩
                rw [hw]
                clear hw w1 K2
                go_wp2
                go_ret2
                exact ⟨_, rfl, Own.nil _ _ _ _, HBr.out⟩
          · rw [if_pos hf] at hdoc
            have E2 := (HDs.out _ _ _ hdoc).1 hf
            injection E2 with e3 e4
            subst e3
            subst e4
            have d5 : (Re != 0) = true := by simp [hf]
            clear hdoc HDs
            go_wp2_with fail
            refine K1.out.mono ?_
            rintro e w1 ⟨rfl, hw⟩
            rw [hw]
            clear hw w1 K1
            go_wp2
            go_ret2
            exact ⟨_, rfl, Own.nil _ _ _ _, HBr.out⟩
        · have hkN : k = N := by omega
          subst hkN
          have hR := HD.out.done
          rw [HL.out] at hR
          have hd : decide ((k : Int) < (k : Int)) = false := by simp
          by_cases h3 : A < n
          · rw [if_pos h3] at hR
            injection hR with e3 e4
            subst e3
            subst e4
            have d3 : decide (A < n) = true := decide_eq_true h3
            go_wp2
            go_ret2
            exact ⟨_, rfl, Own.nil _ _ _ _, HBr.out⟩
          · rw [if_neg h3] at hR
            injection hR with e3 e4
            subst e3
            subst e4
            have d3 : decide (A < n) = false := decide_eq_false h3
            go_wp2
            go_ret2
            exact ⟨_, rfl, HO.out, HBr.out⟩
  · rw [if_pos h1] at EN
    rw [EN] at E
    have E2 : Rl = [] ∧ Re = e1 := by have h9 := E.out; rw [if_pos h1] at h9; injection h9 with h9 h8; exact ⟨h9, h8⟩
    obtain ⟨rfl, rfl⟩ := E2
    have d1 : (Re != 0) = true := by simp [h1]
    clear E EN B1
    go_enter Try.func10, Try.ntmps10
    go_wp2_with fail
    refine K1.out.mono ?_
    rintro e w1 ⟨rfl, hw⟩
    rw [hw]
    clear hw w1 K1
    go_wp2
    go_ret2
    exact ⟨_, rfl, Own.nil _ _ _ _, Below.refl _ _⟩
end Go.Proofs.Ytajkenbcndmjpab
