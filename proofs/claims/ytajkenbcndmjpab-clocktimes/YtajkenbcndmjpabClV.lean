/-
  Decode.
-/
import Derived.Test.YtajkenbcndmjpabClU
namespace Go.Proofs.Ytajkenbcndmjpab
open Go.RowKit
open Go.Proofs.Ytajkenbcndmjpab.W1 (Row out3 ret_out3 rdAt rdAt_bd rdAt_place ru_any rru_any)
/-- What is read so far, and what comes of the rest. -/
structure Dc (zs : List Int) (R : List Tk × Int) (N k : Nat) (m at_ : Int) (acc : List Tk) : Prop where
  f : fin zs acc (rdL zs (N - k) m at_) = R
  l : acc.length = k
theorem Dc.step {zs : List Int} {R : List Tk × Int} {N k : Nat} {m at_ p e : Int} {acc : List Tk} {x : Tk} (h : Dc zs R N k m at_ acc) (hk : k < N) (hr : rdT zs m at_ = (x, p, e)) : (e ≠ 0 → R = ([], e)) ∧ (e = 0 → Dc zs R N (k + 1) (x.g + 1) p (acc ++ [x])) := by
  have h1 := h.f
  obtain ⟨j, hj⟩ : ∃ j, N - k = j + 1 := ⟨N - k - 1, by omega⟩
  have hj2 : N - (k + 1) = j := by omega
  rw [hj] at h1
  constructor
  · intro he
    rw [← h1]; exact fin_bad hr he
  · intro he
    subst he
    exact ⟨by rw [hj2, ← h1]; exact (fin_ok hr).symm, by rw [List.length_append, h.l]; rfl⟩
theorem Dc.done {zs : List Int} {R : List Tk × Int} {N : Nat} {m at_ : Int} {acc : List Tk} (h : Dc zs R N N m at_ acc) : R = if at_ < (zs.length : Int) then ([], 170) else (acc, 0) := by
  rw [← h.f, Nat.sub_self]; exact fin_end
set_option maxRecDepth 100000 in
set_option maxHeartbeats 4000000 in
theorem dec_any (a : Option Addr) (n c : Nat) (zs : List Int) (w : World) (hr : Row w a n zs) (hn : (n : Int) ≤ 9223372036854700000) :
    Calls Try.prog 9 #[.slice a n c] w fun e w' => ∃ v, e = .returned (.tuple #[v, .int .i64 (decC zs).2]) ∧ Own layT 43 w' w.heap.size v (decC zs).1 ∧ Below w.heap.size w w' := by
  have B1 := rdN_bd zs 65536 0 hr.u8
  have H1 := rw_any a n c 0 65536 zs w hr hn (by omega)
  have E : Hid (decC zs = if (rdN zs 65536 0).2.2 ≠ 0 then ([], (rdN zs 65536 0).2.2) else fin zs [] (rdL zs (rdN zs 65536 0).1.toNat 0 (rdN zs 65536 0).2.1)) := hide rfl
  generalize decC zs = R at E ⊢
  generalize rdN zs 65536 0 = q1 at B1 H1 E
  obtain ⟨cnt, at0, e1⟩ := q1
  dsimp only at B1 E
  simp only [out3] at H1
  obtain ⟨Rl, Re⟩ := R
  have K1 := hide H1
  have HRw := hide hr
  have HN := hide hn
  have HL := hide hr.len
  clear H1 hr
  by_cases h1 : e1 = 0
  · subst h1
    obtain ⟨hc0, hc1⟩ := B1
    obtain ⟨hc2, -, hc3, hc4⟩ := hc1 rfl
    obtain ⟨N, rfl⟩ := Int.eq_ofNat_of_zero_le hc0
    obtain ⟨A0, rfl⟩ := Int.eq_ofNat_of_zero_le (show 0 ≤ at0 by omega)
    rw [HL.out] at hc4
    have HS : Hid (Dc zs (Rl, Re) N 0 0 A0 []) := hide ⟨by rw [E.out, if_neg (by simp), Int.toNat_natCast]; rfl, rfl⟩
    obtain ⟨i0, hi, hz0, hz1, hz2⟩ := info_parts Try.infoT
    obtain ⟨M, hM⟩ : ∃ M : Nat, M = min N ((n - A0) / 2) := ⟨_, rfl⟩
    have hmn : min (N : Int) (((n : Int) - (A0 : Int)) / 2) = (M : Int) := by omega
    have hMl : M ≤ 65536 := by omega
    obtain ⟨w3, hmk, own3, gr3⟩ := run_make_own (P := Try.prog) w w.heap.size 22 43 i0 _ 2 Try.underlying22 hi hz0 hz1 .i64 .i64 M (by rw [hz2]; omega) (by unfold maxLen; omega) (Nat.le_refl _)
    have HO3 : Hid (Own layT 43 w3 w.heap.size (.slice (some ⟨w.heap.size, 0, none⟩) 0 M) []) := hide own3
    have HB3 := hide ((Below.refl w.heap.size w).grown gr3 (Nat.le_refl _) (fun k h => by cases h))
    clear own3 gr3 hM hMl E hc1 hc0
    go_enter Try.func9, Try.ntmps9
    go_wp2_with fail
    refine K1.out.mono ?_
    rintro e w1 ⟨rfl, hw⟩
    rw [hw]
    clear hw w1 K1
    go_wp2_with fail
    have hN1 : (N : Int) ≤ 65536 := hc2
    clear hmk hmn hc2 hc3 hc4
    go_loopw [5, 7, 8, 30] (fun p o l i wr => ∃ (k : Nat) (m : Int) (A : Nat) (acc : List Tk), k ≤ N ∧ i = .int .i64 k ∧ l = .int .i64 m ∧ p = .int .i64 A ∧ 0 ≤ m ∧ m ≤ 65536 ∧ Hid (Own layT 43 wr w.heap.size o acc) ∧ Hid (Dc zs (Rl, Re) N k m A acc) ∧ Hid (Below w.heap.size w wr)) (fun _ _ _ i _ => N - (intOf i).toNat)
    case atStart => exact ⟨0, 0, A0, [], Nat.zero_le _, rfl, rfl, rfl, by omega, by omega, HO3, HS, HB3⟩
    case round =>
      obtain ⟨k, m, A, acc, hk, rfl, rfl, rfl, hm0, hm1, HO, HD, HBr⟩ := hrel
      by_cases hlt : k < N
      · have hltI : (k : Int) < N := by omega
        have HRt := rt_any a n c m A zs wr (HRw.out.below HBr.out) HN.out hm0 hm1
        have hbd := rdT_bd zs m A HRw.out.u8
        have hst := @Dc.step zs (Rl, Re) N k m A
        generalize hrd : rdT zs m A = r at HRt hbd
        obtain ⟨⟨xg, xt⟩, p, e2⟩ := r
        have HSt := hide (HD.out.step hlt hrd)
        dsimp only at hbd
        unfold tkV at HRt
        dsimp only at HRt
        have K2 := hide HRt
        have HAl : Hid ((acc.length : Int) ≤ 65536) := hide (by have := HD.out.l; omega)
        clear hst hrd HRt
        by_cases h2 : e2 = 0
        · subst h2
          obtain ⟨b1, b2, b3, b4, b5, b6⟩ := hbd rfl
          have HD1 := hide (HSt.out.2 rfl)
          obtain ⟨A2, rfl⟩ := Int.eq_ofNat_of_zero_le (show 0 ≤ p by omega)
          have hwg : wrap64 (xg + 1) = xg + 1 := by unfold wrap64; omega
          clear hbd b5 b6 HSt
          go_wp2_with fail
          refine K2.out.mono ?_
          rintro e W1 ⟨rfl, hb⟩
          obtain ⟨W2, hW2⟩ : ∃ W2, W2 = W1.alloc (.cells #[.int .i64 xg, .int .i64 xt] 43) := ⟨_, rfl⟩
          have b12 : Below W1.heap.size W1 W2 := by rw [hW2]; exact below_alloc1 _ _
          have hp2 : W2.heap[W1.heap.size]? = some (.cells #[.int .i64 xg, .int .i64 xt] 43 (0, 0)) := by rw [hW2]; exact heap_new _ _
          have k0 : W2.cell? ⟨W1.heap.size, 0, none⟩ = some (.int .i64 xg) := cell_at hp2 rfl
          have k1 : W2.cell? ⟨W1.heap.size, 1, none⟩ = some (.int .i64 xt) := cell_at hp2 rfl
          have HO2 := hide ((HO.out.below hb).below b12)
          have HB2 := hide (Below.on (Below.on HBr.out hb) b12)
          have HP2 := hide hp2
          have HNb : Hid (∀ q, _ = some q → ¬ q = W1.heap.size) := hide (fun q hq e => by
            have h9 := (HO.out.lt q hq).2
            have h8 := hb.size
            omega)
          clear hb b12 hp2 K2
          go_upto_region 11 with fail
          rw [← hW2]
          clear hW2
          go_wp2_with (at_builtin; refine append_lay layT _ 22 43 i0 _ 16 Try.underlying22 hi hz0 hz1 hz2 rfl rfl (.tmp 43) (.tmp 45) rfl w.heap.size _ acc rfl (HO2.out.below (below_alloc1 _ _)) (some ⟨W2.heap.size, 0, none⟩) 1 1 [⟨xg, xt⟩] rfl (TRow.one (y := layT) (x := ⟨xg, xt⟩) (e := 43) (heap_new _ _)) (by intro e; cases e) ?b1 ?b2 ?b3 ?_)
          case b1 => unfold maxLen; have := HAl.out; omega
          case b2 => have := HAl.out; omega
          case b3 => have := HB2.out.size; simp; omega
          intro v4 W4 o4 g4 l4
          have HO4 := hide o4
          have HB4 := hide ((HB2.out.alloc HB2.out.size (.cells #[.int .i64 xg, .int .i64 xt] 43)).grown g4 (by have := HB2.out.size; simp; omega) (fun q hq => (HO2.out.lt q hq).1))
          have hp4 : W4.heap[W1.heap.size]? = some (.cells #[.int .i64 xg, .int .i64 xt] 43 (0, 0)) := ((But.of_grown g4 (fun k e => e) : But (fun q => _ = some q) _ W4).block _ (by have := get_lt' HP2.out; simp; omega) (fun e => HNb.out _ e rfl)).trans (heap_old HP2.out)
          have q0 : W4.cell? ⟨W1.heap.size, 0, none⟩ = some (.int .i64 xg) := cell_at hp4 rfl
          clear o4 g4 l4 hp4 k0 k1
          go_wp2
          exact ⟨⟨k + 1, xg + 1, A2, _, by omega, by go_num, rfl, rfl, by omega, by omega, HO4, HD1, HB4⟩, by simp [intOf]; omega⟩
        · have E2 := HSt.out.1 h2
          injection E2 with e3 e4
          subst e3
          subst e4
          have d2 : (Re != 0) = true := by simp [h2]
          clear hbd HSt
          go_wp2_with fail
          refine K2.out.mono ?_
          rintro e W1 ⟨rfl, hb⟩
          have HB1 := hide (Below.on HBr.out hb)
          have HB2 : Hid (Below w.heap.size w (W1.alloc (.cells #[.int .i64 xg, .int .i64 xt] 43))) := hide (HB1.out.alloc HB1.out.size _)
          clear hb K2
          go_wp2
          go_ret2
          exact ⟨_, rfl, Own.nil _ _ _ _, HB2.out⟩
      · have hkN : k = N := by omega
        subst hkN
        have hR := HD.out.done
        rw [HL.out] at hR
        have hd : decide ((k : Int) < (k : Int)) = false := by simp
        by_cases h3 : (A : Int) < n
        · rw [if_pos h3] at hR
          injection hR with e3 e4
          subst e3
          subst e4
          have d3 : decide ((A : Int) < n) = true := decide_eq_true h3
          go_wp2
          go_ret2
          exact ⟨_, rfl, Own.nil _ _ _ _, HBr.out⟩
        · rw [if_neg h3] at hR
          injection hR with e3 e4
          subst e3
          subst e4
          have d3 : decide ((A : Int) < n) = false := decide_eq_false h3
          go_wp2
          go_ret2
          exact ⟨_, rfl, HO.out, HBr.out⟩
  · have E2 : Hid (Rl = [] ∧ Re = e1) := hide (by have h9 := E.out; rw [if_pos h1] at h9; injection h9 with h9 h8; exact ⟨h9, h8⟩)
    obtain ⟨rfl, rfl⟩ := E2.out
    have d1 : (Re != 0) = true := by simp [h1]
    clear E E2
    go_enter Try.func9, Try.ntmps9
    go_wp2_with fail
    refine K1.out.mono ?_
    rintro e w1 ⟨rfl, hw⟩
    rw [hw]
    clear hw w1 K1
    go_wp2
    go_ret2
    exact ⟨_, rfl, Own.nil _ _ _ _, Below.refl _ _⟩
end Go.Proofs.Ytajkenbcndmjpab
