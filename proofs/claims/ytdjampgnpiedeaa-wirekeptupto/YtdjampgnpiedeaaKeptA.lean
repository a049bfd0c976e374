/-
  WireKept: the walk.
-/
import Derived.Test.YtdjampgnpiedeaaKeptC
import Derived.Test.YtdjampgnpiedeaaCurV
import Derived.Deep.RegionHeld3
namespace Go.Proofs.Ytdjampgnpiedeaa
open Go.RowKit

/-- The numbers of cuts lie at a. -/
structure Cuts (w : World) (a : Option Addr) (n : Nat) (C : Nat → Int) : Prop where
  cells : n = 0 ∨ ∃ b off, a = some ⟨b, off, none⟩ ∧ ∀ i, i < n → w.cell? ⟨b, off + i, none⟩ = some (.int .i64 (C i))
theorem Cuts.below {w w' : World} {a : Option Addr} {n : Nat} {C : Nat → Int} (h : Cuts w a n C) (hb : Below w.heap.size w w') : Cuts w' a n C := by
  refine ⟨?_⟩
  rcases h.cells with h0 | ⟨b, off, ha, hc⟩
  · exact .inl h0
  · refine .inr ⟨b, off, ha, fun i hi => ?_⟩
    have h1 := hc i hi
    exact (hb.cell (p := ⟨b, off + i, none⟩) (World.block_lt_of_cell? w _ h1)).trans h1

theorem cur_mono {w : World} {base base' g : Nat} {a : Option Addr} {n c : Nat} {zs : List Int} {p : Nat} {f : Int} (h : Cur w base g a n c zs p f) (hb : base' ≤ base) : Cur w base' g a n c zs p f :=
  ⟨h.blk, own_mono h.own hb, h.u8, h.le, h.reach⟩
/-- The beginning of a list that a call owns, as a row. -/
theorem row_prefix {w : World} {base R nn cR k : Nat} {M : List Int} (h : w.ownsRow base 5 1 (.slice (some ⟨R, 0, none⟩) nn cR) nn (M.map (Value.int .u8))) (hk : k ≤ nn) (hu : ∀ i : Nat, 0 ≤ (M.take k)[i]?.getD 0 ∧ (M.take k)[i]?.getD 0 ≤ 255) : Row w (some ⟨R, 0, none⟩) k (M.take k) := by
  have hl : M.length = nn := by have := h.1; simpa using this
  refine ⟨by rw [List.length_take]; omega, hu, .inr ⟨R, 0, rfl, fun i hi => ?_⟩⟩
  rw [Nat.zero_add, h.cellAt i (by omega)]
  simp [hi, show i < M.length by omega]

theorem own_cap {w : World} {base R nn cR : Nat} {xs : List Value} (h : w.ownsRow base 5 1 (.slice (some ⟨R, 0, none⟩) nn cR) nn xs) : nn ≤ cR ∧ cR ≤ 9223372036854775807 := by
  rcases h.2 with ⟨hv, _⟩ | ⟨g, cp, cur, hv, _, _, hc, hm, _⟩
  · cases hv
  · cases hv; unfold maxLen at hm; exact ⟨hc, by omega⟩

theorem uv_new (x : Int) (w : World) (h1 : 0 ≤ x) (h2 : x ≤ 18446744073709551615) :
    Calls Try.prog 24 #[.int .u64 x] w fun e w' => ∃ s c, e = .returned (.slice (some ⟨s, 0, none⟩) (enc x.toNat).length c) ∧ w'.ownsRow w.heap.size 5 1 (.slice (some ⟨s, 0, none⟩) (enc x.toNat).length c) (enc x.toNat).length ((enc x.toNat).map (Value.int .u8)) ∧ Below w.heap.size w w' :=
  (uv_any x w h1 h2).mono fun _ _ ⟨c, he, ho, hb⟩ => ⟨_, c, he, ho, hb⟩
theorem vr_new (n : Int) (w : World) (h1 : -9223372036854775808 ≤ n) (h2 : n ≤ 9223372036854775807) :
    Calls Try.prog 27 #[.int .i64 n] w fun e w' => ∃ s c, e = .returned (.slice (some ⟨s, 0, none⟩) (enc (zig n).toNat).length c) ∧ w'.ownsRow w.heap.size 5 1 (.slice (some ⟨s, 0, none⟩) (enc (zig n).toNat).length c) (enc (zig n).toNat).length ((enc (zig n).toNat).map (Value.int .u8)) ∧ Below w.heap.size w w' :=
  (vr_any n w h1 h2).mono fun _ _ ⟨c, he, ho, hb⟩ => ⟨_, c, he, ho, hb⟩
theorem tdiv3 (n : Int) (h1 : -9223372036854775808 ≤ n) (h2 : n ≤ 9223372036854775807) : -9223372036854775808 ≤ n.tdiv 3 ∧ n.tdiv 3 ≤ 9223372036854775807 := by
  by_cases h : 0 ≤ n
  · rw [Int.tdiv_eq_ediv_of_nonneg h]; omega
  · have e : n.tdiv 3 = -((-n).tdiv 3) := by rw [Int.neg_tdiv]; simp
    rw [e, Int.tdiv_eq_ediv_of_nonneg (by omega)]; omega

set_option maxHeartbeats 8000000 in
set_option maxRecDepth 100000 in
theorem kept_walk (x n : Int) (ba : Option Addr) (bn bc : Nat) (Z : List Int) (ca : Option Addr) (cn cc : Nat) (C : Nat → Int) (w : World)
    (x1 : 0 ≤ x) (x2 : x ≤ 18446744073709551615) (n1 : -9223372036854775808 ≤ n) (n2 : n ≤ 9223372036854775807)
    (hr : Row w ba bn Z) (hbn : bn ≤ 1048576) (hr0 : ba = none → bn = 0 ∧ bc = 0) (hbc : bn ≤ bc) (hcuts : Cuts w ca cn C) (hcn : cn ≤ 1048576) :
    Calls Try.prog 7 #[.int .u64 x, .int .i64 n, .slice ba bn bc, .slice ca cn cc] w fun e w' => e = .returned (.bool true) ∧ Below w.heap.size w w' := by
  have HR := hide hr
  have H0 := hide hr0
  have HCU := hide hcuts
  have hZl := hr.len
  clear hr hr0 hcuts
  go_enter Try.func7, Try.ntmps7
  go_wp2_with fail
  refine (copied_any ba bn bc Z w HR.out (by omega) H0.out).mono ?_
  rintro e w1 ⟨a0, c0, rfl, _, hown0, hb1⟩
  have HO0 := hide hown0
  have HB1 := hide hb1
  clear hown0 hb1
  go_wp2_with (at_builtin; refine append_keep _ rfl (.tmp 34) (.tmp 35) rfl w.heap.size _ _ _ rfl (HO0.out.alloc _) ⟨w1.heap.size, 0, none⟩ 3 3 [.int .u8 201, .int .u8 202, .int .u8 203] rfl rfl (by intro t u ht; match t, ht with | 0, ht => simp at ht; subst ht; simp [Addr.add] | 1, ht => simp at ht; subst ht; simp [Addr.add] | 2, ht => simp at ht; subst ht; simp [Addr.add]) (by intro u hu; simp at hu; rcases hu with rfl | rfl | rfl <;> rfl) (by omega) (by omega) (by simp; have := HB1.out.size; omega) ?_; intro R cR w2 hnR hkR hgR hlR; obtain ⟨hcR, hcRm⟩ := own_cap hnR)
  have bw2 : Below w.heap.size w w2 := (HB1.out.alloc HB1.out.size _).grown hgR (by simp; have := HB1.out.size; omega) (fun q hq => (HO0.out.lt q hq).1)
  have HB2 := hide bw2
  have hnR' : w2.ownsRow w.heap.size 5 1 (.slice (some ⟨R, 0, none⟩) (bn + 3) cR) (bn + 3) ((Z ++ [201, 202, 203]).map (Value.int .u8)) := by rw [List.map_append]; exact hnR
  have HRm := hide hnR'
  have hRlt := (hnR.lt R rfl).2
  clear hnR hkR hgR hlR bw2 hnR' HO0 HB1
  have hT : (Z ++ [201, 202, 203]).take bn = Z := by rw [← hZl]; simp
  have rZ : Row w2 (some ⟨R, 0, none⟩) bn Z := by
    have h := row_prefix (k := bn) HRm.out (by omega) (by rw [hT]; exact HR.out.u8)
    rw [hT] at h; exact h
  have RZ := hide rZ
  clear rZ hT
  refine (new_any (some ⟨R, 0, none⟩) bn cR Z w2 RZ.out (by omega) (fun h => by cases h)).mono ?_
  rintro e w3 ⟨g, ga, gc, rfl, hcur, hg, hb3⟩
  have RZ3 := hide (RZ.out.below hb3)
  have hg2 := hg
  have HC3 := hide hcur
  have HRm3 := hide (HRm.out.kept (grown_of' (r := none) hb3) (by simp [Value.ownBlock]))
  have HB3 := hide (Below.on HB2.out hb3)
  have hs23 := hb3.size
  clear hcur hb3 RZ HRm hg
  go_wp2_with fail
  refine (new_any (some ⟨R, 0, none⟩) bn cR Z w3 RZ3.out (by omega) (fun h => by cases h)).mono ?_
  rintro e w4 ⟨d, da, dc, rfl, hcurd, hd, hb4⟩
  have RZ4 := hide (RZ3.out.below hb4)
  have HC4 := hide (HC3.out.below hb4)
  have HD4 := hide (cur_mono hcurd hs23)
  have HRm4 := hide (HRm3.out.kept (grown_of' (r := none) hb4) (by simp [Value.ownBlock]))
  have HB4 := hide (Below.on HB3.out hb4)
  have hd2 : w2.heap.size ≤ d := by omega
  have hgd : g ≠ d := by have := HC3.out.lt; omega
  have HAP : Hid ((Value.slice ga bn gc).ownBlock = none ∨ (Value.slice ga bn gc).ownBlock ≠ (Value.slice da bn dc).ownBlock) := by
    cases h : (Value.slice ga bn gc).ownBlock with
    | none => exact .inl rfl
    | some q =>
      right
      intro e
      have h1 := (HC3.out.own.lt q h).2
      have h2 := (hcurd.own.lt q e.symm).1
      omega
  clear hcurd hb4 RZ3 HC3 HRm3 HB3 hd
  have U1 := hide (ru_any (some ⟨R, 0, none⟩) bn cR ((bn : Int) / 2) Z w4 RZ4.out (by omega))
  have U2 := hide (rv_any (some ⟨R, 0, none⟩) bn cR ((bn : Int) / 2) Z w4 RZ4.out (by omega))
  go_wp2_with fail
  refine U1.out.mono ?_
  rintro e w5 ⟨rfl, hw5⟩
  subst hw5
  go_wp2_with fail
  refine U2.out.mono ?_
  rintro e w6 ⟨rfl, hw6⟩
  subst hw6
  clear U1 U2
  have S1 := hide (same_any (some ⟨R, 0, none⟩) ba bn cR bn bc Z Z w6 RZ4.out (HR.out.below HB4.out) (by omega))
  go_wp2_with fail
  refine S1.out.mono ?_
  rintro e w7 ⟨rfl, m7, hw7⟩
  simp only [decide_true]
  have hd7 : Below w6.heap.size w6 w7 := by rw [hw7]; exact below_drewN (Below.refl _ _) m7
  have HC7 := hide (HC4.out.below hd7)
  have HD7 := hide (HD4.out.below hd7)
  have HRm7 := hide (HRm4.out.kept (grown_of' (r := none) hd7) (by simp [Value.ownBlock]))
  have HB7 := hide (Below.on HB4.out hd7)
  have k0 : w7.cell? ⟨R, bn, none⟩ = some (.int .u8 201) := by rw [HRm7.out.cellAt bn (by omega)]; simp [← hZl]
  have k1 : w7.cell? ⟨R, bn + 1, none⟩ = some (.int .u8 202) := by rw [HRm7.out.cellAt (bn + 1) (by omega)]; simp [← hZl]
  have k2 : w7.cell? ⟨R, bn + 2, none⟩ = some (.int .u8 203) := by rw [HRm7.out.cellAt (bn + 2) (by omega)]; simp [← hZl]
  clear S1 hw7 hd7 HC4 HD4 HRm4 HB4 RZ4
  go_wp2_with fail
  clear k0 k1 k2
  go_loopw [12] (fun si wr => ∃ (k : Nat) (M : List Int), k ≤ bn + 3 ∧ si = .int .i64 k ∧ M.length = bn + 3 ∧ wr.ownsRow w.heap.size 5 1 (.slice (some ⟨R, 0, none⟩) (bn + 3) cR) (bn + 3) (M.map (Value.int .u8)) ∧ (∀ q, q < k → M[q]? = some ((90 + (q : Int)) % 256)) ∧ Cur wr w2.heap.size g ga bn gc Z 0 0 ∧ Cur wr w2.heap.size d da bn dc Z 0 0 ∧ Below w.heap.size w wr)
    (fun si _ => bn + 3 - (intOf si).toNat)
  case atStart => exact ⟨0, _, Nat.zero_le _, rfl, by simp [hZl], HRm7.out, fun q hq => by omega, HC7.out, HD7.out, HB7.out⟩
  case round =>
    obtain ⟨k, M, hk, rfl, hM, hownM, hmk, hc8, hd8, hb8⟩ := hrel
    have HM8 := hide hownM
    have HK8 := hide hmk
    have HC8 := hide hc8
    have HD8 := hide hd8
    have HB8 := hide hb8
    clear hownM hmk hc8 hd8 hb8 HRm7 HC7 HD7 HB7
    by_cases hlt : k < bn + 3
    · have hfr := HM8.out.frozenAt k
      have hcl : wr.cell? ⟨R, k, none⟩ = some (.int .u8 (M.getD k 0)) := by
        rw [HM8.out.cellAt k (by omega)]; simp [hM, hlt]
      go_wp2
      have hs := HM8.out.stored k (Value.int .u8 ((90 + (k : Int)) % 256))
      rw [← List.map_set] at hs
      have hRb := (HM8.out.lt R rfl).1
      refine ⟨⟨k + 1, _, by omega, by go_num, by simpa using hM, hs.1, ?_, ?_, ?_, HB8.out.setCell hRb _⟩, by simp [intOf]; omega⟩
      · intro q hq
        rw [List.getElem?_set]
        by_cases e : k = q
        · subst e; rw [if_pos rfl, if_pos (by omega)]
        · rw [if_neg e]; exact HK8.out q (by omega)
      · refine HC8.out.kept hs.2 (by intro e; cases e; omega) (.inr ?_)
        intro e
        have := (HC8.out.own.lt R e).1
        omega
      · refine HD8.out.kept hs.2 (by intro e; cases e; omega) (.inr ?_)
        intro e
        have := (HD8.out.own.lt R e).1
        omega
    · have hu : ∀ i : Nat, 0 ≤ (M.take bn)[i]?.getD 0 ∧ (M.take bn)[i]?.getD 0 ≤ 255 := by
        intro i
        by_cases hi : i < bn
        · rw [List.getElem?_take, if_pos hi, HK8.out i (by omega)]
          simp only [Option.getD_some]
          omega
        · rw [List.getElem?_take, if_neg hi]; simp
      have RK := hide (row_prefix (k := bn) HM8.out (by omega) hu)
      have HKu := hide hu
      clear hu HK8
      generalize M.take bn = KK at RK HKu
      go_wp2_with fail
      refine (copied_any (some ⟨R, 0, none⟩) bn cR KK wr RK.out (by omega) (fun h => by cases h)).mono ?_
      rintro e w9 ⟨oa, oc, rfl, _, hoo, hb9⟩
      have RK9 := RK.out.below hb9
      have RO9 : Row w9 oa bn KK := by
        obtain ⟨a', c', hv, _, hr⟩ := Row.of_own hoo HKu.out
        cases hv; exact hr
      have u1 := ru_any (some ⟨R, 0, none⟩) bn cR ((bn : Int) / 2) KK w9 RK9 (by omega)
      have u2 := ru_any oa bn oc ((bn : Int) / 2) KK w9 RO9 (by omega)
      have u3 := rv_any (some ⟨R, 0, none⟩) bn cR ((bn : Int) / 2) KK w9 RK9 (by omega)
      have u4 := rv_any oa bn oc ((bn : Int) / 2) KK w9 RO9 (by omega)
      generalize rdAt KK ((bn : Int) / 2) = q1 at u1 u2
      generalize rvAt KK ((bn : Int) / 2) = q2 at u3 u4
      obtain ⟨y1, p1, e1⟩ := q1
      obtain ⟨y2, p2, e2⟩ := q2
      simp only [out3] at u1 u2 u3 u4
      have U1 := hide u1
      have U2 := hide u2
      have U3 := hide u3
      have U4 := hide u4
      have HC9 := hide (HC8.out.below hb9)
      have HD9 := hide (HD8.out.below hb9)
      have HB9 := hide (Below.on HB8.out hb9)
      clear u1 u2 u3 u4 RK9 RO9 hoo hb9 RK HC8 HD8 HB8 HM8 HKu
      go_wp2_with fail
      refine U1.out.mono ?_
      rintro e w10 ⟨rfl, hw⟩
      subst hw
      go_wp2_with fail
      refine U2.out.mono ?_
      rintro e w11 ⟨rfl, hw⟩
      subst hw
      go_wp2_with fail
      refine U3.out.mono ?_
      rintro e w12 ⟨rfl, hw⟩
      subst hw
      go_wp2_with fail
      refine U4.out.mono ?_
      rintro e w13 ⟨rfl, hw⟩
      subst hw
      clear U1 U2 U3 U4
      have hlo : w.heap.size ≤ w13.heap.size := HB9.out.size
      have hx3 : 0 ≤ x / 3 ∧ x / 3 ≤ 18446744073709551615 := by omega
      have hn3 := tdiv3 n n1 n2
      have L0 := Lists.two (own_mono HC9.out.own HB2.out.size) (own_mono HD9.out.own HB2.out.size) HAP.out
      go_wp2_with fail
      refine (uv_new x w13 x1 x2).mono ?_
      rintro e v14 ⟨s0, c0', rfl, ho0, hb0⟩
      have L1 := hide (L0.push (grown_of' (r := none) hb0) (fun i _ => by cases Value.ownBlock _ <;> simp) ho0 hlo hlo)
      have B1 := hide hb0
      clear L0 ho0 hb0
      go_wp2_with fail
      refine (uv_new (x / 3) v14 hx3.1 hx3.2).mono ?_
      rintro e v15 ⟨s1, c1', rfl, ho1, hb1⟩
      have L2 := hide (L1.out.push (grown_of' (r := none) hb1) (fun i _ => by cases Value.ownBlock _ <;> simp) ho1 (Nat.le_trans hlo B1.out.size) (Nat.le_trans hlo B1.out.size))
      have B2 := hide (Below.on B1.out hb1)
      clear L1 ho1 hb1 B1
      go_wp2_with fail
      refine (vr_new n v15 n1 n2).mono ?_
      rintro e v16 ⟨s2, c2', rfl, ho2, hb2⟩
      have L3 := hide (L2.out.push (grown_of' (r := none) hb2) (fun i _ => by cases Value.ownBlock _ <;> simp) ho2 (Nat.le_trans hlo B2.out.size) (Nat.le_trans hlo B2.out.size))
      have B3 := hide (Below.on B2.out hb2)
      clear L2 ho2 hb2 B2
      go_wp2_with fail
      refine (vr_new (n.tdiv 3) v16 hn3.1 hn3.2).mono ?_
      rintro e v17 ⟨s3, c3', rfl, ho3, hb3⟩
      have L4 := hide (L3.out.push (grown_of' (r := none) hb3) (fun i _ => by cases Value.ownBlock _ <;> simp) ho3 (Nat.le_trans hlo B3.out.size) (Nat.le_trans hlo B3.out.size))
      have B4 := hide (Below.on B3.out hb3)
      clear L3 ho3 hb3 B3
      go_wp2_with fail
      refine (uv_new x v17 x1 x2).mono ?_
      rintro e v18 ⟨s4, c4', rfl, ho4, hb4⟩
      have L5 := hide (L4.out.push (grown_of' (r := none) hb4) (fun i _ => by cases Value.ownBlock _ <;> simp) ho4 (Nat.le_trans hlo B4.out.size) (Nat.le_trans hlo B4.out.size))
      have B5 := hide (Below.on B4.out hb4)
      clear L4 ho4 hb4 B4
      go_wp2_with fail
      refine (vr_new n v18 n1 n2).mono ?_
      rintro e v19 ⟨s5, c5', rfl, ho5, hb5⟩
      have L6 := hide (L5.out.push (grown_of' (r := none) hb5) (fun i _ => by cases Value.ownBlock _ <;> simp) ho5 (Nat.le_trans hlo B5.out.size) (Nat.le_trans hlo B5.out.size))
      have B6 := hide (Below.on B5.out hb5)
      clear L5 ho5 hb5 B5
      have lx := enc_le x.toNat (by omega)
      have ly := enc_le (x / 3).toNat (by omega)
      have lz := enc_le (zig n).toNat (by have := zig_bd n n1 n2; omega)
      have lt := enc_le (zig (n.tdiv 3)).toNat (by have := zig_bd _ hn3.1 hn3.2; omega)
      have px := enc_pos x.toNat
      have pz := enc_pos (zig n).toNat
      obtain ⟨V, nn, L, hL, hmap, e0, e1', e2', e4, hnn⟩ : ∃ V nn L, Lists v19 w.heap.size w.heap.size 8 V nn L ∧ (List.range 6).map (fun j => V (2 + j)) = [.slice (some ⟨s0, 0, none⟩) (enc x.toNat).length c0', .slice (some ⟨s1, 0, none⟩) (enc (x / 3).toNat).length c1', .slice (some ⟨s2, 0, none⟩) (enc (zig n).toNat).length c2', .slice (some ⟨s3, 0, none⟩) (enc (zig (n.tdiv 3)).toNat).length c3', .slice (some ⟨s4, 0, none⟩) (enc x.toNat).length c4', .slice (some ⟨s5, 0, none⟩) (enc (zig n).toNat).length c5'] ∧
          (V 0 = .slice ga bn gc ∧ nn 0 = bn ∧ L 0 = Z) ∧ (V 1 = .slice da bn dc ∧ nn 1 = bn ∧ L 1 = Z) ∧ (V 2 = .slice (some ⟨s0, 0, none⟩) (enc x.toNat).length c0' ∧ nn 2 = (enc x.toNat).length ∧ L 2 = enc x.toNat) ∧ (V 4 = .slice (some ⟨s2, 0, none⟩) (enc (zig n).toNat).length c2' ∧ nn 4 = (enc (zig n).toNat).length ∧ L 4 = enc (zig n).toNat) ∧ (∀ i, nn i ≤ 1048576) := by
        refine ⟨_, _, _, L6.out, by rfl, ⟨by rfl, by rfl, by rfl⟩, ⟨by rfl, by rfl, by rfl⟩, ⟨by rfl, by rfl, by rfl⟩, ⟨by rfl, by rfl, by rfl⟩, fun i => ?_⟩
        repeat' split
        all_goals omega
      have HL6 := hide hL
      have HMP := hide hmap
      clear L6 hL hmap
      have HC19 := hide (HC9.out.below B6.out)
      have HD19 := hide (HD9.out.below B6.out)
      have HB19 := hide (Below.on HB9.out B6.out)
      generalize hEX : enc x.toNat = EX at *
      generalize hEZ : enc (zig n).toNat = EZ at *
      generalize hEY : (enc (x / 3).toNat).length = ly' at *
      generalize hET : (enc (zig (n.tdiv 3)).toNat).length = lt' at *
      have HEX := hide hEX
      have HEZ := hide hEZ
      clear hEX hEZ hEY hET HC9 HD9 HB9
      have ux : ∀ i : Nat, 0 ≤ EX[i]?.getD 0 ∧ EX[i]?.getD 0 ≤ 255 := by
        intro i
        by_cases hi : i < EX.length
        · have := enc_u8 x.toNat i (by rw [HEX.out]; exact hi)
          rw [HEX.out] at this; exact this
        · rw [List.getElem?_eq_none (by omega)]; simp
      have uz : ∀ i : Nat, 0 ≤ EZ[i]?.getD 0 ∧ EZ[i]?.getD 0 ≤ 255 := by
        intro i
        by_cases hi : i < EZ.length
        · have := enc_u8 (zig n).toNat i (by rw [HEZ.out]; exact hi)
          rw [HEZ.out] at this; exact this
        · rw [List.getElem?_eq_none (by omega)]; simp
      have r0 : Row v19 (some ⟨s0, 0, none⟩) EX.length EX := by
        have ho := HL6.out.own 2 (by omega)
        rw [e2'.1, e2'.2.1, e2'.2.2] at ho
        obtain ⟨a', c', hv, _, hr⟩ := Row.of_own ho ux
        cases hv; exact hr
      have r2 : Row v19 (some ⟨s2, 0, none⟩) EZ.length EZ := by
        have ho := HL6.out.own 4 (by omega)
        rw [e4.1, e4.2.1, e4.2.2] at ho
        obtain ⟨a', c', hv, _, hr⟩ := Row.of_own ho uz
        cases hv; exact hr
      have R0 := hide r0
      have R2 := hide r2
      have UX := hide ux
      have UZ := hide uz
      clear r0 r2 ux uz
      have AL := hide ((Below.refl v19.heap.size v19).alloc (Nat.le_refl _) (.cells #[.slice (some ⟨s0, 0, none⟩) EX.length c0', .slice (some ⟨s1, 0, none⟩) ly' c1', .slice (some ⟨s2, 0, none⟩) EZ.length c2', .slice (some ⟨s3, 0, none⟩) lt' c3', .slice (some ⟨s4, 0, none⟩) EX.length c4', .slice (some ⟨s5, 0, none⟩) EZ.length c5'] 28))
      have KSS := hide (fun (u1 u2 : World) (v2 v3 : Value) hb1 ho1 hb2 ho2 => KS.start (u1 := u1) (u2 := u2) (v2 := v2) (v3 := v3) (n2 := EX.length) (n3 := EZ.length) (l2 := EX) (l3 := EZ) HL6.out (cs := #[.slice (some ⟨s0, 0, none⟩) EX.length c0', .slice (some ⟨s1, 0, none⟩) ly' c1', .slice (some ⟨s2, 0, none⟩) EZ.length c2', .slice (some ⟨s3, 0, none⟩) lt' c3', .slice (some ⟨s4, 0, none⟩) EX.length c4', .slice (some ⟨s5, 0, none⟩) EZ.length c5']) HMP.out hb1 ho1 hb2 ho2 e0 e1' HC19.out HD19.out hnn (by omega) (by omega) HB19.out.size)
      have hcell2 : (v19.alloc (.cells #[.slice (some ⟨s0, 0, none⟩) EX.length c0', .slice (some ⟨s1, 0, none⟩) ly' c1', .slice (some ⟨s2, 0, none⟩) EZ.length c2', .slice (some ⟨s3, 0, none⟩) lt' c3', .slice (some ⟨s4, 0, none⟩) EX.length c4', .slice (some ⟨s5, 0, none⟩) EZ.length c5'] 28)).cell? ⟨v19.heap.size, 2, none⟩ = some (.slice (some ⟨s2, 0, none⟩) EZ.length c2') := by
        rw [cell_of_row _ _ 2 _ 28 (0, 0) (heap_alloc_new v19 _)]; rfl
      have HC2 := hide hcell2
      clear hcell2
      go_wp2_with fail
      refine (copied_any (some ⟨s0, 0, none⟩) EX.length c0' EX _ (R0.out.below AL.out) (by omega) (fun h => by cases h)).mono ?_
      rintro e u1 ⟨a1, c1, rfl, _, ho1, hb1⟩
      have HA1 := hide (Below.on AL.out hb1)
      have hcell2 : u1.cell? ⟨v19.heap.size, 2, none⟩ = some (.slice (some ⟨s2, 0, none⟩) EZ.length c2') := (hb1.cell (p := ⟨v19.heap.size, 2, none⟩) (by simp)).trans HC2.out
      have KS1 := hide (fun (u2 : World) (v3 : Value) hb2 ho2 => KSS.out u1 u2 (.slice a1 EX.length c1) v3 hb1 ho1 hb2 ho2)
      clear KSS ho1 hb1 HC2
      go_wp2_with fail
      refine (copied_any (some ⟨s2, 0, none⟩) EZ.length c2' EZ _ (R2.out.below HA1.out) (by omega) (fun h => by cases h)).mono ?_
      rintro e u2 ⟨a2, c2, rfl, _, ho2, hb2⟩
      have KS2 := KS1.out u2 (.slice a2 EZ.length c2) hb2 ho2
      have HBU := hide (Below.on HB19.out (Below.on HA1.out hb2))
      clear KS1 ho2 hb2 hcell2 HA1 AL R0 R2 HL6 HMP e0 e1' e2' e4 hnn HC19 HD19 HB19 V nn L
      obtain ⟨V, nn, L, hks⟩ := KS2
      have HKS := hide hks
      clear hks
      go_wp2_with fail
      clear hx3 hn3 hlo
      go_loopw [26, 29, 30] (fun sa sg si wr => ∃ (k m A cap P : Nat) (vg : Value) (V : Nat → Value) (nn : Nat → Nat) (L : Nat → List Int), k ≤ cn ∧ si = .int .i64 k ∧ sa = .slice (some ⟨A, 0, none⟩) m cap ∧ sg = vg ∧ m ≤ 6 + 2 * k ∧ P ≤ bn ∧ KS wr w.heap.size g d bn ga da gc dc Z (.slice a1 EX.length c1) (.slice a2 EZ.length c2) EX.length EZ.length EX EZ (5 + m) m A cap P P P vg V nn L ∧ Below w.heap.size w wr)
        (fun _ _ si _ => cn - (intOf si).toNat)
      case atStart => exact ⟨0, 6, _, 6, 0, _, V, nn, L, Nat.zero_le _, rfl, rfl, rfl, by omega, by omega, HKS.out, HBU.out⟩
      case round =>
        obtain ⟨i, m, A, cap, P, vg, V, nn, L, hi, rfl, rfl, rfl, hm, hP, hks, hb⟩ := hrel
        have HK := hide hks
        have HB := hide hb
        clear hks hb HKS HBU
        by_cases hlt : i < cn
        · obtain ⟨cb, co, hca, hcs⟩ := ((HCU.out.below HB.out).cells).resolve_left (by omega)
          have hcell := hcs i hlt
          clear hcs
          subst hca
          have hcw : w.cell? ⟨cb, co + i, none⟩ = some (.int .i64 (C i)) := by
            rcases HCU.out.cells with h0 | ⟨b', o', he, hc⟩
            · omega
            · cases he; exact hc i hlt
          have HCW := hide (And.intro (World.block_lt_of_cell? w _ hcw) hcw)
          clear hcw
          generalize C i = ci at hcell HCW
          have HL := hide (fun mm => left_any g bn gc P ga (wr.drewN mm) (HK.out.cur HR.out.u8 hP hbn).cell0 (HK.out.cur HR.out.u8 hP hbn).cell1 hP (by omega))
          by_cases hq1 : 0 ≤ ci
          · obtain ⟨q, rfl⟩ : ∃ q : Nat, ci = q := ⟨ci.toNat, by omega⟩
            have g1 : decide (0 ≤ (q : Int)) = true := by simp
            by_cases hq2 : (q : Int) ≤ (bn : Int) - P
            · have g2 : decide ((q : Int) ≤ (bn : Int) - P) = true := by simpa using hq2
              have hPq : P + q ≤ bn := by omega
              have hgl : w.heap.size ≤ g := Nat.le_trans HB2.out.size hg2
              have hdl : w.heap.size ≤ d := Nat.le_trans HB2.out.size hd2
              have HS := hide HB.out.size
              obtain ⟨va, vc, hvg, _, _⟩ := own_row HK.out.got (u8_take HR.out.u8 P)
              subst hvg
              go_wp2
              go_quiet ((go_at_call 30; exact Calls.quiet_of (HL.out _)))
              have HBq := hide (below_drewN HB.out nq)
              have HKq := hide (HK.out.below (below_drewN (Below.refl _ _) nq))
              clear HK HB HL
              go_wp2_with fail
              refine (cb_good w.heap.size g ga bn gc Z P q _ (HKq.out.cur HR.out.u8 hP hbn) hPq).mono ?_
              rintro e x1 ⟨v, rfl, hov, hcv, hgv⟩
              obtain ⟨la, lc, rfl, hrl, hnl⟩ := own_row hov (u8_sub HR.out.u8 P q)
              obtain ⟨V2, nn2, L2, hk2, hv2⟩ := HKq.out.takeC' hgd HBq.out.size hov (by omega) hcv.blk hgv
              have HB1 := hide (HBq.out.grown hgv HBq.out.size (fun k h => by cases h; exact hgl))
              have HK2 := hide hk2
              have HRL := hide hrl
              clear HKq HBq hov hcv hgv hk2 hrl
              go_wp2_with (first
                | (at_builtin
                   refine append_row_at _ rfl (.tmp 238) (.tmp 239) rfl w.heap.size (.slice va P vc) P (Z.take P) rfl HK2.out.got la q lc ((Z.drop P).take q) rfl HRL.out hnl (by omega) HB1.out.size ?_
                   intro v' y2 hv' hg' hat
                   obtain ⟨V3, nn3, L3, hk3, hs3⟩ := HK2.out.gotOn' (by omega) hv' hg' hat
                   obtain ⟨va', vc', hvg', _, _⟩ := own_row hk3.got (u8_take HR.out.u8 _)
                   subst hvg'
                   have HB2' := hide (HB1.out.grown hg' HB1.out.size (fun k h => (HK2.out.got.lt k h).1))
                   have hv3 := (hs3 (5 + m) (by omega)).trans hv2
                   have hA1 : Below y2.heap.size y2 (y2.alloc (.cells #[.slice la q lc] 28)) := (Below.refl _ _).alloc (Nat.le_refl _) _
                   have HK3 := hide (hk3.below hA1)
                   have HB3 := hide (Below.on HB2'.out hA1)
                   have HC3 : Hid ((y2.alloc (.cells #[.slice la q lc] 28)).cell? ⟨y2.heap.size, 0, none⟩ = some (V3 (5 + m))) := by
                     show _ = _
                     rw [cell_of_row _ _ 0 _ 28 (0, 0) (heap_alloc_new y2 _), hv3]; rfl
                   clear hk3 hs3 hv' hg' hat HB2' hA1)
                | (at_builtin
                   refine append_tab _ rfl (.tmp 241) (.tmp 243) rfl w.heap.size A cap m (fun j => V3 (5 + j)) (V3 (5 + m)) (by rw [hv3]; rfl) rfl HK3.out.tab y2.heap.size rfl HC3.out (by omega) HB3.out.size ?_
                   intro A' cap' y3 ht3 hg3
                   have HK4 := hide (HK3.out.tabOn (by omega) ht3 hg3)
                   have HB4 := hide (HB3.out.grown hg3 HB3.out.size (fun k h => by cases h; exact (HK3.out.tab.lt A rfl).1))
                   have hcell4 := (HB4.out.cell (p := ⟨cb, co + i, none⟩) HCW.out.1).trans HCW.out.2
                   clear ht3 hg3))
              clear HK2 HB1 HRL HK3 HB3 HC3 hv2 hv3
              refine (cb_good w.heap.size d da bn dc Z P q _ (HK4.out.curd HR.out.u8 hP hbn) hPq).mono ?_
              rintro e z1 ⟨v5, rfl, hov, hcv, hgv⟩
              obtain ⟨la5, lc5, rfl, _, _⟩ := own_row hov (u8_sub HR.out.u8 P q)
              obtain ⟨V5, nn5, L5, hk5, hv5⟩ := HK4.out.takeD' hgd HB4.out.size hov (by omega) hcv.blk hgv
              have HB5' := HB4.out.grown hgv HB4.out.size (fun k h => by cases h; exact hdl)
              have hA5 : Below z1.heap.size z1 (z1.alloc (.cells #[.slice la5 q lc5] 28)) := (Below.refl _ _).alloc (Nat.le_refl _) _
              have HK5 := hide (hk5.below hA5)
              have HB5 := hide (Below.on HB5' hA5)
              have HC5 : Hid ((z1.alloc (.cells #[.slice la5 q lc5] 28)).cell? ⟨z1.heap.size, 0, none⟩ = some (V5 (5 + (m + 1)))) := by
                show _ = _
                rw [cell_of_row _ _ 0 _ 28 (0, 0) (heap_alloc_new z1 _), show 5 + (m + 1) = 5 + m + 1 by omega, hv5]; rfl
              have hv5' : V5 (5 + (m + 1)) = .slice la5 q lc5 := by rw [show 5 + (m + 1) = 5 + m + 1 by omega]; exact hv5
              clear hk5 hA5 HB5' hov hcv hgv HK4 HB4
              go_wp2_with (at_builtin
                           refine append_tab _ rfl (.tmp 245) (.tmp 252) rfl w.heap.size A' cap' (m + 1) (fun j => V5 (5 + j)) (V5 (5 + (m + 1))) (by rw [hv5']; rfl) rfl HK5.out.tab z1.heap.size rfl HC5.out (by omega) HB5.out.size ?_
                           intro A6 cap6 z6 ht6 hg6
                           have HK6 := hide (HK5.out.tabOn (by omega) ht6 hg6)
                           have HB6 := hide (HB5.out.grown hg6 HB5.out.size (fun k h => by cases h; exact (HK5.out.tab.lt A' rfl).1))
                           clear ht6 hg6)
              exact ⟨⟨i + 1, m + 2, A6, cap6, P + q, _, V5, nn5, L5, by omega, by go_num, rfl, rfl, by omega, hPq, HK6.out, HB6.out⟩, by simp [intOf]; omega⟩
            · have g2 : decide ((q : Int) ≤ (bn : Int) - P) = false := by simpa using hq2
              go_wp2
              go_quiet ((go_at_call 30; exact Calls.quiet_of (HL.out _)))
              go_wp2
              all_goals exact ⟨⟨i + 1, m, A, cap, P, _, V, nn, L, by omega, by go_num, rfl, rfl, by omega, hP, HK.out.below (below_drewN (Below.refl _ _) _), below_drewN HB.out _⟩, by simp [intOf]; omega⟩
          · have g1 : decide (0 ≤ ci) = false := by simpa using hq1
            go_wp2
            go_quiet (fail)
            go_wp2
            all_goals exact ⟨⟨i + 1, m, A, cap, P, _, V, nn, L, by omega, by go_num, rfl, rfl, by omega, hP, HK.out.below (below_drewN (Below.refl _ _) _), below_drewN HB.out _⟩, by simp [intOf]; omega⟩
        · obtain ⟨va, vc, hvg, hr4, _⟩ := own_row HK.out.got (u8_take HR.out.u8 P)
          subst hvg
          have R4 := hide hr4
          have hx0 : EX ≠ [] := by intro e; rw [e] at px; simp at px
          have hz0 : EZ ≠ [] := by intro e; rw [e] at pz; simp at pz
          have hPb : (P : Int) ≤ bn := by omega
          have hPc : (P : Int) ≤ bc := by omega
          have hPc' : P ≤ bc := by omega
          have q1 : ((EX.length : Int) == 0) = false := by simp; exact hx0
          have q2 : ((EZ.length : Int) == 0) = false := by simp; exact hz0
          have q3 : decide ((bn : Int) < P) = false := by simp; omega
          have q4 : ¬ bn < P := by omega
          have HMk := hide HK.out.many
          have RB := hide ((HR.out.below HB.out).front hP)
          have hsm := HK.out.small
          clear hr4
          cases ba with
          | none =>
            obtain ⟨rfl, rfl⟩ := H0.out rfl
            obtain rfl : P = 0 := by omega
            obtain rfl : Z = [] := List.length_eq_zero_iff.1 hZl
            go_wp2_with fail
            refine (same_any va _ 0 vc 0 _ [] [] wr R4.out RB.out (by omega)).mono ?_
            rintro e y1' ⟨rfl, ms1, rfl⟩
            simp only [decide_true]
            have HKd := hide (HK.out.below (below_drewN (Below.refl _ _) ms1))
            have HBd := hide (below_drewN HB.out ms1)
            clear HMk R4 RB HK HB
            go_wp2_with fail
            refine (apart_walk w.heap.size A cap m (fun j => V (5 + j)) (fun j => nn (5 + j)) (fun j => L (5 + j)) _ HKd.out.many (by omega) (fun i => by have := hsm (5 + i); omega) HBd.out.size).mono ?_
            rintro e y2' ⟨rfl, haw⟩
            obtain ⟨hbA, hcA, hoA2, hoA3⟩ := HKd.out.awayB HBd.out haw HR.out.u8 hP hbn
            have HBA := hide hbA
            have HCA := hide hcA
            have HO2 := hide hoA2
            have HO3 := hide hoA3
            clear hbA hcA hoA2 hoA3 haw HKd HBd
            go_wp2_with fail
            refine (left_nat g 0 gc 0 0 ga y2' HCA.out.cell0 HCA.out.cell1 rfl (by omega)).mono ?_
            rintro e y3' ⟨rfl, ms3, rfl⟩
            have HC3 := hide (HCA.out.below (below_drewN (Below.refl _ _) ms3))
            go_wp2_with fail
            refine (cb_good w.heap.size g ga 0 gc [] 0 0 _ HC3.out (by omega)).mono ?_
            rintro e y4 ⟨v4, rfl, hov4, hcv4, hgv4⟩
            obtain ⟨a4, c4, rfl, hr4, _⟩ := own_row hov4 (fun i => by simp)
            have HR4 := hide hr4
            have hgl : w.heap.size ≤ g := Nat.le_trans HB2.out.size hg2
            have HB4 := hide ((below_drewN HBA.out ms3).grown hgv4 (below_drewN HBA.out ms3).size (fun k h => by cases h; exact hgl))
            have o2 := (HO2.out.kept (grown_of' (r := none) (below_drewN (Below.refl _ _) ms3)) (by cases Value.ownBlock _ <;> simp)).kept hgv4 (.inr (five_ne (HO2.out.kept (grown_of' (r := none) (below_drewN (Below.refl _ _) ms3)) (by cases Value.ownBlock _ <;> simp)) HC3.out.blk (by decide)))
            have o3 := (HO3.out.kept (grown_of' (r := none) (below_drewN (Below.refl _ _) ms3)) (by cases Value.ownBlock _ <;> simp)).kept hgv4 (.inr (five_ne (HO3.out.kept (grown_of' (r := none) (below_drewN (Below.refl _ _) ms3)) (by cases Value.ownBlock _ <;> simp)) HC3.out.blk (by decide)))
            have RO2 : Hid (Row y4 a1 EX.length EX) := by
              obtain ⟨a', c', hv, _, hr⟩ := Row.of_own o2 UX.out
              cases hv; exact hr
            have RO3 : Hid (Row y4 a2 EZ.length EZ) := by
              obtain ⟨a', c', hv, _, hr⟩ := Row.of_own o3 UZ.out
              cases hv; exact hr
            clear hov4 hcv4 hgv4 hr4 o2 o3 HO2 HO3 HC3 HCA HBA
            have HRR := hide (HR.out.below HB4.out)
            go_wp2_with fail
            refine (same_any a4 _ 0 c4 _ _ [] [] y4 HR4.out (Row.empty _ _) (by omega)).mono ?_
            rintro e y5 ⟨rfl, ms5, rfl⟩
            simp only [decide_true]
            go_wp2_with fail
            refine (uv_new x _ x1 x2).mono ?_
            rintro e y6 ⟨s6, c6, rfl, ho6, hb6⟩
            rw [HEX.out] at ho6
            rw [HEX.out]
            have HR6 : Hid (Row y6 (some ⟨s6, 0, none⟩) EX.length EX) := by
              obtain ⟨a', c', hv, _, hr⟩ := Row.of_own ho6 UX.out
              cases hv; exact hr
            have RO26 := hide ((RO2.out.below (below_drewN (Below.refl _ _) ms5)).below hb6)
            have RO36 := hide ((RO3.out.below (below_drewN (Below.refl _ _) ms5)).below hb6)
            have HB6 := hide (Below.on (below_drewN HB4.out ms5) hb6)
            clear ho6 hb6 RO2 RO3 HR4 HRR
            go_wp2_with fail
            refine (same_any (some ⟨s6, 0, none⟩) a1 EX.length c6 EX.length c1 EX EX y6 HR6.out RO26.out (by omega)).mono ?_
            rintro e y7 ⟨rfl, ms7, rfl⟩
            simp only [decide_true]
            go_wp2_with fail
            refine (vr_new n _ n1 n2).mono ?_
            rintro e y8 ⟨s8, c8, rfl, ho8, hb8⟩
            rw [HEZ.out] at ho8
            rw [HEZ.out]
            have HR8 : Hid (Row y8 (some ⟨s8, 0, none⟩) EZ.length EZ) := by
              obtain ⟨a', c', hv, _, hr⟩ := Row.of_own ho8 UZ.out
              cases hv; exact hr
            have RO38 := hide ((RO36.out.below (below_drewN (Below.refl _ _) ms7)).below hb8)
            have HB8 := hide (Below.on (below_drewN HB6.out ms7) hb8)
            clear ho8 hb8 RO26 RO36 HR6
            go_wp2_with fail
            refine (same_any (some ⟨s8, 0, none⟩) a2 EZ.length c8 EZ.length c2 EZ EZ y8 HR8.out RO38.out (by omega)).mono ?_
            rintro e y9 ⟨rfl, ms9, rfl⟩
            simp only [decide_true]
            go_wp2
            go_ret
            exact ⟨rfl, below_drewN HB8.out ms9⟩
          | some bp =>
            by_cases hcP : bc = P
            · have hbP : bn = P := by omega
              go_wp2_with fail
              refine (same_any va _ P vc P _ (Z.take P) (Z.take P) wr R4.out RB.out (by omega)).mono ?_
              rintro e y1' ⟨rfl, ms1, rfl⟩
              simp only [decide_true]
              have HKd := hide (HK.out.below (below_drewN (Below.refl _ _) ms1))
              have HBd := hide (below_drewN HB.out ms1)
              clear HMk R4 RB HK HB
              go_wp2_with fail
              refine (apart_walk w.heap.size A cap m (fun j => V (5 + j)) (fun j => nn (5 + j)) (fun j => L (5 + j)) _ HKd.out.many (by omega) (fun i => by have := hsm (5 + i); omega) HBd.out.size).mono ?_
              rintro e y2' ⟨rfl, haw⟩
              obtain ⟨hbA, hcA, hoA2, hoA3⟩ := HKd.out.awayB HBd.out haw HR.out.u8 hP hbn
              have HBA := hide hbA
              have HCA := hide hcA
              have HO2 := hide hoA2
              have HO3 := hide hoA3
              obtain ⟨rr, hrr⟩ : ∃ rr, P + rr = bn := ⟨bn - P, by omega⟩
              clear hbA hcA hoA2 hoA3 haw HKd HBd
              go_wp2_with fail
              refine (left_nat g bn gc P rr ga y2' HCA.out.cell0 HCA.out.cell1 hrr (by omega)).mono ?_
              rintro e y3' ⟨rfl, ms3, rfl⟩
              have HC3 := hide (HCA.out.below (below_drewN (Below.refl _ _) ms3))
              go_wp2_with fail
              refine (cb_good w.heap.size g ga bn gc Z P rr _ HC3.out (by omega)).mono ?_
              rintro e y4 ⟨v4, rfl, hov4, hcv4, hgv4⟩
              obtain ⟨a4, c4, rfl, hr4, _⟩ := own_row hov4 (u8_sub HR.out.u8 P rr)
              have HR4 := hide hr4
              have hgl : w.heap.size ≤ g := Nat.le_trans HB2.out.size hg2
              have HB4 := hide ((below_drewN HBA.out ms3).grown hgv4 (below_drewN HBA.out ms3).size (fun k h => by cases h; exact hgl))
              have o2 := (HO2.out.kept (grown_of' (r := none) (below_drewN (Below.refl _ _) ms3)) (by cases Value.ownBlock _ <;> simp)).kept hgv4 (.inr (five_ne (HO2.out.kept (grown_of' (r := none) (below_drewN (Below.refl _ _) ms3)) (by cases Value.ownBlock _ <;> simp)) HC3.out.blk (by decide)))
              have o3 := (HO3.out.kept (grown_of' (r := none) (below_drewN (Below.refl _ _) ms3)) (by cases Value.ownBlock _ <;> simp)).kept hgv4 (.inr (five_ne (HO3.out.kept (grown_of' (r := none) (below_drewN (Below.refl _ _) ms3)) (by cases Value.ownBlock _ <;> simp)) HC3.out.blk (by decide)))
              have RO2 : Hid (Row y4 a1 EX.length EX) := by
                obtain ⟨a', c', hv, _, hr⟩ := Row.of_own o2 UX.out
                cases hv; exact hr
              have RO3 : Hid (Row y4 a2 EZ.length EZ) := by
                obtain ⟨a', c', hv, _, hr⟩ := Row.of_own o3 UZ.out
                cases hv; exact hr
              clear hov4 hcv4 hgv4 hr4 o2 o3 HO2 HO3 HC3 HCA HBA
              have hdr : (Z.drop P).take rr = Z.drop P := List.take_of_length_le (by simp; omega)
              rw [hdr] at HR4
              have HRR := hide (HR.out.below HB4.out)
              go_wp2_with fail
              refine (same_any a4 _ rr c4 _ _ (Z.drop P) (Z.drop P) y4 HR4.out (by have h := HRR.out.backA hP; exact ⟨by have := h.len; omega, h.u8, .inl rfl⟩) (by omega)).mono ?_
              rintro e y5 ⟨rfl, ms5, rfl⟩
              simp only [decide_true]
              go_wp2_with fail
              refine (uv_new x _ x1 x2).mono ?_
              rintro e y6 ⟨s6, c6, rfl, ho6, hb6⟩
              rw [HEX.out] at ho6
              rw [HEX.out]
              have HR6 : Hid (Row y6 (some ⟨s6, 0, none⟩) EX.length EX) := by
                obtain ⟨a', c', hv, _, hr⟩ := Row.of_own ho6 UX.out
                cases hv; exact hr
              have RO26 := hide ((RO2.out.below (below_drewN (Below.refl _ _) ms5)).below hb6)
              have RO36 := hide ((RO3.out.below (below_drewN (Below.refl _ _) ms5)).below hb6)
              have HB6 := hide (Below.on (below_drewN HB4.out ms5) hb6)
              clear ho6 hb6 RO2 RO3 HR4 HRR
              go_wp2_with fail
              refine (same_any (some ⟨s6, 0, none⟩) a1 EX.length c6 EX.length c1 EX EX y6 HR6.out RO26.out (by omega)).mono ?_
              rintro e y7 ⟨rfl, ms7, rfl⟩
              simp only [decide_true]
              go_wp2_with fail
              refine (vr_new n _ n1 n2).mono ?_
              rintro e y8 ⟨s8, c8, rfl, ho8, hb8⟩
              rw [HEZ.out] at ho8
              rw [HEZ.out]
              have HR8 : Hid (Row y8 (some ⟨s8, 0, none⟩) EZ.length EZ) := by
                obtain ⟨a', c', hv, _, hr⟩ := Row.of_own ho8 UZ.out
                cases hv; exact hr
              have RO38 := hide ((RO36.out.below (below_drewN (Below.refl _ _) ms7)).below hb8)
              have HB8 := hide (Below.on (below_drewN HB6.out ms7) hb8)
              clear ho8 hb8 RO26 RO36 HR6
              go_wp2_with fail
              refine (same_any (some ⟨s8, 0, none⟩) a2 EZ.length c8 EZ.length c2 EZ EZ y8 HR8.out RO38.out (by omega)).mono ?_
              rintro e y9 ⟨rfl, ms9, rfl⟩
              simp only [decide_true]
              go_wp2
              go_ret
              exact ⟨rfl, below_drewN HB8.out ms9⟩
            · go_wp2_with fail
              refine (same_any va _ P vc P _ (Z.take P) (Z.take P) wr R4.out RB.out (by omega)).mono ?_
              rintro e y1' ⟨rfl, ms1, rfl⟩
              simp only [decide_true]
              have HKd := hide (HK.out.below (below_drewN (Below.refl _ _) ms1))
              have HBd := hide (below_drewN HB.out ms1)
              clear HMk R4 RB HK HB
              go_wp2_with fail
              refine (apart_walk w.heap.size A cap m (fun j => V (5 + j)) (fun j => nn (5 + j)) (fun j => L (5 + j)) _ HKd.out.many (by omega) (fun i => by have := hsm (5 + i); omega) HBd.out.size).mono ?_
              rintro e y2' ⟨rfl, haw⟩
              obtain ⟨hbA, hcA, hoA2, hoA3⟩ := HKd.out.awayB HBd.out haw HR.out.u8 hP hbn
              have HBA := hide hbA
              have HCA := hide hcA
              have HO2 := hide hoA2
              have HO3 := hide hoA3
              obtain ⟨rr, hrr⟩ : ∃ rr, P + rr = bn := ⟨bn - P, by omega⟩
              clear hbA hcA hoA2 hoA3 haw HKd HBd
              go_wp2_with fail
              refine (left_nat g bn gc P rr ga y2' HCA.out.cell0 HCA.out.cell1 hrr (by omega)).mono ?_
              rintro e y3' ⟨rfl, ms3, rfl⟩
              have HC3 := hide (HCA.out.below (below_drewN (Below.refl _ _) ms3))
              go_wp2_with fail
              refine (cb_good w.heap.size g ga bn gc Z P rr _ HC3.out (by omega)).mono ?_
              rintro e y4 ⟨v4, rfl, hov4, hcv4, hgv4⟩
              obtain ⟨a4, c4, rfl, hr4, _⟩ := own_row hov4 (u8_sub HR.out.u8 P rr)
              have HR4 := hide hr4
              have hgl : w.heap.size ≤ g := Nat.le_trans HB2.out.size hg2
              have HB4 := hide ((below_drewN HBA.out ms3).grown hgv4 (below_drewN HBA.out ms3).size (fun k h => by cases h; exact hgl))
              have o2 := (HO2.out.kept (grown_of' (r := none) (below_drewN (Below.refl _ _) ms3)) (by cases Value.ownBlock _ <;> simp)).kept hgv4 (.inr (five_ne (HO2.out.kept (grown_of' (r := none) (below_drewN (Below.refl _ _) ms3)) (by cases Value.ownBlock _ <;> simp)) HC3.out.blk (by decide)))
              have o3 := (HO3.out.kept (grown_of' (r := none) (below_drewN (Below.refl _ _) ms3)) (by cases Value.ownBlock _ <;> simp)).kept hgv4 (.inr (five_ne (HO3.out.kept (grown_of' (r := none) (below_drewN (Below.refl _ _) ms3)) (by cases Value.ownBlock _ <;> simp)) HC3.out.blk (by decide)))
              have RO2 : Hid (Row y4 a1 EX.length EX) := by
                obtain ⟨a', c', hv, _, hr⟩ := Row.of_own o2 UX.out
                cases hv; exact hr
              have RO3 : Hid (Row y4 a2 EZ.length EZ) := by
                obtain ⟨a', c', hv, _, hr⟩ := Row.of_own o3 UZ.out
                cases hv; exact hr
              clear hov4 hcv4 hgv4 hr4 o2 o3 HO2 HO3 HC3 HCA HBA
              have hdr : (Z.drop P).take rr = Z.drop P := List.take_of_length_le (by simp; omega)
              rw [hdr] at HR4
              have HRR := hide (HR.out.below HB4.out)
              go_wp2_with fail
              refine (same_any a4 _ rr c4 _ _ (Z.drop P) (Z.drop P) y4 HR4.out (HRR.out.backA hP) (by omega)).mono ?_
              rintro e y5 ⟨rfl, ms5, rfl⟩
              simp only [decide_true]
              go_wp2_with fail
              refine (uv_new x _ x1 x2).mono ?_
              rintro e y6 ⟨s6, c6, rfl, ho6, hb6⟩
              rw [HEX.out] at ho6
              rw [HEX.out]
              have HR6 : Hid (Row y6 (some ⟨s6, 0, none⟩) EX.length EX) := by
                obtain ⟨a', c', hv, _, hr⟩ := Row.of_own ho6 UX.out
                cases hv; exact hr
              have RO26 := hide ((RO2.out.below (below_drewN (Below.refl _ _) ms5)).below hb6)
              have RO36 := hide ((RO3.out.below (below_drewN (Below.refl _ _) ms5)).below hb6)
              have HB6 := hide (Below.on (below_drewN HB4.out ms5) hb6)
              clear ho6 hb6 RO2 RO3 HR4 HRR
              go_wp2_with fail
              refine (same_any (some ⟨s6, 0, none⟩) a1 EX.length c6 EX.length c1 EX EX y6 HR6.out RO26.out (by omega)).mono ?_
              rintro e y7 ⟨rfl, ms7, rfl⟩
              simp only [decide_true]
              go_wp2_with fail
              refine (vr_new n _ n1 n2).mono ?_
              rintro e y8 ⟨s8, c8, rfl, ho8, hb8⟩
              rw [HEZ.out] at ho8
              rw [HEZ.out]
              have HR8 : Hid (Row y8 (some ⟨s8, 0, none⟩) EZ.length EZ) := by
                obtain ⟨a', c', hv, _, hr⟩ := Row.of_own ho8 UZ.out
                cases hv; exact hr
              have RO38 := hide ((RO36.out.below (below_drewN (Below.refl _ _) ms7)).below hb8)
              have HB8 := hide (Below.on (below_drewN HB6.out ms7) hb8)
              clear ho8 hb8 RO26 RO36 HR6
              go_wp2_with fail
              refine (same_any (some ⟨s8, 0, none⟩) a2 EZ.length c8 EZ.length c2 EZ EZ y8 HR8.out RO38.out (by omega)).mono ?_
              rintro e y9 ⟨rfl, ms9, rfl⟩
              simp only [decide_true]
              go_wp2
              go_ret
              exact ⟨rfl, below_drewN HB8.out ms9⟩
end Go.Proofs.Ytdjampgnpiedeaa
