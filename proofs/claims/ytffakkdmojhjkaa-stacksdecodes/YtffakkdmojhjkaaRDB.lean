/-
  The document reads a body, and bodies.
-/
import Derived.Test.YtffakkdmojhjkaaRDA
import Derived.Test.YtffakkdmojhjkaaDecJ
import Derived.Test.YtffakkdmojhjkaaSl
import Derived.Deep.QuietTactic
import Derived.BigQuiet
namespace Go.Proofs.Ytffakkdmojhjkaa
open Go.RowKit Go.Maps Go.Shelf
attribute [local go_sem] Oper.semAt_some
set_option maxHeartbeats 400000 in
/-- sameBytes, both of one length, not empty. -/
theorem rsame_core (ba oa ca bb ob cb n : Nat) (A B : List Int) (w : World) (hA : A.length = n) (hB : B.length = n) (hn : n ≤ 9223372036854775807)
    (ha : ∀ i, i < n → w.cell? ⟨ba, oa + i, none⟩ = some (.int .u8 (A.getD i 0))) (hb : ∀ i, i < n → w.cell? ⟨bb, ob + i, none⟩ = some (.int .u8 (B.getD i 0))) :
    Calls Try.prog 46 #[.slice (some ⟨ba, oa, none⟩) n ca, .slice (some ⟨bb, ob, none⟩) n cb] w fun e w' => e = .returned (.bool (decide (A = B))) ∧ ∃ m, w' = w.drewN m := by
  go_enter Try.func46, Try.ntmps46
  go_wp2
  go_loopw [5] (fun i wr => ∃ k m : Nat, k ≤ n ∧ i = .int .i64 k ∧ wr = w.drewN m ∧ A.take k = B.take k) (fun i _ => n - (intOf i).toNat)
  case atStart => exact ⟨0, 0, Nat.zero_le _, rfl, rfl, rfl⟩
  case round =>
    obtain ⟨k, m, hk, rfl, rfl, he⟩ := hrel
    have HE : Hid (A.take k = B.take k) := he
    clear he
    by_cases hlt : k < n
    · have h1 := ha k hlt
      have h2 := hb k hlt
      clear ha hb
      go_wp2
      go_quiet (fail)
      go_wp2
      · go_ret
        exact ⟨ret_boolB (same_ne ‹_›), _, World.drewN_drewN _ _ _⟩
      · exact ⟨⟨k + 1, m + nq, by omega, by go_num, rfl, same_step ‹_› HE.out⟩, by simp [intOf]; omega⟩
    · go_wp2
      go_ret
      exact ⟨ret_boolB (same_all hA hB (by omega) HE.out), _, rfl⟩

theorem rsame_ne_len (a b : Option Addr) (la ca lb cb : Nat) (A B : List Int) (w : World) (hA : A.length = la) (hB : B.length = lb) (hne : la ≠ lb) :
    Calls Try.prog 46 #[.slice a la ca, .slice b lb cb] w fun e w' => e = .returned (.bool (decide (A = B))) ∧ ∃ m, w' = w.drewN m := by
  have H : Hid (decide (A = B) = false) := decide_eq_false (fun e => hne (by rw [← hA, ← hB, e]))
  have hq : ((la : Int) != (lb : Int)) = true := by simp; omega
  clear hA hB
  go_enter Try.func46, Try.ntmps46
  go_wp2
  go_ret
  exact ⟨ret_boolB H.out.symm, 0, rfl⟩
theorem rsame_zero (a b : Option Addr) (ca cb : Nat) (w : World) :
    Calls Try.prog 46 #[.slice a 0 ca, .slice b 0 cb] w fun e w' => e = .returned (.bool true) ∧ ∃ m, w' = w.drewN m := by
  go_enter Try.func46, Try.ntmps46
  go_wp2
  refine wp_loop_rounds 1 ?_
  rw [rounds_succ]
  go_wp2
  go_ret
  exact ⟨rfl, 0, rfl⟩
/-- sameBytes: are the two lists the same? -/
theorem rsame_any (a b : Option Addr) (la ca lb cb : Nat) (A B : List Int) (w : World) (hA : Row w a la A) (hB : Row w b lb B) (hm : la ≤ 9223372036854775807) :
    Calls Try.prog 46 #[.slice a la ca, .slice b lb cb] w fun e w' => e = .returned (.bool (decide (A = B))) ∧ ∃ m, w' = w.drewN m := by
  by_cases hne : la = lb
  · subst hne
    by_cases h0 : la = 0
    · subst h0
      have e1 := List.length_eq_zero_iff.1 hA.len
      have e2 := List.length_eq_zero_iff.1 hB.len
      subst e1 e2
      exact (rsame_zero a b ca cb w).mono fun e w' h => h
    · obtain ⟨ba, oa, rfl, hca⟩ := hA.cells.resolve_left h0
      obtain ⟨bb, ob, rfl, hcb⟩ := hB.cells.resolve_left h0
      exact rsame_core ba oa ca bb ob cb la A B w hA.len hB.len hm hca hcb
  · exact rsame_ne_len a b la ca lb cb A B w hA.len hB.len hne

set_option maxHeartbeats 1000000 in
set_option maxRecDepth 4000 in
theorem rbody_any {w0 w : World} {T S : Nat → Prop} {tb fb : Nat} {L : List ByteArray} {N : List Nd} (h : RFN w0 w T S tb fb L N) (a : Option Addr) (n c : Nat) (zs : List Int) (hr : Row w0 a n zs) (hn : (n : Int) ≤ 140737488355328) :
    Calls Try.prog 44 #[.pointer (some ⟨fb, 0, none⟩), .slice a n c] w fun e w' => e = .returned (.int .i64 (rdBodyN L.length N zs).1) ∧ ∃ S', RFN w0 w' T S' tb fb L (rdBodyN L.length N zs).2 := by
  have HT : Hid (RFN w0 w T S tb fb L N) := h
  have hrw := hr.below h.bel
  have HQ : Hid _ := hide (rru_any a n c 0 zs w hrw (by omega))
  have hbd := rdAt_bd zs 0 hr.u8
  have hplc := rdAt_place (zs := zs) (t := 0)
  have hl := hr.len
  obtain ⟨v, hF⟩ := h.frs
  have c1 := hF.cell1
  obtain ⟨va, vc, rfl⟩ := own_form hF.own
  have hNl : (N.length : Int) ≤ 262144 := by have := hF.len; omega
  have hb1 : (rdAt zs 0).2.2 ≠ 0 → rdBodyN L.length N zs = ((rdAt zs 0).2.2, N) := fun h => by unfold rdBodyN; rw [if_pos h]
  have hb2 : (rdAt zs 0).2.2 = 0 → ((rdAt zs 0).1 ≠ ((N.length + 1 : Nat) : Int) ∨ (rdAt zs 0).2.1 = (zs.length : Int)) → rdBodyN L.length N zs = (42, N) := fun h h' => by unfold rdBodyN; rw [if_neg (by omega), if_pos h']
  have hb3 : (rdAt zs 0).2.2 = 0 → ¬ ((rdAt zs 0).1 ≠ ((N.length + 1 : Nat) : Int) ∨ (rdAt zs 0).2.1 = (zs.length : Int)) → rdBodyN L.length N zs = rdRecsN L.length zs.length N zs (rdAt zs 0).2.1 := fun h h' => by unfold rdBodyN; rw [if_neg (by omega), if_neg h']
  have HR : Hid (Row w0 a n zs) := hr
  have HL : Hid (zs.length = n) := hl
  generalize rdAt zs 0 = r at HQ hbd hplc hb1 hb2 hb3
  obtain ⟨x, p, f⟩ := r
  simp only [out3] at HQ hbd hplc hb1 hb2 hb3
  clear hr hrw h hF
  by_cases hf : f ≠ 0
  · have HE : Hid _ := hide (hb1 hf)
    generalize rdBodyN L.length N zs = R at HE ⊢
    clear hb1 hb2 hb3 hbd hplc c1
    go_enter Try.func44, Try.ntmps44
    go_wp2_with fail
    refine HQ.out.mono ?_
    rintro e w1 ⟨rfl, hh⟩; rw [hh]; clear hh
    go_wp2
    go_ret
    exact ⟨by rw [HE.out]; rfl, S, by rw [HE.out]; exact HT.out⟩
  have hf0 : f = 0 := by omega
  clear hf
  subst hf0
  obtain ⟨hp0, hp1, hp2⟩ := hplc (by first | rfl | trivial)
  have hx0 := hbd.1
  have hx1 := hbd.2.1
  by_cases hx : x = ((N.length + 1 : Nat) : Int)
  · by_cases hpe : p = (zs.length : Int)
    · have HE : Hid (rdBodyN L.length N zs = (42, N)) := hb2 (by first | rfl | trivial) (.inr hpe)
      generalize rdBodyN L.length N zs = R at HE ⊢
      have hpe' : p = (n : Int) := by omega
      have hxI : x = (N.length : Int) + 1 := by omega
      subst hpe' hxI
      clear hb1 hb2 hb3 hbd hplc hl hp2 hpe hx
      go_enter Try.func44, Try.ntmps44
      go_wp2_with fail
      refine HQ.out.mono ?_
      rintro e w1 ⟨rfl, hh⟩; rw [hh]; clear hh
      go_wp2
      go_ret
      exact ⟨by rw [HE.out]; rfl, S, by rw [HE.out]; exact HT.out⟩
    · have HE : Hid (rdBodyN L.length N zs = rdRecsN L.length zs.length N zs p) := hb3 (by first | rfl | trivial) (by omega)
      rw [HE.out]
      have hpn : (p == (n : Int)) = false := by rw [beq_eq_false_iff_ne]; omega
      have hxI : x = (N.length : Int) + 1 := by omega
      subst hxI
      clear hb1 hb2 hb3 hbd hplc hpe hx
      obtain ⟨R, hR⟩ : ∃ R, R = rdRecsN L.length zs.length N zs p := ⟨_, rfl⟩
      rw [← hR]
      have HRc : Hid (R = rdRecsN L.length zs.length N zs p) := hR
      have HP : Hid (0 < p ∧ p ≤ zs.length) := ⟨hp1, hp2⟩
      clear hR hl hp2
      go_enter Try.func44, Try.ntmps44
      go_wp2_with fail
      refine HQ.out.mono ?_
      rintro e w1 ⟨rfl, hh⟩; rw [hh]; clear hh
      go_wp2
      clear c1 hNl
      go_loopw [6] (fun i wr => ∃ (k : Nat) (t : Int) (S' : Nat → Prop) (N' : List Nd), 0 ≤ t ∧ t ≤ (n : Int) ∧ (n : Int) - t ≤ k ∧ i = .int .i64 t ∧ RFN w0 wr T S' tb fb L N' ∧ rdRecsN L.length k N' zs t = R) (fun i _ => n - (intOf i).toNat)
      case atStart => exact ⟨zs.length, p, S, N, by have := HP.out; omega, by have := HP.out; have := HL.out; omega, by have := HP.out; have := HL.out; omega, rfl, HT.out, HRc.out.symm⟩
      case round =>
        obtain ⟨k, t, S', N', ht0, ht1, htk, rfl, hN, hRR⟩ := hrel
        have HN : Hid (RFN w0 wr T S' tb fb L N') := hN
        have HRR : Hid (rdRecsN L.length k N' zs t = R) := hRR
        clear hRR
        by_cases hlt : t < (n : Int)
        · obtain ⟨k, rfl⟩ : ∃ k', k = k' + 1 := ⟨k - 1, by omega⟩
          have hlz : Hid (t < (zs.length : Int)) := hide (by have := HL.out; omega)
          have HQ2 : Hid _ := hide (rread_any hN a n c zs t HR.out hn)
          have HPl : Hid _ := hide (rdRecN_place (m := L.length) (N := N') (zs := zs) (t := t))
          have HFa : Hid ((rdRecN L.length N' zs t).2.1 ≠ 0 → R = ((rdRecN L.length N' zs t).2.1, (rdRecN L.length N' zs t).2.2)) := hide (fun h => by rw [← HRR.out, rdRecsN_fault hlz.out h])
          have HNx : Hid ((rdRecN L.length N' zs t).2.1 = 0 → rdRecsN L.length k (rdRecN L.length N' zs t).2.2 zs (rdRecN L.length N' zs t).1 = R) := hide (fun h => by rw [← HRR.out, rdRecsN_next hlz.out h])
          clear hN
          generalize rdRecN L.length N' zs t = r at HQ2 HPl HFa HNx
          obtain ⟨q, f, N2⟩ := r
          simp only [recE] at HQ2
          dsimp only at HQ2 HPl HFa HNx
          by_cases hf : f = 0
          · subst hf
            obtain ⟨hq1, hq2⟩ := HPl.out rfl
            have hq3 : q ≤ (n : Int) := by have := HL.out; omega
            clear hq2
            go_wp2_with fail
            refine HQ2.out.mono ?_
            rintro e w2 ⟨rfl, S2, hN2, _, _⟩
            have HN2 : Hid _ := hide hN2
            clear hN2
            go_wp2
            exact ⟨⟨k, q, S2, N2, by omega, hq3, by omega, rfl, HN2.out, HNx.out (by first | rfl | trivial)⟩, by simp [intOf]; omega⟩
          · have HE2 : Hid _ := hide (HFa.out hf)
            have hfI : (f != 0) = true := by simpa using hf
            clear hf HPl HFa HNx
            go_wp2_with fail
            refine HQ2.out.mono ?_
            rintro e w2 ⟨rfl, S2, hN2, hm1, hm2⟩
            have HN2 : Hid _ := hide hN2
            clear hN2 hm1 hm2
            go_wp2
            go_ret
            exact ⟨by rw [HE2.out]; rfl, S2, by rw [HE2.out]; exact HN2.out⟩
        · have HE2 : Hid (R = (0, N')) := hide (by rw [← HRR.out, rdRecsN_out (by have := HL.out; omega)])
          clear hN
          go_wp2
          go_ret
          exact ⟨by rw [HE2.out]; rfl, S', by rw [HE2.out]; exact HN.out⟩
  · have HE : Hid (rdBodyN L.length N zs = (42, N)) := hb2 (by first | rfl | trivial) (.inl hx)
    generalize rdBodyN L.length N zs = R at HE ⊢
    have hxI : (x != (N.length : Int) + 1) = true := by simp; omega
    clear hb1 hb2 hb3 hbd hplc hl hp2 hx
    go_enter Try.func44, Try.ntmps44
    go_wp2_with fail
    refine HQ.out.mono ?_
    rintro e w1 ⟨rfl, hh⟩; rw [hh]; clear hh
    go_wp2
    go_ret
    exact ⟨by rw [HE.out]; rfl, S, by rw [HE.out]; exact HT.out⟩
/-- What the document's Decode answers. -/
def RDecE (w w' : World) (T : Nat → Prop) (tb : Nat) (L : List ByteArray) (bs : List (List Int)) (lim : Int) (e : Ending) : Prop :=
  (¬ (64 ≤ lim ∧ lim ≤ 1048576) ∧ e = .returned (.tuple #[.pointer none, .int .i64 2])) ∨
  ((64 ≤ lim ∧ lim ≤ 1048576) ∧ (rdAllN L.length bs []).1 ≠ 0 ∧ e = .returned (.tuple #[.pointer none, .int .i64 (rdAllN L.length bs []).1])) ∨
  ((64 ≤ lim ∧ lim ≤ 1048576) ∧ (rdAllN L.length bs []).1 = 0 ∧ bodiesN (rdAllN L.length bs []).2 lim.toNat ≠ bs ∧ e = .returned (.tuple #[.pointer none, .int .i64 43])) ∨
  ((64 ≤ lim ∧ lim ≤ 1048576) ∧ (rdAllN L.length bs []).1 = 0 ∧ bodiesN (rdAllN L.length bs []).2 lim.toNat = bs ∧ ∃ fb S, e = .returned (.tuple #[.pointer (some ⟨fb, 0, none⟩), .int .i64 0]) ∧ RFN w w' T S tb fb L (rdAllN L.length bs []).2)
theorem rlim_bad {lim : Int} (h : ¬ (64 ≤ lim ∧ lim ≤ 1048576)) : (decide (lim < 64) || decide (1048576 < lim)) = true := by simp; omega
set_option maxHeartbeats 1000000 in
set_option maxRecDepth 4000 in
theorem rdecode_any {w : World} {T : Nat → Prop} {tb : Nat} {L : List ByteArray} {tv : Value} (hT : RTab w tb T L tv) (a : Option Addr) (n c : Nat) (bs : List (List Int)) (lim : Int) (hr : LRow w a n bs) (hn : (n : Int) ≤ 9223372036854775806) :
    Calls Try.prog 12 #[.pointer (some ⟨tb, 0, none⟩), .slice a n c, .int .i64 lim] w fun e w' => Below w.heap.size w w' ∧ RDecE w w' T tb L bs lim e := by
  have HT : Hid (RTab w tb T L tv) := hT
  have HR : Hid (LRow w a n bs) := hr
  have HL : Hid (bs.length = n) := hr.len
  have HN : Hid _ := hide (rnew_f tb w)
  clear hT hr
  by_cases hlim : 64 ≤ lim ∧ lim ≤ 1048576
  · obtain ⟨l, rfl⟩ := Int.eq_ofNat_of_zero_le (show 0 ≤ lim by omega)
    have HLim : Hid (64 ≤ (l : Int) ∧ (l : Int) ≤ 1048576) := hlim
    have hl1 : (64 : Int) ≤ l := hlim.1
    have hl2 : (l : Int) ≤ 1048576 := hlim.2
    clear hlim
    go_enter Try.func12, Try.ntmps12
    go_wp2_with fail
    refine HN.out.mono ?_
    rintro e w1 ⟨rfl, hF1, hw1⟩
    have hb1 : Below w.heap.size w w1 := by rw [hw1]; exact (Below.refl _ w).alloc (Nat.le_refl _) _
    have HF1 : Hid (RFN w w1 T (fun k => w.heap.size ≤ k ∧ k < w1.heap.size) tb w.heap.size L []) := ⟨⟨tv, HT.out⟩, ⟨_, hF1.mono (fun k e => by rw [hw1]; simp; omega)⟩, fun k hk => hk, hb1, [], ⟨⟨by simp, by simp⟩, Rep.nil _, HT.out.nodup⟩⟩
    clear hF1 hb1 hw1
    go_wp2
    go_loopw [9] (fun i wr => ∃ (k : Nat) (S : Nat → Prop) (N : List Nd), k ≤ n ∧ i = .int .i64 (k : Int) ∧ RFN w wr T S tb w.heap.size L N ∧ rdAllN L.length bs [] = rdAllN L.length (bs.drop k) N) (fun i _ => n - (intOf i).toNat)
    case atStart => exact ⟨0, _, [], Nat.zero_le _, rfl, HF1.out, by simp⟩
    case round =>
      clear HF1
      obtain ⟨k, S, N, hk, rfl, hF, hE⟩ := hrel
      have HF : Hid (RFN w wr T S tb w.heap.size L N) := hF
      have HE : Hid _ := hide hE
      clear hF hE
      by_cases hlt : k < n
      · obtain ⟨b, off, z, ai, ci, ha, hz, hc, hrz, _, _, hzl⟩ := HR.out.at hlt
        subst ha
        have hcr : wr.cell? ⟨b, off + k, none⟩ = some (.slice ai z.length ci) := cell_block hc (HF.out.bel.block b (World.block_lt_of_cell? w _ hc))
        have HQ : Hid _ := hide (rbody_any HF.out ai z.length ci z hrz hzl)
        have HS : Hid _ := hide (rdAllN_step (m := L.length) hz N)
        clear hc hrz hz
        generalize rdBodyN L.length N z = R at HQ HS
        obtain ⟨f, N'⟩ := R
        dsimp only at HQ HS
        have hltI : (k : Int) < n := by omega
        by_cases hf : f = 0
        · subst hf
          go_wp2_with fail
          refine HQ.out.mono ?_
          rintro e w3 ⟨rfl, S3, hF3⟩
          have HF3 : Hid _ := hide hF3
          clear hF3 hcr
          go_wp2
          exact ⟨⟨k + 1, S3, N', by omega, by go_num, HF3.out, by rw [HE.out, HS.out]; simp⟩, by simp [intOf]; omega⟩
        · have HX : Hid (rdAllN L.length bs [] = (f, N')) := hide (by rw [HE.out, HS.out, if_pos hf])
          go_wp2_with fail
          refine HQ.out.mono ?_
          rintro e w3 ⟨rfl, S3, hF3⟩
          have HF3 : Hid _ := hide hF3
          clear hF3 hcr
          go_wp2
          go_ret2
          exact ⟨HF3.out.bel, .inr (.inl ⟨HLim.out, by rw [HX.out]; exact hf, by rw [HX.out]; rfl⟩)⟩
      · have HX : Hid (rdAllN L.length bs [] = (0, N)) := hide (by rw [HE.out, List.drop_of_length_le (by have := HL.out; omega)]; rfl)
        obtain ⟨v, hFr⟩ := HF.out.frs
        obtain ⟨P, hfit⟩ := HF.out.fit
        have HQ : Hid _ := hide (rbodies_f hFr hfit.rep.anc l hl2)
        have HW : Hid (Wok l (bodiesN N l) N.length) := hide (bodiesW_ok (recN_ok hFr.len hFr.small) (by have := hFr.len; omega) N.length (Nat.le_refl _))
        have hNl : (N.length : Int) ≤ 262144 := by have := hFr.len; omega
        clear hFr hfit
        have hltI : ¬ (k : Int) < n := by omega
        go_wp2_with fail
        refine HQ.out.mono ?_
        rintro e w3 ⟨a3, c3, vals, rfl, hls, hb3⟩
        have HF3 : Hid _ := hide (HF.out.below hb3)
        have HR3 : Hid (LRow w3 a n bs) := hide (HR.out.below (HF.out.bel.trans (hb3.mono HF.out.bel.size)))
        have HM3 : Hid (LRow w3 a3 (bodiesN N l).length (bodiesN N l)) := hide (hls.lrow (fun z hz => by have := HW.out.each z hz; omega))
        have hWl : ((bodiesN N l).length : Int) ≤ 262144 := by have := HW.out.len; omega
        clear hls hb3 HQ HW
        generalize hbn : bodiesN N l = bn at HM3 hWl ⊢
        have HBN : Hid (bodiesN N l = bn) := hbn
        clear hbn
        by_cases hln : bn.length = n
        · have hlI : ((bn.length : Int) != (n : Int)) = false := by simp; omega
          go_wp2
          go_loopw [12] (fun i wr' => ∃ k q : Nat, k ≤ n ∧ i = .int .i64 (k : Int) ∧ wr' = w3.drewN q ∧ bn.take k = bs.take k) (fun i _ => n - (intOf i).toNat)
          case atStart => exact ⟨0, 0, Nat.zero_le _, rfl, rfl, rfl⟩
          case round =>
            obtain ⟨j, q, hj, rfl, hw, he⟩ := hrel
            have HW : Hid (wr = w3.drewN q) := hw
            have H1r : Hid (LRow wr a3 bn.length bn) := hide (by rw [hw]; exact HM3.out.below (below_drewN (Below.refl _ _) q))
            have H2r : Hid (LRow wr a n bs) := hide (by rw [hw]; exact HR3.out.below (below_drewN (Below.refl _ _) q))
            have HE2 : Hid (bn.take j = bs.take j) := he
            clear hw he
            by_cases hlj : j < n
            · obtain ⟨b1, o1, x, ax, cx, rfl, hx, hcx, hrx, hnx, hxc, hxl⟩ := H1r.out.at (i := j) (by omega)
              obtain ⟨b2, o2, y, ay, cy, rfl, hy, hcy, hry, hny, _⟩ := H2r.out.at hlj
              have HQ : Hid (∀ i, Calls Try.prog 46 #[.slice ax x.length cx, .slice ay y.length cy] (wr.drewN i) fun e w' => e = .returned (.bool (decide (x = y))) ∧ ∃ k, w' = (wr.drewN i).drewN k) := hide (fun i => rsame_any ax ay x.length cx y.length cy x y (wr.drewN i) (hrx.drewN i) (hry.drewN i) (by omega))
              have HS : Hid ((bn.take (j + 1) = bs.take (j + 1)) ↔ x = y) := take_eq_step hx hy HE2.out
              have hljI : (j : Int) < n := by omega
              have hljB : (j : Int) < bn.length := by omega
              clear hx hy hrx hry hnx hny hxc hxl
              by_cases hxy : x = y
              · rw [decide_eq_true hxy] at HQ
                have HN2 : Hid (bn.take (j + 1) = bs.take (j + 1)) := HS.out.2 hxy
                clear hxy
                go_wp2
                go_quiet ((go_at_call 46; exact Calls.quiet_of (HQ.out _)))
                go_wp2
                exact ⟨⟨j + 1, q + nq, by omega, by go_num, by rw [HW.out]; exact World.drewN_drewN _ _ _, HN2.out⟩, by simp [intOf]; omega⟩
              · rw [decide_eq_false hxy] at HQ
                have HN2 : Hid (bn ≠ bs) := fun e => hxy (HS.out.1 (by rw [e]))
                clear hxy
                go_wp2
                go_quiet ((go_at_call 46; exact Calls.quiet_of (HQ.out _)))
                go_wp2
                go_ret2
                have hbq : Below w.heap.size w (wr.drewN nq) := by rw [HW.out]; exact below_drewN (below_drewN HF3.out.bel q) nq
                exact ⟨hbq, .inr (.inr (.inl ⟨HLim.out, by rw [HX.out], by rw [HX.out, Int.toNat_natCast, HBN.out]; exact HN2.out, rfl⟩))⟩
            · have HN2 : Hid (bn = bs) := hide (by
                have e := HE2.out
                rwa [List.take_of_length_le (by omega), List.take_of_length_le (by have := HL.out; omega)] at e)
              have hljB : ¬ (j : Int) < bn.length := by omega
              go_wp2
              go_ret2
              have hF4 : RFN w wr T S tb w.heap.size L N := by rw [HW.out]; exact HF3.out.below (below_drewN (Below.refl _ _) q)
              exact ⟨hF4.bel, .inr (.inr (.inr ⟨HLim.out, by rw [HX.out], by rw [HX.out, Int.toNat_natCast, HBN.out]; exact HN2.out, _, S, rfl, by rw [HX.out]; exact hF4⟩))⟩
        · have hlI : ((bn.length : Int) != (n : Int)) = true := by simp; omega
          have HN2 : Hid (bn ≠ bs) := hide (fun e => hln (by rw [e]; exact HL.out))
          go_wp2
          go_ret2
          exact ⟨HF3.out.bel, .inr (.inr (.inl ⟨HLim.out, by rw [HX.out], by rw [HX.out, Int.toNat_natCast, HBN.out]; exact HN2.out, rfl⟩))⟩
  · have HLim : Hid (¬ (64 ≤ lim ∧ lim ≤ 1048576)) := hlim
    by_cases h1 : lim < 64
    · go_enter Try.func12, Try.ntmps12
      go_wp2
      go_ret2
      exact ⟨Below.refl _ _, .inl ⟨HLim.out, rfl⟩⟩
    · have h2 : 1048576 < lim := by omega
      go_enter Try.func12, Try.ntmps12
      go_wp2
      go_ret2
      exact ⟨Below.refl _ _, .inl ⟨HLim.out, rfl⟩⟩
end Go.Proofs.Ytffakkdmojhjkaa
