/-
  The document's Decode.
-/
import Derived.Test.YtamoioebgnmcaaaDoorSRd
import Derived.Test.YtamoioebgnmcaaaDoorSRfC
import Derived.Test.YtamoioebgnmcaaaDoorSRfB
import Derived.Test.YtamoioebgnmcaaaDoorSDec
import Derived.Test.YtamoioebgnmcaaaDoorTwS
namespace Go.Proofs.YtamoioebgnmcaaaDoor
open Go.RowKit
attribute [local go_sem] Oper.semAt_some
theorem ret_boolD {a b : Bool} (h : a = b) : Ending.returned (.bool a) = .returned (.bool b) := by rw [h]
set_option maxHeartbeats 400000 in
/-- sameBytes, both of one length, not empty. -/
theorem rsm_core (ba oa ca bb ob cb n : Nat) (A B : List Int) (w : World) (hA : A.length = n) (hB : B.length = n) (hn : n ≤ 9223372036854775807)
    (ha : ∀ i, i < n → w.cell? ⟨ba, oa + i, none⟩ = some (.int .u8 (A.getD i 0))) (hb : ∀ i, i < n → w.cell? ⟨bb, ob + i, none⟩ = some (.int .u8 (B.getD i 0))) :
    Calls Tryd.prog 42 #[.slice (some ⟨ba, oa, none⟩) n ca, .slice (some ⟨bb, ob, none⟩) n cb] w fun e w' => e = .returned (.bool (decide (A = B))) ∧ ∃ m, w' = w.drewN m := by
  go_enter Tryd.func42, Tryd.ntmps42
  go_wp2
  go_loopw [5] (fun i wr => ∃ k m : Nat, k ≤ n ∧ i = .int .i64 k ∧ wr = w.drewN m ∧ A.take k = B.take k) (fun i _ => n - (intOf i).toNat)
  case atStart => exact ⟨0, 0, Nat.zero_le _, rfl, rfl, rfl⟩
  case round =>
    obtain ⟨k, m, hk, rfl, rfl, he⟩ := hrel
    have HE : Hid (A.take k = B.take k) := he
    clear he
    by_cases hlt : k < n
    · have h1 := ha k hlt
      have h2 := hb k hlt
      clear ha hb
      go_wp2
      go_quiet (fail)
      go_wp2
      · go_ret
        exact ⟨ret_boolD (same_ne ‹_›), _, World.drewN_drewN _ _ _⟩
      · exact ⟨⟨k + 1, m + nq, by omega, by go_num, rfl, same_step ‹_› HE.out⟩, by simp [intOf]; omega⟩
    · go_wp2
      go_ret
      exact ⟨ret_boolD (same_all hA hB (by omega) HE.out), _, rfl⟩

theorem rsm_ne_len (a b : Option Addr) (la ca lb cb : Nat) (A B : List Int) (w : World) (hA : A.length = la) (hB : B.length = lb) (hne : la ≠ lb) :
    Calls Tryd.prog 42 #[.slice a la ca, .slice b lb cb] w fun e w' => e = .returned (.bool (decide (A = B))) ∧ ∃ m, w' = w.drewN m := by
  have H : Hid (decide (A = B) = false) := decide_eq_false (fun e => hne (by rw [← hA, ← hB, e]))
  have hq : ((la : Int) != (lb : Int)) = true := by simp; omega
  clear hA hB
  go_enter Tryd.func42, Tryd.ntmps42
  go_wp2
  go_ret
  exact ⟨ret_boolD H.out.symm, 0, rfl⟩
theorem rsm_zero (a b : Option Addr) (ca cb : Nat) (w : World) :
    Calls Tryd.prog 42 #[.slice a 0 ca, .slice b 0 cb] w fun e w' => e = .returned (.bool true) ∧ ∃ m, w' = w.drewN m := by
  go_enter Tryd.func42, Tryd.ntmps42
  go_wp2
  refine wp_loop_rounds 1 ?_
  rw [rounds_succ]
  go_wp2
  go_ret
  exact ⟨rfl, 0, rfl⟩
/-- sameBytes: are the two lists the same? -/
theorem rsm_any (a b : Option Addr) (la ca lb cb : Nat) (A B : List Int) (w : World) (hA : Row w a la A) (hB : Row w b lb B) (hm : la ≤ 9223372036854775807) :
    Calls Tryd.prog 42 #[.slice a la ca, .slice b lb cb] w fun e w' => e = .returned (.bool (decide (A = B))) ∧ ∃ m, w' = w.drewN m := by
  by_cases hne : la = lb
  · subst hne
    by_cases h0 : la = 0
    · subst h0
      have e1 := List.length_eq_zero_iff.1 hA.len
      have e2 := List.length_eq_zero_iff.1 hB.len
      subst e1 e2
      exact (rsm_zero a b ca cb w).mono fun e w' h => h
    · obtain ⟨ba, oa, rfl, hca⟩ := hA.cells.resolve_left h0
      obtain ⟨bb, ob, rfl, hcb⟩ := hB.cells.resolve_left h0
      exact rsm_core ba oa ca bb ob cb la A B w hA.len hB.len hm hca hcb
  · exact rsm_ne_len a b la ca lb cb A B w hA.len hB.len hne


theorem cutS_small {lim : Nat} (hl : 27 ≤ lim) : ∀ (L : List Rc) (b : List Int) (s : St), b.length ≤ lim → (∀ r ∈ L, (text St.zero r).length ≤ lim) → ∀ x ∈ cutS lim b s L, x.length ≤ lim
  | [], b, s, hb, _, x, hx => by
    rw [cutS] at hx
    split at hx
    · cases hx
    · rw [List.mem_singleton.1 hx]; exact hb
  | r :: l, b, s, hb, hr, x, hx => by
    rw [cutS] at hx
    split at hx
    · rcases List.mem_cons.1 hx with e | e
      · rw [e]; exact hb
      · exact cutS_small hl l _ _ (hr r (List.mem_cons_self ..)) (fun r' h => hr r' (List.mem_cons_of_mem _ h)) x e
    · rename_i h9
      exact cutS_small hl l _ _ (by rw [List.length_append]; omega) (fun r' h => hr r' (List.mem_cons_of_mem _ h)) x hx
theorem strE_each : ∀ (L : List Rc) (m : Int), strE m L = 0 → ∀ r ∈ L, putE St.zero r = 0
  | x :: l, m, h, r, hr => by
    obtain ⟨h1, _, h3⟩ := strE_step.1 h
    rcases List.mem_cons.1 hr with e | e
    · rw [e]; exact h1
    · exact strE_each l _ h3 r e
theorem cut_small {L : List Rc} {lim : Int} (hs : strE 0 L = 0) (hok : ∀ r ∈ L, r.ok) (hlim : 64 ≤ lim ∧ lim ≤ 1048576) : ∀ x ∈ cutS lim.toNat [] St.zero L, (x.length : Int) ≤ lim := fun x hx => by
  have h9 := cutS_small (lim := lim.toNat) (by omega) L [] St.zero (by simp) (fun r hr => by have := text_len (strE_each L 0 hs r hr) (hok r hr); omega) x hx
  omega
set_option maxHeartbeats 6400000 in
set_option maxRecDepth 10000 in
theorem rdec_any (a : Option Addr) (n c : Nat) (bs : List (List Int)) (lim : Int) (w : World) (hr : LRow w a n bs) (hlim : 64 ≤ lim ∧ lim ≤ 1048576) (hn : (n : Int) ≤ 9223372036854775000) :
    Calls Tryd.prog 16 #[.slice a n c, .int .i64 lim] w fun e w' => Below w.heap.size w w' ∧ ((decV lim.toNat bs).2 ≠ 0 → e = .returned (.tuple #[.slice none 0 0, .int .i64 (decV lim.toNat bs).2])) ∧ ((decV lim.toNat bs).2 = 0 → ∃ v, e = .returned (.tuple #[v, .int .i64 0]) ∧ w'.ownsRow w.heap.size 52 5 v (decV lim.toNat bs).1.length (flat (decV lim.toNat bs).1)) := by
  have HL := rlimits_any lim w
  rw [decide_eq_true hlim] at HL
  have hl := hr.len
  have HR : Hid _ := hide hr
  have HLM : Hid _ := hide hlim
  have HBL : Hid _ := hide hl
  have hlim2 := hlim.2
  clear hr hlim
  have I0 : Hid (RdI w w bs 0 (.slice none 0 0) []) := hide ⟨World.ownsRow_nil _ _ _ _, Below.refl _ _, rfl, rfl, by simp⟩
  go_enter Tryd.func16, Tryd.ntmps16
  go_wp2_with fail
  refine HL.mono ?_
  rintro e w1 ⟨rfl, hw1⟩
  rw [hw1]
  clear HL hw1 w1
  go_wp2_with fail
  go_loopw [7, 8] (fun s4 s12 wr => ∃ (k : Nat) (acc : List Rc), s12 = .int .i64 k ∧ k ≤ n ∧ RdI w wr bs k s4 acc)
    (fun _ s12 _ => n - (intOf s12).toNat)
  case atStart => exact ⟨0, [], rfl, Nat.zero_le _, I0.out⟩
  case round =>
    obtain ⟨k, acc, rfl, hk, hI⟩ := hrel
    clear I0
    have HI : Hid _ := hide hI
    have hsz := hI.bel.size
    obtain ⟨av, cv, e9⟩ := own_formR hI.own
    subst e9
    by_cases hlt : k < n
    · obtain ⟨b, off, z, ai, ci, rfl, hz, hcz, hrow, hn0, hzc, hzb⟩ := (HR.out.below hI.bel).at hlt
      have HC := rchunk_any ai z.length ci z wr hrow (by omega)
      have HU : Hid _ := hide hrow.u8
      have HZ : Hid _ := hide hz
      have HLA : Hid _ := hide (strE_len acc 0 (by decide) (by decide) hI.str)
      clear hz hrow hn0 hI hzc hzb
      by_cases he : (chunkV z).2 = 0
      · obtain ⟨part, hpart⟩ : ∃ part, chunkV z = (part, 0) := ⟨(chunkV z).1, Prod.ext rfl he⟩
        obtain ⟨-, -, hs2, hok2, hne2⟩ := chunk_inv HU.out hpart
        have HP : Hid _ := hide hpart
        have HE : Hid _ := hide he
        have HPL : Hid _ := hide (strE_len part 0 (by decide) (by decide) hs2)
        have hp0 : 0 < part.length := List.length_pos_iff.2 hne2
        have hp0I : (0 : Int) < (part.length : Int) := by omega
        have HS2 : Hid _ := hide hs2
        have HOK2 : Hid _ := hide hok2
        obtain ⟨⟨yt, yk, yo, ya, yq⟩, hy⟩ : ∃ y, part[0]? = some y := ⟨part[0], List.getElem?_eq_getElem hp0⟩
        have HY : Hid _ := hide hy
        clear he hpart hs2 hok2 hne2 hy
        go_wp2_with fail
        refine HC.mono ?_
        rintro e w2 ⟨hb2, _, hg⟩
        obtain ⟨v2, rfl, hO2⟩ := hg HE.out
        rw [HP.out] at hO2
        dsimp only at hO2
        obtain ⟨gp, cp, rfl, hgp, hgp2⟩ := own_rowR hO2 hp0
        have hO1 := own_below HI.out.own hb2
        have hbw2 : Below w.heap.size w w2 := HI.out.bel.trans (hb2.mono hsz)
        have hs2 := hb2.size
        obtain ⟨y0, -⟩ := own_rec hO2 HY.out
        have HO2 : Hid _ := hide hO2
        have HO1 : Hid _ := hide hO1
        have HB2 : Hid _ := hide hbw2
        dsimp only at y0
        rw [Nat.zero_mul] at y0
        clear HC hg hO2 hO1 hb2 hbw2
        by_cases hA : acc.length = 0
        · have hacc : acc = [] := List.length_eq_zero_iff.1 hA
          subst hacc
          have HM : Hid (meets [] part = true) := hide rfl
          clear hA
          go_upto_region 11 with fail
          go_quiet (fail)
          obtain ⟨w5, hw5⟩ : ∃ w5, w5 = w2.drewN nq := ⟨_, rfl⟩
          have hb5 : Below w2.heap.size w2 w5 := by rw [hw5]; exact below_drewN (Below.refl _ _) nq
          go_upto_region 13 with fail
          rw [← hw5]
          have hs5 := hb5.size
          have HOX : Hid _ := hide (own_below HO1.out hb5)
          have HOY : Hid _ := hide (own_below HO2.out hb5)
          have HB5 : Hid _ := hide (HB2.out.trans (hb5.mono (by omega)))
          have HN : Hid _ := hide (fun (w4 : World) (g4 c4 : Nat) o4 (gr4 : w5.grownBy w4 (Value.slice av ([] : List Rc).length cv).ownBlock) => HI.out.step (z := z) (part := part) (w4 := w4) (w5 := w5) (g := g4) (c := c4) HZ.out HP.out HM.out HS2.out HOK2.out HOX.out HB5.out o4 gr4)
          clear hw5 hb5
          go_wp2_with (at_builtin; refine recs_lies _ rfl _ _ rfl w.heap.size (.slice av 0 cv) 0 [] rfl HOX.out gp part.length cp wr.heap.size part rfl HOY.out hp0 (by have := HLA.out; have := HPL.out; omega) (by omega) ?_; intro g4 c4 w4 o4 gr4 l4; have O4 : Hid _ := hide o4; have G4 : Hid _ := hide gr4; clear o4 gr4 l4)
          have I5 := HN.out _ _ _ O4.out G4.out
          simp only [List.length_nil, Nat.zero_add, List.nil_append] at I5
          exact ⟨⟨k + 1, part, by go_num, by omega, I5⟩, by simp [intOf]; omega⟩
        · obtain ⟨⟨xt, xk, xo, xa, xq⟩, hx⟩ : ∃ x, acc[(acc.length - 1)]? = some x := ⟨acc[(acc.length - 1)]'(by omega), List.getElem?_eq_getElem _⟩
          obtain ⟨ga, ca, e9, _, hga⟩ := own_rowR HO1.out (by omega)
          cases e9
          have hlast : acc.getLast? = some ⟨xt, xk, xo, xa, xq⟩ := by rw [List.getLast?_eq_getElem?]; exact hx
          have hhead : part.head? = some ⟨yt, yk, yo, ya, yq⟩ := by rw [List.head?_eq_getElem?]; exact HY.out
          have HMV : Hid (meets acc part = decide (xt < yt)) := hide (by unfold meets; rw [hlast, hhead])
          obtain ⟨x0, -⟩ := own_rec HO1.out hx
          dsimp only at x0
          have hi0 : (0 : Int) ≤ (acc.length : Int) - 1 := by omega
          have hi1 : (acc.length : Int) - 1 < (acc.length : Int) := by omega
          have hi2 : (0 : Int) < (acc.length : Int) := by omega
          have hi4 : 0 < acc.length := by omega
          have hi7 : (1 : Int) ≤ (acc.length : Int) := by omega
          have hi8 : 1 ≤ acc.length := by omega
          have hi9 : ¬ (acc.length : Int) - 1 < 0 := by omega
          have hi10 : ¬ (acc.length : Int) < 1 := by omega
          have hi5 : decide ((0 : Int) < (acc.length : Int)) = true := decide_eq_true hi2
          have hi3 : (acc.length : Int) ≤ 1048576 := by have := HLA.out; omega
          have hwr : IntKind.i64.wrap ((acc.length : Int) - 1) = (acc.length : Int) - 1 := by rw [IntKind.wrap_i64]; omega
          clear hlast hhead hx hA
          by_cases hxy : xt < yt
          · have HM : Hid (meets acc part = true) := hide (by rw [HMV.out]; exact decide_eq_true hxy)
            have HLJ : Hid _ := hide (strE_len (acc ++ part) 0 (by decide) (by decide) (meets_join HI.out.str HS2.out HM.out))
            have e1 : decide (yt ≤ xt) = false := decide_eq_false (by omega)
            have e1' : ¬ yt ≤ xt := by omega
            clear hxy
            go_upto_region 11 with fail
            go_quiet (fail)
            obtain ⟨w6, hw6⟩ : ∃ w6, w6 = w2.drewN nq := ⟨_, rfl⟩
            have B6 : Below w2.heap.size w2 w6 := by rw [hw6]; exact below_drewN (Below.refl _ _) nq
            go_upto_region 13 with fail
            rw [← hw6]
            have hs6 := B6.size
            have HOX : Hid _ := hide (own_below HO1.out B6)
            have HOY : Hid _ := hide (own_below HO2.out B6)
            have HB5 : Hid _ := hide (HB2.out.trans (B6.mono (by omega)))
            have HN : Hid _ := hide (fun (w4 : World) (g4 c4 : Nat) o4 (gr4 : w6.grownBy w4 (Value.slice (some ⟨ga, 0, none⟩) acc.length cv).ownBlock) => HI.out.step (z := z) (part := part) (w4 := w4) (w5 := w6) (g := g4) (c := c4) HZ.out HP.out HM.out HS2.out HOK2.out HOX.out HB5.out o4 gr4)
            clear x0 y0 hw6 B6
            go_wp2_with (at_builtin; refine recs_lies _ rfl _ _ rfl w.heap.size (.slice (some ⟨ga, 0, none⟩) acc.length cv) acc.length acc rfl HOX.out gp part.length cp wr.heap.size part rfl HOY.out hp0 (by have h9 := HLJ.out; rw [List.length_append] at h9; omega) (by omega) ?_; intro g4 c4 w4 o4 gr4 l4; have O4 : Hid _ := hide o4; have G4 : Hid _ := hide gr4; clear o4 gr4 l4)
            exact ⟨⟨k + 1, acc ++ part, by go_num, by omega, HN.out _ _ _ O4.out G4.out⟩, by simp [intOf]; omega⟩
          · have HCH : Hid (decV lim.toNat bs = ([], 80)) := hide (by
              have h9 := HI.out.rd.trans (readV_low HZ.out HE.out (by rw [HP.out]; exact HMV.out.trans (decide_eq_false hxy)))
              unfold decV; rw [h9]; rfl)
            have e1 : decide (yt ≤ xt) = true := decide_eq_true (by omega)
            have e1' : yt ≤ xt := by omega
            clear hxy
            go_upto_region 11 with fail
            go_quiet (fail)
            obtain ⟨w6, hw6⟩ : ∃ w6, w6 = w2.drewN nq := ⟨_, rfl⟩
            have B6 : Below w2.heap.size w2 w6 := by rw [hw6]; exact below_drewN (Below.refl _ _) nq
            have HB5 : Hid _ := hide (HB2.out.trans (B6.mono (by omega)))
            rw [← hw6]
            clear x0 y0 hw6 B6
            go_wp2
            go_ret2
            rw [HCH.out]
            exact ⟨HB5.out, fun _ => rfl, fun e => absurd e (by decide)⟩
      · have HCH : Hid (decV lim.toNat bs = ([], (chunkV z).2)) := hide (by
          have h9 := HI.out.rd.trans (readV_bad HZ.out he)
          unfold decV; rw [h9]; rw [if_pos he])
        generalize (chunkV z).2 = E at HC HCH he
        have q1 : (E != 0) = true := by simpa using he
        go_wp2_with fail
        refine HC.mono ?_
        rintro e w2 ⟨hb2, hbad, _⟩
        obtain rfl := hbad he
        have HB2 : Hid _ := hide (HI.out.bel.trans (hb2.mono hsz))
        clear hb2 hbad HC
        go_wp2
        go_ret2
        rw [HCH.out]
        exact ⟨HB2.out, fun _ => rfl, fun e => absurd e he⟩
    · have hd : bs.drop k = [] := List.drop_eq_nil_of_le (by omega)
      obtain ⟨Z, hZ⟩ : ∃ Z, Z = cutS lim.toNat [] St.zero acc := ⟨_, rfl⟩
      have HCH : Hid (decV lim.toNat bs = if Z = bs then (acc, 0) else ([], 43)) := hide (by
        have h9 : readV [] bs = (acc, 0) := by rw [HI.out.rd, hd]; rfl
        unfold decV; rw [h9, hZ]; rw [if_neg (by simp)])
      have RB := rbodies_any av acc.length cv acc lim wr (RRow.of_own hI.own) hI.ok hI.str HLM.out
      rw [← hZ] at RB
      have HSM : Hid (∀ x ∈ Z, (x.length : Int) ≤ 140737488355328) := hide (by
        rw [hZ]
        intro x hx
        have := cut_small hI.str hI.ok HLM.out x hx
        omega)
      clear hI hd hZ
      go_wp2_with fail
      refine RB.mono ?_
      rintro e w6 ⟨hb6, a6, c6, vals6, rfl, ls6⟩
      have HLS : Hid _ := hide (ls6.lrow HSM.out)
      have HB6 : Hid _ := hide (HI.out.bel.trans (hb6.mono hsz))
      have HO6 : Hid _ := hide (own_below HI.out.own hb6)
      obtain ⟨NZ, hNZ⟩ : ∃ NZ, NZ = Z.length := ⟨_, rfl⟩
      rw [← hNZ] at HLS ⊢
      have HNZ : Hid _ := hide hNZ
      clear RB hb6 ls6 hNZ
      by_cases hlen : NZ = n
      · have hq : ((NZ : Int) != (n : Int)) = false := by simp [hlen]
        subst hlen
        go_wp2_with fail
        go_loopw [12] (fun iv wx => ∃ (j : Nat), iv = .int .i64 (j : Int) ∧ j ≤ NZ ∧ Hid (Z.take j = bs.take j) ∧ Hid (Below w6.heap.size w6 wx)) (fun iv _ => NZ - (intOf iv).toNat)
        case atStart => exact ⟨0, rfl, Nat.zero_le _, hide (by simp), hide (Below.refl _ _)⟩
        case round =>
          obtain ⟨j, rfl, hj, HTk, HBj⟩ := hrel
          rename World => wx
          have HBw : Hid (Below w.heap.size w wx) := hide (HB6.out.trans (HBj.out.mono HB6.out.size))
          by_cases hlt3 : j < NZ
          · have hlt3I : (j : Int) < (NZ : Int) := by omega
            obtain ⟨zb, zo, zz, za, zc, hza, hzz, z1, zrow, -, -, zl⟩ := (HLS.out.below HBj.out).at hlt3
            obtain ⟨yb, yo, yy, yya, yc, hya, hyy, y1, yrow, -, -, -⟩ := (HR.out.below HBw.out).at hlt3
            subst hza; subst hya
            obtain ⟨eqb, heqb⟩ : ∃ eqb : Bool, decide (zz = yy) = eqb := ⟨_, rfl⟩
            have HSM2 : Hid (∀ W, Below wx.heap.size wx W → Calls Tryd.prog 42 #[.slice za zz.length zc, .slice yya yy.length yc] W fun e w' => e = .returned (.bool eqb) ∧ Below W.heap.size W w') := hide (fun W hW => (rsm_any za yya zz.length zc yy.length yc zz yy W (zrow.below hW) (yrow.below hW) (by omega)).mono (by
              rintro e w' ⟨rfl, m, rfl⟩
              exact ⟨by rw [heqb], below_drewN (Below.refl _ _) _⟩))
            have HKS : Hid (∀ X, Below wx.heap.size wx X → X.cell? ⟨zb, zo + j, none⟩ = some (.slice za zz.length zc) ∧ X.cell? ⟨yb, yo + j, none⟩ = some (.slice yya yy.length yc)) := hide (fun X hX => ⟨(hX.cell (p := ⟨zb, zo + j, none⟩) (World.block_lt_of_cell? wx _ z1)).trans z1, (hX.cell (p := ⟨yb, yo + j, none⟩) (World.block_lt_of_cell? wx _ y1)).trans y1⟩)
            have HZZ : Hid _ := hide hzz
            have HYY : Hid _ := hide hyy
            have HEB : Hid _ := hide heqb
            clear hzz hyy zrow yrow zl heqb
            go_wp2_with fail
            go_region_held3 (fun X => X.cell? ⟨zb, zo + j, none⟩ = some (.slice za zz.length zc) ∧ X.cell? ⟨yb, yo + j, none⟩ = some (.slice yya yy.length yc)) (first | exact HKS.out _ B7 | exact HKS.out _ (Below.refl _ _).drew | exact HKS.out _ (Below.refl _ _)) (first
              | (go_at_call 42; go_must (
                 refine (HSM2.out _ (Below.refl _ _).drew).mono ?_
                 rintro e w7 ⟨rfl, hb7⟩
                 have B7 : Below wx.heap.size wx w7 := (Below.refl _ _).drew.trans hb7)))
            have HB7 : Hid (Below w6.heap.size w6 w7) := hide (HBj.out.trans (B7.mono HBj.out.size))
            clear hb7 B7 z1 y1 HKS
            cases eqb with
            | true =>
              have heq : zz = yy := of_decide_eq_true HEB.out
              have HT2 : Hid (Z.take (j + 1) = bs.take (j + 1)) := hide (by rw [List.take_add_one, List.take_add_one, HTk.out, HZZ.out, HYY.out, heq])
              clear heq
              go_wp2
              exact ⟨⟨j + 1, by go_num, by omega, HT2, HB7⟩, by simp [intOf]; omega⟩
            | false =>
              have heq : ¬ zz = yy := of_decide_eq_false HEB.out
              have HNE : Hid (Z ≠ bs) := hide (fun e => heq (by have h9 := HZZ.out; rw [e, HYY.out] at h9; exact (Option.some.inj h9).symm))
              clear heq
              go_wp2
              go_ret2
              rw [HCH.out, if_neg HNE.out]
              exact ⟨HB6.out.trans (HB7.out.mono HB6.out.size), fun _ => rfl, fun e => absurd e (by decide)⟩
          · have hlt3I : ¬ (j : Int) < (NZ : Int) := by omega
            have HEQ : Hid (Z = bs) := hide (by
              have h9 := HTk.out
              rw [List.take_of_length_le (by have := HNZ.out; omega), List.take_of_length_le (by have := HBL.out; omega)] at h9
              exact h9)
            go_wp2
            go_ret2
            rw [HCH.out, if_pos HEQ.out]
            exact ⟨HBw.out, fun e => absurd rfl e, fun _ => ⟨_, rfl, own_below HO6.out HBj.out⟩⟩
      · have hq : ((NZ : Int) != (n : Int)) = true := by simp; omega
        have HNE : Hid (Z ≠ bs) := hide (fun e => hlen (by rw [HNZ.out, e, HBL.out]))
        go_wp2
        go_ret2
        rw [HCH.out, if_neg HNE.out]
        exact ⟨HB6.out, fun _ => rfl, fun e => absurd e (by decide)⟩
end Go.Proofs.YtamoioebgnmcaaaDoor
