/-
  strconv.unquote: what begins with another quote.
-/
import Derived.Test.YtpnacioliccglaaDoorDvJ
namespace Go.Proofs.YtpnacioliccglaaDoor
open Go.RowKit Go.Maps Go.Shelf
set_option linter.unusedVariables false
set_option maxRecDepth 100000 in
set_option maxHeartbeats 8000000 in
theorem uq_quo39 (z : ByteArray) (E : Value) (w : World) (T : TypeId) (vE : Value) (hEi : E = .iface T vE) (hE : w.cell? ⟨3, 0, none⟩ = some E) (hT : Lib.Utf8Tabs 6 7 w) (hs : z.size ≤ 1073741824) (h1 : 1 < z.size) (hb : bA z 0 = 39) (o : Nat) (ho : Lib.indexByte (z.extract 1 z.size).data.toList 39 = (o : Int)) :
    Calls Tryd.prog 69 #[.string z, .bool true] w fun e w' => UqP z E e ∧ Below w.heap.size w w' := by
  have h00 : 1 < z.size := h1
  have hI : ¬ ((z.size : Nat) : Int) < 2 := by omega
  have h01 : 0 < z.size := by omega
  have hI1 : (1 : Int) ≤ ((z.size : Nat) : Int) := by omega
  have hb0 : ((z[0].toNat : Nat) : Int) = 39 := (bA_int h01).trans (by rw [hb]; rfl)
  have HI := hide (scIndex_any (z.extract 1 z.size) 39 w)
  rw [show (39 : Int).toNat.toUInt8 = 39 by decide, ho] at HI
  have HIX := hide (idx_at ho)
  have hol := (idx_at ho).1
  rw [ext_len _ _ _ (Nat.le_refl _)] at hol
  obtain ⟨n, hn⟩ : ∃ n, n = o + 2 := ⟨_, rfl⟩
  have hnI : (o : Int) + 2 = (n : Int) := by omega
  have hnz : (n : Int) ≤ ((z.size : Nat) : Int) := by omega
  have ho0 : ¬ (o : Int) < 0 := by omega
  obtain ⟨n1, hn1e⟩ : ∃ m : Nat, m + 1 = n := ⟨n - 1, by omega⟩
  have hn1I : (n : Int) - 1 = (n1 : Int) := by omega
  have hn1z : (n1 : Int) ≤ ((z.size : Nat) : Int) := by omega
  have hn11 : (1 : Int) ≤ (n1 : Int) := by omega
  have HN := hide (And.intro hn hol)
  have HVac : Hid (∀ t : ByteArray, z.data.toList ≠ wrd t) := hide (fun t ht => by have := wrd_q ht; omega)
  have HSz : Hid (∀ a b, (z.extract a b).size ≤ 4 * z.size) := hide (fun a b => by simp; omega)
  have HEw : Hid (∀ X, Below w.heap.size w X → X.cell? ⟨3, 0, none⟩ = some E) := hide (fun X hX => (hX.cell (World.block_lt_of_cell? w _ hE)).trans hE)
  have HTw : Hid (∀ X, Below w.heap.size w X → Lib.Utf8Tabs 6 7 X) := hide (fun X hX => Utf8Tabs_below hT hX)
  clear hb ho hn hE hT hol
  subst hEi
  go_enter Tryd.func69, Tryd.ntmps69
  go_wp2_with fail
  refine HI.out.mono ?_
  rintro e w2 ⟨rfl, rfl⟩
  clear HI
  go_upto_region 25 with fail
  go_cut [99] (fun tb wx => ∃ bb : Bool, tb = .bool bb ∧ wx = w2 ∧ (bb = true → Lib.indexByte (z.extract 0 n).data.toList 92 = -1))
  case first =>
    have HC := hide (scContains_any (z.extract 0 n) 92 w2)
    rw [show (92 : Int).toNat.toUInt8 = 92 by decide] at HC
    rcases idx_cases (z.extract 0 n).data.toList 92 with hc | ⟨k, hc⟩
    · rw [hc] at HC
      have HD := hide (scContains_any (z.extract 0 n) 10 w2)
      rw [show (10 : Int).toNat.toUInt8 = 10 by decide] at HD
      have HCC := hide hc
      clear hc
      rcases idx_cases (z.extract 0 n).data.toList 10 with hd | ⟨k, hd⟩
      · rw [hd] at HD
        clear hd
        go_wp2_with fail
        refine HC.out.mono ?_
        rintro e w3 ⟨rfl, rfl⟩
        go_wp2_with fail
        refine HD.out.mono ?_
        rintro e w4 ⟨rfl, rfl⟩
        go_wp2_with fail
        go_meet
        exact ⟨_, rfl, rfl, fun _ => HCC.out⟩
      · rw [hd] at HD
        have hk0 : ¬ (k : Int) = -1 := by omega
        clear hd
        go_wp2_with fail
        refine HC.out.mono ?_
        rintro e w3 ⟨rfl, rfl⟩
        go_wp2_with fail
        refine HD.out.mono ?_
        rintro e w4 ⟨rfl, rfl⟩
        go_wp2_with fail
        go_meet
        exact ⟨_, rfl, rfl, fun _ => HCC.out⟩
    · rw [hc] at HC
      have hk0 : ((k : Int) != -1) = true := by rw [bne_iff_ne]; omega
      rw [hk0] at HC
      clear hc hk0
      go_wp2_with fail
      refine HC.out.mono ?_
      rintro e w3 ⟨rfl, rfl⟩
      go_wp2_with fail
      go_meet
      exact ⟨false, rfl, rfl, fun h => by cases h⟩
  case rest =>
  obtain ⟨bb, rfl, rfl, hbb⟩ := hcut
  have HBB := hide hbb
  clear hbb
  rename World => W0
  go_upto_if 99 with fail
  go_cut [4, 11, 12, 13] (fun ou va r9 n9 wx => ou = .string ⟨#[]⟩ ∧ Below W0.heap.size W0 wx)
  case first =>
    cases bb
    · go_wp2_with fail
      go_meet
      exact ⟨rfl, Below.refl _ _⟩
    · have HC := hide (Tryd.utf8_DecodeRuneInString (z.extract 1 n1) W0 (HTw.out _ (Below.refl _ _)))
      have hK : (Lib.decodeGo (z.extract 1 n1)).2 ≤ 4 := by
        unfold Lib.decodeGo
        split
        · simp
        · rw [(dv_sg _ _).2]; unfold stp; split
          · omega
          · exact wl_le _ _
      generalize (Lib.decodeGo (z.extract 1 n1)).1 = R at HC
      generalize (Lib.decodeGo (z.extract 1 n1)).2 = K at HC hK
      by_cases k1 : 1 + K + 1 = n
      · have f1 : ((1 : Int) + (K : Int) + 1 == (n : Int)) = true := by rw [beq_iff_eq]; omega
        by_cases k2 : R = 65533
        · have f2 : ((R : Int) == 65533) = true := by rw [beq_iff_eq]; omega
          by_cases k3 : K = 1
          · have f3 : ((K : Int) == 1) = true := by rw [beq_iff_eq]; omega
            clear k1 k2 k3
            go_wp2_with fail
            refine HC.out.mono ?_
            rintro e w9 ⟨rfl, hb9⟩
            have HB9 := hide hb9
            clear hb9 HC
            go_wp2_with fail
            all_goals first
              | (go_meet; exact ⟨rfl, HB9.out⟩)
              | (go_quiet (fail); go_wp2; (try simp only [Exit.inBlock, Exit.then]); refine bodyPost_ret (results3 rfl _ _ _) rfl ?_; exact ⟨⟨.inr ⟨_, _, rfl, by simp; omega⟩, fun t ht => absurd ht (HVac.out t)⟩, below_drewN HB9.out _⟩)
          · have f3 : ((K : Int) == 1) = false := by rw [beq_eq_false_iff_ne]; omega
            clear k1 k2 k3
            go_wp2_with fail
            refine HC.out.mono ?_
            rintro e w9 ⟨rfl, hb9⟩
            have HB9 := hide hb9
            clear hb9 HC
            go_wp2_with fail
            all_goals first
              | (go_meet; exact ⟨rfl, HB9.out⟩)
              | (go_quiet (fail); go_wp2; (try simp only [Exit.inBlock, Exit.then]); refine bodyPost_ret (results3 rfl _ _ _) rfl ?_; exact ⟨⟨.inr ⟨_, _, rfl, by simp; omega⟩, fun t ht => absurd ht (HVac.out t)⟩, below_drewN HB9.out _⟩)
        · have f2 : ((R : Int) == 65533) = false := by rw [beq_eq_false_iff_ne]; omega
          clear k1 k2
          go_wp2_with fail
          refine HC.out.mono ?_
          rintro e w9 ⟨rfl, hb9⟩
          have HB9 := hide hb9
          clear hb9 HC
          go_wp2_with fail
          all_goals first
            | (go_meet; exact ⟨rfl, HB9.out⟩)
            | (go_quiet (fail); go_wp2; (try simp only [Exit.inBlock, Exit.then]); refine bodyPost_ret (results3 rfl _ _ _) rfl ?_; exact ⟨⟨.inr ⟨_, _, rfl, by simp; omega⟩, fun t ht => absurd ht (HVac.out t)⟩, below_drewN HB9.out _⟩)
      · have f1 : ((1 : Int) + (K : Int) + 1 == (n : Int)) = false := by rw [beq_eq_false_iff_ne]; omega
        clear k1
        go_wp2_with fail
        refine HC.out.mono ?_
        rintro e w9 ⟨rfl, hb9⟩
        have HB9 := hide hb9
        clear hb9 HC
        go_wp2_with fail
        all_goals first
          | (go_meet; exact ⟨rfl, HB9.out⟩)
          | (go_quiet (fail); go_wp2; (try simp only [Exit.inBlock, Exit.then]); refine bodyPost_ret (results3 rfl _ _ _) rfl ?_; exact ⟨⟨.inr ⟨_, _, rfl, by simp; omega⟩, fun t ht => absurd ht (HVac.out t)⟩, below_drewN HB9.out _⟩)
  case rest =>
  obtain ⟨rfl, hbc⟩ := hcut
  have HB3 := hide hbc
  clear hbc
  obtain ⟨i0, hi0, hz0, hz1, hz2⟩ := info_parts u8Info
  obtain ⟨m, hm⟩ : ∃ m : Nat, m = 3 * n / 2 := ⟨_, rfl⟩
  have hmI : 3 * (n : Int) / 2 = (m : Int) := by omega
  have hmT : Int.tdiv (3 * (n : Int)) 2 = (m : Int) := by rw [Int.tdiv_eq_ediv_of_nonneg (by omega)]; exact hmI
  have HM := hide (show m ≤ 1610612736 by omega)
  have HYS : Hid ((z.extract 1 z.size).size + 1 = z.size) := hide (by simp; omega)
  clear hm
  go_wp2_with (at_make; refine wpList_make_own _ rfl _ _ 41 rfl wc.heap.size 5 i0 (.int .u8 0) 1 Tryd.underlying41 hi0 hz0 hz1 _ _ _ m rfl rfl (by omega) ?b2 ?b3 (Nat.le_refl _) ?_)
  case b2 => rw [hz2]; have := HM.out; omega
  case b3 => unfold maxLen; have := HM.out; omega
  intro w4 o4 g4
  have HL4 : Hid (Lq z W0 w4 wc.heap.size (.slice (some ⟨wc.heap.size, 0, none⟩) 0 m) (z.extract 1 z.size) []) := hide ⟨ou_of o4 rfl rfl, HB3.out.trans (((Below.refl _ wc).grown g4 (Nat.le_refl _) (fun k h => by cases h)).mono HB3.out.size), ⟨HB3.out.size, g4.size⟩, by have := HYS.out; simp only [List.length_nil]; omega, by have := HYS.out; omega, fun t ht => absurd ht (HVac.out t)⟩
  clear o4 g4
  go_wp2
  go_loopw [0, 14] (fun iv bv wr => ∃ (y : ByteArray) (xs : List UInt8), iv = .string y ∧ Hid (Lq z W0 wr wc.heap.size bv y xs)) (fun iv _ _ => sizeV iv)
  case atStart => exact ⟨_, _, rfl, HL4.out |> hide⟩
  case round =>
    obtain ⟨y, xs, rfl, HJ⟩ := hrel
    have hys : y.size ≤ 1073741824 := by have := HJ.out.ys; omega
    by_cases hy0 : y.size = 0
    · have hyI : ¬ (0 : Int) < ((y.size : Nat) : Int) := by omega
      have HEr := hide (HEw.out _ HJ.out.bel)
      have hE9 := HEr.out
      go_wp2
      go_quiet (fail)
      go_wp2
      (try simp only [Exit.inBlock, Exit.then])
      refine bodyPost_ret (results3 rfl _ _ _) rfl ?_
      exact ⟨⟨.inl ⟨_, rfl⟩, fun t ht => absurd ht (HVac.out t)⟩, below_drewN HJ.out.bel _⟩
    have hyp : 0 < y.size := by omega
    have hyI : (0 : Int) < ((y.size : Nat) : Int) := by omega
    have hyI1 : (1 : Int) ≤ ((y.size : Nat) : Int) := by omega
    obtain ⟨b, hbb⟩ : ∃ b, bA y 0 = b := ⟨_, rfl⟩
    have hby : ((y[0].toNat : Nat) : Int) = (b : Int) := (bA_int hyp).trans (by rw [hbb])
    by_cases hq : b = 39
    · have hby2 : ((y[0].toNat : Nat) : Int) = 39 := by rw [hby, hq]; rfl
      have HH0 := hide (hbb.trans hq)
      have hcv := conv_own HJ.out.own
      clear hby hbb hq
      go_wp2
      (try go_quiet (fail))
      (try go_wp2)
      (try simp only [Exit.inBlock, Exit.then])
      refine bodyPost_ret (results3 rfl _ _ _) rfl ?_
      refine ⟨⟨.inr ⟨_, _, rfl, HJ.out.size⟩, fun t ht => ?_⟩, by first | exact below_drewN HJ.out.bel _ | exact HJ.out.bel⟩
      exact absurd ht (HVac.out t)
    · have hbe : ((b : Int) == 39) = false := by rw [beq_eq_false_iff_ne]; omega
      have HU := hide (uc_any y 39 (.iface T vE) wr (HEw.out _ HJ.out.bel) (HTw.out _ HJ.out.bel) hys hyp (.inr rfl))
      have HBB9 := hide hbb
      have HNeq := hide hq
      clear hbb hq
      go_wp2_with fail
      refine HU.out.mono ?_
      intro e w5 hUU
      obtain ⟨hU, hb5⟩ := hUU
      have HU5 := hide hU
      have HJ5 := hide (HJ.out.on hb5)
      clear hU hb5
      rcases HU5.out.gen with he | ⟨r, mb, tl, he, hr0, hr1, htl⟩
      · have HER := HVac
        subst he
        unfold ucE
        have hE9 := HEw.out _ HJ5.out.bel
        have hEN := fun X => run_neq_iface_nil (P := Tryd.prog) T vE Tryd.underlying48 X
        by_cases h10 : b = 10
        · have hbt : ((b : Int) == 10) = true := by rw [beq_iff_eq]; omega
          go_wp2
          go_quiet (fail)
          go_wp2
          (try simp only [Exit.inBlock, Exit.then])
          refine bodyPost_ret (results3 rfl _ _ _) rfl ?_
          exact ⟨⟨.inl ⟨_, rfl⟩, fun t ht => absurd ht (HER.out t)⟩, below_drewN HJ5.out.bel _⟩
        · have hbt : ((b : Int) == 10) = false := by rw [beq_eq_false_iff_ne]; omega
          go_wp2
          go_quiet (fail)
          go_wp2
          (try simp only [Exit.inBlock, Exit.then])
          refine bodyPost_ret (results3 rfl _ _ _) rfl ?_
          exact ⟨⟨.inl ⟨_, rfl⟩, fun t ht => absurd ht (HER.out t)⟩, below_drewN HJ5.out.bel _⟩
      · have HSS := hide (fun (bv' : Value) (w6 : World) (ho : Ou w6 wc.heap.size bv' (xs ++ apd r mb)) (hf : Fr wc.heap.size w5 w6) => HJ5.out.step (r := r) (mb := mb) (tl := tl) (E := .iface T vE) (fun t ht => absurd ht (HVac.out t)) (fun t ht => absurd ht (HVac.out t)) htl ho hf)
        have HER := HVac
        have HTL := hide htl
        have HLx : Hid (xs.length + 4 ≤ 140737488355328) := hide (by have := HJ5.out.len; omega)
        subst he
        have hE9 := HEw.out _ HJ5.out.bel
        by_cases h10 : b = 10
        · have hbt : ((b : Int) == 10) = true := by rw [beq_iff_eq]; omega
          have HV10 := hide (HBB9.out.trans h10)
          go_wp2
          go_quiet (fail)
          go_wp2
          (try simp only [Exit.inBlock, Exit.then])
          refine bodyPost_ret (results3 rfl _ _ _) rfl ?_
          exact ⟨⟨.inl ⟨_, rfl⟩, fun t ht => absurd ht (HER.out t)⟩, below_drewN HJ5.out.bel _⟩
        have hbt : ((b : Int) == 10) = false := by rw [beq_eq_false_iff_ne]; omega
        clear h10
        by_cases ht0 : tl.size = 0
        · have htI : ¬ (0 : Int) < ((tl.size : Nat) : Int) := by omega
          by_cases hr : r < 128
          · have HAP : Hid (apd r mb = [UInt8.ofNat (r % 256).toNat]) := hide (by unfold apd; rw [if_pos (.inl hr)])
            go_wp2_with (at_builtin; go_must (refine append_u _ rfl _ _ rfl wc.heap.size _ xs rfl (ou_fr HJ5.out.own) w5.heap.size 1 1 _ [UInt8.ofNat (r % 256).toNat] rfl (heap_new _ _) (by first | exact u8W r | exact u8V r) rfl (by have := HLx.out; omega) (by rw [World.size_alloc]; exact Nat.le_succ_of_le HJ5.out.siz.2) ?_); intro v7 w7 o7 f7; rw [← HAP.out] at o7; have HST := hide (HSS.out v7 w7 o7 (((Fr.refl wc.heap.size w5).alloc HJ5.out.siz.2 _).trans f7)); clear o7 f7; have hcv := conv_own HST.out.own; have hE7 := HEw.out _ HST.out.bel)
            (try go_wp2)
            (try go_quiet (fail))
            (try go_wp2)
            (try simp only [Exit.inBlock, Exit.then])
            refine bodyPost_ret (results3 rfl _ _ _) rfl ?_
            exact ⟨⟨.inl ⟨_, rfl⟩, fun t ht => absurd ht (HVac.out t)⟩, by first | exact below_drewN HST.out.bel _ | exact HST.out.bel⟩
          · cases mb with
            | false =>
              have HAP : Hid (apd r false = [UInt8.ofNat (r % 256).toNat]) := hide (by unfold apd; rw [if_pos (.inr rfl)])
              go_wp2_with (at_builtin; go_must (refine append_u _ rfl _ _ rfl wc.heap.size _ xs rfl (ou_fr HJ5.out.own) w5.heap.size 1 1 _ [UInt8.ofNat (r % 256).toNat] rfl (heap_new _ _) (by first | exact u8W r | exact u8V r) rfl (by have := HLx.out; omega) (by rw [World.size_alloc]; exact Nat.le_succ_of_le HJ5.out.siz.2) ?_); intro v7 w7 o7 f7; rw [← HAP.out] at o7; have HST := hide (HSS.out v7 w7 o7 (((Fr.refl wc.heap.size w5).alloc HJ5.out.siz.2 _).trans f7)); clear o7 f7; have hcv := conv_own HST.out.own; have hE7 := HEw.out _ HST.out.bel)
              (try go_wp2)
              (try go_quiet (fail))
              (try go_wp2)
              (try simp only [Exit.inBlock, Exit.then])
              refine bodyPost_ret (results3 rfl _ _ _) rfl ?_
              exact ⟨⟨.inl ⟨_, rfl⟩, fun t ht => absurd ht (HVac.out t)⟩, by first | exact below_drewN HST.out.bel _ | exact HST.out.bel⟩
            | true =>
              have HAP : Hid (apd r true = Lib.encodeRune r) := hide (by unfold apd; rw [if_neg (fun c => c.elim hr (fun c => by cases c))])
              have HAR := hide (ar_any wc.heap.size u14 xs r w5 hr0 hr1 HJ5.out.own (by have := HLx.out; omega) HJ5.out.siz.2)
              go_wp2_with fail
              refine HAR.out.mono ?_
              rintro e9 w7 ⟨v7, rfl, o7, f7⟩
              rw [← HAP.out] at o7
              have HST := hide (HSS.out v7 w7 o7 f7)
              clear o7 f7
              have hcv := conv_own HST.out.own
              have hE7 := HEw.out _ HST.out.bel
              (try go_wp2)
              (try go_quiet (fail))
              (try go_wp2)
              (try simp only [Exit.inBlock, Exit.then])
              refine bodyPost_ret (results3 rfl _ _ _) rfl ?_
              exact ⟨⟨.inl ⟨_, rfl⟩, fun t ht => absurd ht (HVac.out t)⟩, by first | exact below_drewN HST.out.bel _ | exact HST.out.bel⟩
        have htp : 0 < tl.size := by omega
        have htI : (0 : Int) < ((tl.size : Nat) : Int) := by omega
        have htI1 : (1 : Int) ≤ ((tl.size : Nat) : Int) := by omega
        by_cases hc : bA tl 0 = 39
        · have hct : ((tl[0].toNat : Nat) : Int) = 39 := (bA_int htp).trans (by rw [hc]; rfl)
          by_cases hr : r < 128
          · have HAP : Hid (apd r mb = [UInt8.ofNat (r % 256).toNat]) := hide (by unfold apd; rw [if_pos (.inl hr)])
            go_wp2_with (at_builtin; go_must (refine append_u _ rfl _ _ rfl wc.heap.size _ xs rfl (ou_fr HJ5.out.own) w5.heap.size 1 1 _ [UInt8.ofNat (r % 256).toNat] rfl (heap_new _ _) (by first | exact u8W r | exact u8V r) rfl (by have := HLx.out; omega) (by rw [World.size_alloc]; exact Nat.le_succ_of_le HJ5.out.siz.2) ?_); intro v7 w7 o7 f7; rw [← HAP.out] at o7; have HST := hide (HSS.out v7 w7 o7 (((Fr.refl wc.heap.size w5).alloc HJ5.out.siz.2 _).trans f7)); clear o7 f7; have hcv := conv_own HST.out.own; have hE7 := HEw.out _ HST.out.bel)
            (try go_wp2)
            (try go_quiet (fail))
            (try go_wp2)
            (try simp only [Exit.inBlock, Exit.then])
            refine bodyPost_ret (results3 rfl _ _ _) rfl ?_
            exact ⟨⟨.inr ⟨_, _, rfl, HST.out.size⟩, fun t ht => absurd ht (HVac.out t)⟩, by first | exact below_drewN HST.out.bel _ | exact HST.out.bel⟩
          · cases mb with
            | false =>
              have HAP : Hid (apd r false = [UInt8.ofNat (r % 256).toNat]) := hide (by unfold apd; rw [if_pos (.inr rfl)])
              go_wp2_with (at_builtin; go_must (refine append_u _ rfl _ _ rfl wc.heap.size _ xs rfl (ou_fr HJ5.out.own) w5.heap.size 1 1 _ [UInt8.ofNat (r % 256).toNat] rfl (heap_new _ _) (by first | exact u8W r | exact u8V r) rfl (by have := HLx.out; omega) (by rw [World.size_alloc]; exact Nat.le_succ_of_le HJ5.out.siz.2) ?_); intro v7 w7 o7 f7; rw [← HAP.out] at o7; have HST := hide (HSS.out v7 w7 o7 (((Fr.refl wc.heap.size w5).alloc HJ5.out.siz.2 _).trans f7)); clear o7 f7; have hcv := conv_own HST.out.own; have hE7 := HEw.out _ HST.out.bel)
              (try go_wp2)
              (try go_quiet (fail))
              (try go_wp2)
              (try simp only [Exit.inBlock, Exit.then])
              refine bodyPost_ret (results3 rfl _ _ _) rfl ?_
              exact ⟨⟨.inr ⟨_, _, rfl, HST.out.size⟩, fun t ht => absurd ht (HVac.out t)⟩, by first | exact below_drewN HST.out.bel _ | exact HST.out.bel⟩
            | true =>
              have HAP : Hid (apd r true = Lib.encodeRune r) := hide (by unfold apd; rw [if_neg (fun c => c.elim hr (fun c => by cases c))])
              have HAR := hide (ar_any wc.heap.size u14 xs r w5 hr0 hr1 HJ5.out.own (by have := HLx.out; omega) HJ5.out.siz.2)
              go_wp2_with fail
              refine HAR.out.mono ?_
              rintro e9 w7 ⟨v7, rfl, o7, f7⟩
              rw [← HAP.out] at o7
              have HST := hide (HSS.out v7 w7 o7 f7)
              clear o7 f7
              have hcv := conv_own HST.out.own
              have hE7 := HEw.out _ HST.out.bel
              (try go_wp2)
              (try go_quiet (fail))
              (try go_wp2)
              (try simp only [Exit.inBlock, Exit.then])
              refine bodyPost_ret (results3 rfl _ _ _) rfl ?_
              exact ⟨⟨.inr ⟨_, _, rfl, HST.out.size⟩, fun t ht => absurd ht (HVac.out t)⟩, by first | exact below_drewN HST.out.bel _ | exact HST.out.bel⟩
        · obtain ⟨c, hcc⟩ : ∃ c, bA tl 0 = c := ⟨_, rfl⟩
          have hct : ((tl[0].toNat : Nat) : Int) = (c : Int) := (bA_int htp).trans (by rw [hcc])
          have hcn : ((c : Int) == 39) = false := by rw [beq_eq_false_iff_ne]; omega
          clear hc hcc
          by_cases hr : r < 128
          · have HAP : Hid (apd r mb = [UInt8.ofNat (r % 256).toNat]) := hide (by unfold apd; rw [if_pos (.inl hr)])
            go_wp2_with (at_builtin; go_must (refine append_u _ rfl _ _ rfl wc.heap.size _ xs rfl (ou_fr HJ5.out.own) w5.heap.size 1 1 _ [UInt8.ofNat (r % 256).toNat] rfl (heap_new _ _) (by first | exact u8W r | exact u8V r) rfl (by have := HLx.out; omega) (by rw [World.size_alloc]; exact Nat.le_succ_of_le HJ5.out.siz.2) ?_); intro v7 w7 o7 f7; rw [← HAP.out] at o7; have HST := hide (HSS.out v7 w7 o7 (((Fr.refl wc.heap.size w5).alloc HJ5.out.siz.2 _).trans f7)); clear o7 f7; have hcv := conv_own HST.out.own; have hE7 := HEw.out _ HST.out.bel)
            (try go_wp2)
            (try go_quiet (fail))
            (try go_wp2)
            (try simp only [Exit.inBlock, Exit.then])
            refine bodyPost_ret (results3 rfl _ _ _) rfl ?_
            exact ⟨⟨.inl ⟨_, rfl⟩, fun t ht => absurd ht (HVac.out t)⟩, by first | exact below_drewN HST.out.bel _ | exact HST.out.bel⟩
          · cases mb with
            | false =>
              have HAP : Hid (apd r false = [UInt8.ofNat (r % 256).toNat]) := hide (by unfold apd; rw [if_pos (.inr rfl)])
              go_wp2_with (at_builtin; go_must (refine append_u _ rfl _ _ rfl wc.heap.size _ xs rfl (ou_fr HJ5.out.own) w5.heap.size 1 1 _ [UInt8.ofNat (r % 256).toNat] rfl (heap_new _ _) (by first | exact u8W r | exact u8V r) rfl (by have := HLx.out; omega) (by rw [World.size_alloc]; exact Nat.le_succ_of_le HJ5.out.siz.2) ?_); intro v7 w7 o7 f7; rw [← HAP.out] at o7; have HST := hide (HSS.out v7 w7 o7 (((Fr.refl wc.heap.size w5).alloc HJ5.out.siz.2 _).trans f7)); clear o7 f7; have hcv := conv_own HST.out.own; have hE7 := HEw.out _ HST.out.bel)
              (try go_wp2)
              (try go_quiet (fail))
              (try go_wp2)
              (try simp only [Exit.inBlock, Exit.then])
              refine bodyPost_ret (results3 rfl _ _ _) rfl ?_
              exact ⟨⟨.inl ⟨_, rfl⟩, fun t ht => absurd ht (HVac.out t)⟩, by first | exact below_drewN HST.out.bel _ | exact HST.out.bel⟩
            | true =>
              have HAP : Hid (apd r true = Lib.encodeRune r) := hide (by unfold apd; rw [if_neg (fun c => c.elim hr (fun c => by cases c))])
              have HAR := hide (ar_any wc.heap.size u14 xs r w5 hr0 hr1 HJ5.out.own (by have := HLx.out; omega) HJ5.out.siz.2)
              go_wp2_with fail
              refine HAR.out.mono ?_
              rintro e9 w7 ⟨v7, rfl, o7, f7⟩
              rw [← HAP.out] at o7
              have HST := hide (HSS.out v7 w7 o7 f7)
              clear o7 f7
              have hcv := conv_own HST.out.own
              have hE7 := HEw.out _ HST.out.bel
              (try go_wp2)
              (try go_quiet (fail))
              (try go_wp2)
              (try simp only [Exit.inBlock, Exit.then])
              refine bodyPost_ret (results3 rfl _ _ _) rfl ?_
              exact ⟨⟨.inl ⟨_, rfl⟩, fun t ht => absurd ht (HVac.out t)⟩, by first | exact below_drewN HST.out.bel _ | exact HST.out.bel⟩
end Go.Proofs.YtpnacioliccglaaDoor
