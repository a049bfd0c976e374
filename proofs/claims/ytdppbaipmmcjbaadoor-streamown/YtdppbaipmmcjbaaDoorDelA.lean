/-
  stackMayBe, stateMayBe, behind, putFault.
-/
import Derived.Test.YtdppbaipmmcjbaaDoorEvt
import Derived.Test.YtdppbaipmmcjbaaDoorDelM
namespace Go.Proofs.YtdppbaipmmcjbaaDoor
open Go.RowKit
theorem sm_any (K : Int) (w : World) : Calls Tryd.prog 69 #[.int .i64 K] w fun e w' => e = .returned (.bool (stkB K)) ∧ w' = w := by
  by_cases h1 : 0 ≤ K
  · by_cases h2 : K ≤ 262144
    · have e : stkB K = true := decide_eq_true ⟨h1, h2⟩
      rw [e]
      go_enter Tryd.func69, Tryd.ntmps69
      go_wp2
      go_ret
      exact ⟨rfl, rfl⟩
    · have e : stkB K = false := decide_eq_false (by omega)
      rw [e]
      go_enter Tryd.func69, Tryd.ntmps69
      go_wp2
      go_ret
      exact ⟨rfl, rfl⟩
  · have e : stkB K = false := decide_eq_false (by omega)
    rw [e]
    go_enter Tryd.func69, Tryd.ntmps69
    go_wp2
    go_ret
    exact ⟨rfl, rfl⟩
theorem mayS_parts (S K : Int) : mayS S K = (decide (0 ≤ S ∧ S ≤ 1048576) && stkB K) := by
  unfold mayS stkB
  rw [Bool.eq_iff_iff]; simp only [Bool.and_eq_true, decide_eq_true_eq]; omega
theorem below_alloc1 (w : World) (o : Obj) : Below w.heap.size w (w.alloc o) := (Below.refl _ w).alloc (Nat.le_refl _) o
theorem st_any (S O K : Int) (w : World) : Calls Tryd.prog 54 #[.agg #[.int .i64 S, .int .u64 O, .int .i64 K]] w fun e w' => e = .returned (.bool (mayS S K)) ∧ Below w.heap.size w w' := by
  have HE : Hid _ := hide (mayS_parts S K)
  generalize mayS S K = R at HE ⊢
  have hm := sm_any K
  generalize stkB K = Q at HE hm
  by_cases h1 : 0 ≤ S
  · by_cases h2 : S ≤ 1048576
    · have HR : Hid (R = Q) := hide (by rw [HE.out, decide_eq_true ⟨h1, h2⟩]; rfl)
      clear HE
      go_enter Tryd.func54, Tryd.ntmps54
      go_wp2_with fail
      refine (hm _).mono ?_
      rintro e w' ⟨rfl, rfl⟩
      go_wp2
      go_ret
      exact ⟨ret_bool HR.out.symm, below_alloc1 _ _⟩
    · have HR : Hid (R = false) := hide (by rw [HE.out, decide_eq_false (by omega)]; rfl)
      clear HE
      go_enter Tryd.func54, Tryd.ntmps54
      go_wp2
      go_ret
      exact ⟨ret_bool HR.out.symm, below_alloc1 _ _⟩
  · have HR : Hid (R = false) := hide (by rw [HE.out, decide_eq_false (by omega)]; rfl)
    clear HE
    go_enter Tryd.func54, Tryd.ntmps54
    go_wp2
    go_ret
    exact ⟨ret_bool HR.out.symm, below_alloc1 _ _⟩
theorem below_alloc2 (w : World) (o p : Obj) : Below w.heap.size w ((w.alloc o).alloc p) := (below_alloc1 w o).alloc (by simp) p
theorem bh_any (t k o a q : Int) (w : World) (h0 : 0 ≤ t) (h1 : t ≤ 1048576) : Calls Tryd.prog 56 #[.agg #[.int .i64 t, .int .i64 k, .int .u64 o, .int .u64 a, .int .i64 q]] w fun e w' => e = .returned (.agg #[.int .i64 (t + 1), .int .u64 o, .int .i64 q]) ∧ Below w.heap.size w w' := by
  go_enter Tryd.func56, Tryd.ntmps56
  go_wp2
  refine bodyPost_ret (v := .agg #[.int .i64 (t + 1), .int .u64 o, .int .i64 q]) (by simp [results, Tryd.results56, go_sem]) rfl ⟨rfl, below_alloc2 _ _ _⟩
theorem rbh_any (t k o a q : Int) (w : World) (h0 : 0 ≤ t) (h1 : t ≤ 1048576) : Calls Tryd.prog 61 #[.agg #[.int .i64 t, .int .i64 k, .int .u64 o, .int .u64 a, .int .i64 q]] w fun e w' => e = .returned (.agg #[.int .i64 (t + 1), .int .u64 o, .int .i64 q]) ∧ Below w.heap.size w w' := by
  go_enter Tryd.func61, Tryd.ntmps61
  go_wp2
  refine bodyPost_ret (v := .agg #[.int .i64 (t + 1), .int .u64 o, .int .i64 q]) (by simp [results, Tryd.results61, go_sem]) rfl ⟨rfl, below_alloc2 _ _ _⟩
theorem rst_any (S O K : Int) (w : World) : Calls Tryd.prog 57 #[.agg #[.int .i64 S, .int .u64 O, .int .i64 K]] w fun e w' => e = .returned (.bool (mayS S K)) ∧ Below w.heap.size w w' := by
  by_cases h1 : 0 ≤ S
  · by_cases h2 : S ≤ 1048576
    · by_cases h3 : 0 ≤ K
      · by_cases h4 : K ≤ 262144
        · have HR : Hid (mayS S K = true) := hide (decide_eq_true ⟨h1, h2, h3, h4⟩)
          go_enter Tryd.func57, Tryd.ntmps57
          go_wp2
          go_ret
          exact ⟨ret_bool HR.out.symm, below_alloc1 _ _⟩
        · have HR : Hid (mayS S K = false) := hide (decide_eq_false (by omega))
          go_enter Tryd.func57, Tryd.ntmps57
          go_wp2
          go_ret
          exact ⟨ret_bool HR.out.symm, below_alloc1 _ _⟩
      · have HR : Hid (mayS S K = false) := hide (decide_eq_false (by omega))
        go_enter Tryd.func57, Tryd.ntmps57
        go_wp2
        go_ret
        exact ⟨ret_bool HR.out.symm, below_alloc1 _ _⟩
    · have HR : Hid (mayS S K = false) := hide (decide_eq_false (by omega))
      go_enter Tryd.func57, Tryd.ntmps57
      go_wp2
      go_ret
      exact ⟨ret_bool HR.out.symm, below_alloc1 _ _⟩
  · have HR : Hid (mayS S K = false) := hide (decide_eq_false (by omega))
    go_enter Tryd.func57, Tryd.ntmps57
    go_wp2
    go_ret
    exact ⟨ret_bool HR.out.symm, below_alloc1 _ _⟩
/-! ### putFault -/
theorem putE_state {s : St} {r : Rc} (h : mayS s.stamp s.stack = false) : putE s r = 71 := by unfold putE; rw [if_pos h]
theorem putE_kind {s : St} {r : Rc} (h : mayS s.stamp s.stack = true) (hk : ¬ (1 ≤ r.kind ∧ r.kind ≤ 22)) : putE s r = 60 := by unfold putE; rw [if_neg (by simp [h]), if_pos hk]
theorem putE_stamp {s : St} {r : Rc} (h : mayS s.stamp s.stack = true) (hk : 1 ≤ r.kind ∧ r.kind ≤ 22) (ht : r.stamp < s.stamp ∨ 1048576 ≤ r.stamp) : putE s r = 70 := by
  unfold putE; rw [if_neg (by simp [h]), if_neg (by simp [hk]), if_pos ht]
theorem putE_last {s : St} {r : Rc} (h : mayS s.stamp s.stack = true) (hk : 1 ≤ r.kind ∧ r.kind ≤ 22) (ht : ¬ (r.stamp < s.stamp ∨ 1048576 ≤ r.stamp)) : putE s r = if stkB r.stack then 0 else 71 := by
  unfold putE; rw [if_neg (by simp [h]), if_neg (by simp [hk]), if_neg ht]; cases stkB r.stack <;> rfl
theorem pf_any (S O K t k o a q : Int) (w : World) (hK : Kn w) (hw : 0 < w.heap.size) : Calls Tryd.prog 62 #[.agg #[.int .i64 S, .int .u64 O, .int .i64 K], .agg #[.int .i64 t, .int .i64 k, .int .u64 o, .int .u64 a, .int .i64 q]] w fun e w' => e = .returned (.int .i64 (putE ⟨S, O, K⟩ ⟨t, k, o, a, q⟩)) ∧ Below w.heap.size w w' := by
  have HS := st_any S O K
  have E1 : Hid _ := hide (fun h => putE_state (s := ⟨S, O, K⟩) (r := ⟨t, k, o, a, q⟩) h)
  have E2 : Hid _ := hide (fun h => putE_kind (s := ⟨S, O, K⟩) (r := ⟨t, k, o, a, q⟩) h)
  have E3 : Hid _ := hide (fun h => putE_stamp (s := ⟨S, O, K⟩) (r := ⟨t, k, o, a, q⟩) h)
  have E4 : Hid _ := hide (fun h => putE_last (s := ⟨S, O, K⟩) (r := ⟨t, k, o, a, q⟩) h)
  generalize putE ⟨S, O, K⟩ ⟨t, k, o, a, q⟩ = R at E1 E2 E3 E4 ⊢
  dsimp only at E1 E2 E3 E4
  obtain ⟨W, hW⟩ : ∃ W, W = (w.alloc (.cells #[.int .i64 S, .int .u64 O, .int .i64 K] 69)).alloc (.cells #[.int .i64 t, .int .i64 k, .int .u64 o, .int .u64 a, .int .i64 q] 48) := ⟨_, rfl⟩
  have hb : Below w.heap.size w W := by rw [hW]; exact below_alloc2 _ _ _
  have hsz : W.heap.size = w.heap.size + 2 := by rw [hW]; simp
  have s0 : W.cell? ⟨w.heap.size, 0, none⟩ = some (.int .i64 S) := by rw [hW]; go_simp
  have t0 : W.cell? ⟨w.heap.size + 1, 0, none⟩ = some (.int .i64 t) := by rw [hW]; go_simp
  have t1 : W.cell? ⟨w.heap.size + 1, 1, none⟩ = some (.int .i64 k) := by rw [hW]; go_simp
  have t4 : W.cell? ⟨w.heap.size + 1, 4, none⟩ = some (.int .i64 q) := by rw [hW]; go_simp
  have hN : ∀ W', Below W.heap.size W W' → Kn W' := fun W' h => (hK.below hb hw).below h (by omega)
  have HN : Hid _ := hide hN
  clear hN
  cases hm : mayS S K
  · have HR : Hid (R = 71) := hide (E1.out hm)
    rw [hm] at HS
    clear E1 E2 E3 E4 hm
    go_enter Tryd.func62, Tryd.ntmps62
    go_wp2_with fail
    rw [← hW]
    refine (HS _).mono ?_
    rintro e w1 ⟨rfl, hb1⟩
    go_wp2
    go_ret
    exact ⟨ret_int HR.out.symm, Below.on hb hb1⟩
  · rw [hm] at HS
    by_cases hk : 1 ≤ k ∧ k ≤ 22
    · have HNm : Hid (nameV k = .tuple #[.string (kname k.toNat), .int .i64 0]) := hide (by rw [nameV, if_pos hk])
      by_cases ht : t < S ∨ 1048576 ≤ t
      · have HR : Hid (R = 70) := hide (E3.out hm hk ht)
        clear E1 E2 E3 E4 hm
        have hk' := hide hk
        clear hk
        by_cases ht1 : t < S
        · clear ht
          go_enter Tryd.func62, Tryd.ntmps62
          go_wp2_with fail
          rw [← hW]
          refine (HS _).mono ?_
          rintro e w1 ⟨rfl, hb1⟩
          have c1 := (hb1.cell (p := ⟨w.heap.size + 1, 1, none⟩) (by simp; omega)).trans t1
          have c0 := (hb1.cell (p := ⟨w.heap.size + 1, 0, none⟩) (by simp; omega)).trans t0
          have d0 := (hb1.cell (p := ⟨w.heap.size, 0, none⟩) (by simp; omega)).trans s0
          go_wp2_with fail
          refine (name_any k w1 (HN.out _ hb1)).mono ?_
          rw [HNm.out]
          rintro e w2 ⟨rfl, rfl⟩
          go_wp2
          go_ret
          exact ⟨ret_int HR.out.symm, Below.on hb hb1⟩
        · have ht2 : 1048576 ≤ t := by omega
          clear ht
          go_enter Tryd.func62, Tryd.ntmps62
          go_wp2_with fail
          rw [← hW]
          refine (HS _).mono ?_
          rintro e w1 ⟨rfl, hb1⟩
          have c1 := (hb1.cell (p := ⟨w.heap.size + 1, 1, none⟩) (by simp; omega)).trans t1
          have c0 := (hb1.cell (p := ⟨w.heap.size + 1, 0, none⟩) (by simp; omega)).trans t0
          have d0 := (hb1.cell (p := ⟨w.heap.size, 0, none⟩) (by simp; omega)).trans s0
          go_wp2_with fail
          refine (name_any k w1 (HN.out _ hb1)).mono ?_
          rw [HNm.out]
          rintro e w2 ⟨rfl, rfl⟩
          go_wp2
          go_ret
          exact ⟨ret_int HR.out.symm, Below.on hb hb1⟩
      · have HR : Hid (R = if stkB q then 0 else 71) := hide (E4.out hm hk ht)
        have ht1 : ¬ t < S := by omega
        have ht2 : ¬ 1048576 ≤ t := by omega
        clear E1 E2 E3 E4 hm ht
        have hk' := hide hk
        clear hk
        have HM := sm_any q
        cases hq : stkB q
        · have HR2 : Hid (R = 71) := hide (by rw [HR.out, hq]; rfl)
          rw [hq] at HM
          clear HR hq
          go_enter Tryd.func62, Tryd.ntmps62
          go_wp2_with fail
          rw [← hW]
          refine (HS _).mono ?_
          rintro e w1 ⟨rfl, hb1⟩
          have c1 := (hb1.cell (p := ⟨w.heap.size + 1, 1, none⟩) (by simp; omega)).trans t1
          have c0 := (hb1.cell (p := ⟨w.heap.size + 1, 0, none⟩) (by simp; omega)).trans t0
          have c4 := (hb1.cell (p := ⟨w.heap.size + 1, 4, none⟩) (by simp; omega)).trans t4
          have d0 := (hb1.cell (p := ⟨w.heap.size, 0, none⟩) (by simp; omega)).trans s0
          go_wp2_with fail
          refine (name_any k w1 (HN.out _ hb1)).mono ?_
          rw [HNm.out]
          rintro e w2 ⟨rfl, rfl⟩
          go_wp2_with fail
          refine (HM _).mono ?_
          rintro e w3 ⟨rfl, rfl⟩
          go_wp2
          go_ret
          exact ⟨ret_int HR2.out.symm, Below.on hb hb1⟩
        · have HR2 : Hid (R = 0) := hide (by rw [HR.out, hq]; rfl)
          rw [hq] at HM
          clear HR hq
          go_enter Tryd.func62, Tryd.ntmps62
          go_wp2_with fail
          rw [← hW]
          refine (HS _).mono ?_
          rintro e w1 ⟨rfl, hb1⟩
          have c1 := (hb1.cell (p := ⟨w.heap.size + 1, 1, none⟩) (by simp; omega)).trans t1
          have c0 := (hb1.cell (p := ⟨w.heap.size + 1, 0, none⟩) (by simp; omega)).trans t0
          have c4 := (hb1.cell (p := ⟨w.heap.size + 1, 4, none⟩) (by simp; omega)).trans t4
          have d0 := (hb1.cell (p := ⟨w.heap.size, 0, none⟩) (by simp; omega)).trans s0
          go_wp2_with fail
          refine (name_any k w1 (HN.out _ hb1)).mono ?_
          rw [HNm.out]
          rintro e w2 ⟨rfl, rfl⟩
          go_wp2_with fail
          refine (HM _).mono ?_
          rintro e w3 ⟨rfl, rfl⟩
          go_wp2
          go_ret
          exact ⟨ret_int HR2.out.symm, Below.on hb hb1⟩
    · have HNm : Hid (nameV k = .tuple #[.string ByteArray.empty, .int .i64 60]) := hide (by rw [nameV, if_neg hk])
      have HR : Hid (R = 60) := hide (E2.out hm hk)
      clear E1 E2 E3 E4 hm
      have hk' := hide hk
      clear hk
      go_enter Tryd.func62, Tryd.ntmps62
      go_wp2_with fail
      rw [← hW]
      refine (HS _).mono ?_
      rintro e w1 ⟨rfl, hb1⟩
      have c1 := (hb1.cell (p := ⟨w.heap.size + 1, 1, none⟩) (by simp; omega)).trans t1
      go_wp2_with fail
      refine (name_any k w1 (HN.out _ hb1)).mono ?_
      rw [HNm.out]
      rintro e w2 ⟨rfl, rfl⟩
      go_wp2
      go_ret
      exact ⟨ret_int HR.out.symm, Below.on hb hb1⟩
end Go.Proofs.YtdppbaipmmcjbaaDoor
