/-
  ReportGlobs.
-/
import Derived.Test.YtnengkdddckjaaaDoorGlF
namespace Go.Proofs.YtnengkdddckjaaaDoor
open Go.RowKit Go.Maps
set_option linter.unusedVariables false
theorem gl_self : ∀ p : List UInt8, gl p p
  | [] => rfl
  | c :: p => by
    by_cases hc : c = 42
    · subst hc
      exact (gl_star _ _).2 ⟨[42], p, rfl, gl_self p⟩
    · exact (gl_byte _ _ _ hc).2 ⟨p, rfl, gl_self p⟩
/-- Can a text be cut for two patterns, within its first j places? -/
noncomputable def cutB (A B T : List UInt8) (j : Nat) : Bool := (List.range j).any fun k => glB A (T.take k) && glB B (T.drop k)
theorem cutB_succ (A B T : List UInt8) (j : Nat) : cutB A B T (j + 1) = (cutB A B T j || (glB A (T.take j) && glB B (T.drop j))) := by
  unfold cutB
  rw [List.range_succ, List.any_append]
  simp
theorem cutB_all (A B T : List UInt8) : cutB A B T (T.length + 1) = glB (A ++ B) T := by
  symm
  refine glB_of ?_
  rw [gl_app]
  unfold cutB
  rw [List.any_eq_true]
  constructor
  · rintro ⟨u, v, rfl, hu, hv⟩
    refine ⟨u.length, by simp; omega, ?_⟩
    rw [Bool.and_eq_true, glB_iff, glB_iff, List.take_left, List.drop_left]
    exact ⟨hu, hv⟩
  · rintro ⟨k, _, h⟩
    rw [Bool.and_eq_true, glB_iff, glB_iff] at h
    exact ⟨T.take k, T.drop k, (List.take_append_drop k T).symm, h.1, h.2⟩
theorem gl_one (T : List UInt8) : glB [42] T = true := (glB_iff _ _).2 ((gl_star _ _).2 ⟨T, [], by simp, rfl⟩)
theorem gl_two (A B T : List UInt8) : glB (A ++ [42, 42] ++ B) T = glB (A ++ [42] ++ B) T := by
  refine glB_eq ?_
  rw [List.append_assoc, List.append_assoc, gl_app, gl_app]
  constructor
  · rintro ⟨u, v, h, hu, hv⟩
    exact ⟨u, v, h, hu, (gl_star2 B v).1 hv⟩
  · rintro ⟨u, v, h, hu, hv⟩
    exact ⟨u, v, h, hu, (gl_star2 B v).2 hv⟩
theorem gl_end (T : List UInt8) (k : Nat) : glB (42 :: T.drop k) T = true := (glB_iff _ _).2 ((gl_star _ _).2 ⟨T.take k, T.drop k, (List.take_append_drop k T).symm, gl_self _⟩)
theorem gl_beg (T : List UInt8) (k : Nat) : glB (T.take k ++ [42]) T = true := (glB_iff _ _).2 ((gl_snoc_star _ _).2 ⟨T.take k, T.drop k, (List.take_append_drop k T).symm, gl_self _⟩)
theorem gl_all (T : List UInt8) : glB (T ++ [42]) T = true := by
  have h := gl_beg T T.length
  rw [List.take_length] at h
  exact h
theorem pat_one {t : ByteArray} : glB (⟨#[42]⟩ : ByteArray).data.toList t.data.toList = true := gl_one _
theorem pat_end (t : ByteArray) : glB (t ++ ⟨#[42]⟩ : ByteArray).data.toList t.data.toList = true := by
  rw [ByteArray.data_append, Array.toList_append]
  exact gl_all _
theorem pat_mid1 (t : ByteArray) (k : Nat) : glB (⟨#[42]⟩ ++ t.extract k t.size : ByteArray).data.toList t.data.toList = true := by
  have e2 : (t.extract k t.size).data.toList = t.data.toList.drop k := by
    rw [Lib.extract_data, List.take_of_length_le]
    rw [List.length_drop, ← Lib.size_eq]
    exact Nat.le_refl _
  rw [ByteArray.data_append, Array.toList_append, e2]
  exact gl_end _ k
theorem pat_mid2 (t : ByteArray) (k : Nat) : glB (t.extract 0 k ++ ⟨#[42]⟩ : ByteArray).data.toList t.data.toList = true := by
  have e1 : (t.extract 0 k).data.toList = t.data.toList.take k := by rw [Lib.extract_data]; simp
  rw [ByteArray.data_append, Array.toList_append, e1]
  exact gl_beg _ k
theorem sz_end (t : ByteArray) (h : t.size ≤ 2097152) : (t ++ ⟨#[42]⟩ : ByteArray).size ≤ 1073741824 := by
  rw [ByteArray.size_append]
  have : (⟨#[42]⟩ : ByteArray).size = 1 := rfl
  omega
theorem sz_mid1 (t : ByteArray) (k : Nat) (h : t.size ≤ 2097152) : (⟨#[42]⟩ ++ t.extract k t.size : ByteArray).size ≤ 1073741824 := by
  rw [ByteArray.size_append, ByteArray.size_extract]
  have : (⟨#[42]⟩ : ByteArray).size = 1 := rfl
  omega
theorem sz_mid2 (t : ByteArray) (k : Nat) (h : t.size ≤ 2097152) : (t.extract 0 k ++ ⟨#[42]⟩ : ByteArray).size ≤ 1073741824 := by
  rw [ByteArray.size_append, ByteArray.size_extract]
  have : (⟨#[42]⟩ : ByteArray).size = 1 := rfl
  omega
set_option maxRecDepth 8000 in
set_option maxHeartbeats 4000000 in
theorem globs_any (a b t : ByteArray) (at9 : Int) (w : World) (hm : Mx w) (ha : a.size ≤ 2097152) (hb : b.size ≤ 2097152) (ht : t.size ≤ 2097152) :
    Calls Tryd.prog 4 #[.string a, .string b, .string t, .int .i64 at9] w fun e w' => e = .returned (.bool true) ∧ Below w.heap.size w w' := by
  have HAw := hide (awake_any w hm)
  have HM := hide hm
  have HZ := hide (And.intro ha (And.intro hb ht))
  have htI : ((t.size : Nat) : Int) ≤ 2097152 := by omega
  clear hm ha hb ht
  go_enter Tryd.func4, Tryd.ntmps4
  go_wp2_with fail
  refine HAw.out.mono ?_
  rintro e9 w1 ⟨rfl, hb1⟩
  have HMa := hide (fun (P T : ByteArray) (m : Nat) (hp : P.size ≤ 1073741824) (ht : T.size ≤ 1073741824) => match_any P T (w1.drewN m) ((HM.out.below hb1).drew m) hp ht)
  have HB1 := hide hb1
  clear hb1 HAw
  go_wp2_with fail
  go_loopw [9, 10] (fun cv kv wr => ∃ (j m : Nat) (c : Bool), j ≤ t.size + 1 ∧ kv = .int .i64 j ∧ cv = .bool c ∧ wr = w1.drewN m ∧ Hid (c = cutB a.data.toList b.data.toList t.data.toList j)) (fun _ kv _ => t.size + 1 - (intOf kv).toNat)
  case atStart => exact ⟨0, 0, false, Nat.zero_le _, rfl, rfl, rfl, hide rfl⟩
  case round =>
    obtain ⟨j, m, c, hj, rfl, rfl, rfl, HC⟩ := hrel
    by_cases hlt : j ≤ t.size
    · have hjI : (j : Int) ≤ ((t.size : Nat) : Int) := by omega
      have hj0 : (0 : Int) ≤ (j : Int) := by omega
      have e1 : (t.extract 0 j).data.toList = t.data.toList.take j := by rw [Lib.extract_data]; simp
      have e2 : (t.extract j t.size).data.toList = t.data.toList.drop j := by
        rw [Lib.extract_data, List.take_of_length_le]
        rw [List.length_drop, ← Lib.size_eq]
        exact Nat.le_refl _
      have z1 : (t.extract 0 j).size ≤ 1073741824 := by have := HZ.out; rw [ByteArray.size_extract]; omega
      have z2 : (t.extract j t.size).size ≤ 1073741824 := by have := HZ.out; rw [ByteArray.size_extract]; omega
      have HC1 := HMa.out a (t.extract 0 j) m (by have := HZ.out; omega) z1
      have HC2 := hide (fun n => HMa.out b (t.extract j t.size) n (by have := HZ.out; omega) z2)
      rw [e1] at HC1
      rw [e2] at HC2
      have HC1 := hide HC1
      have HX := hide (cutB_succ a.data.toList b.data.toList t.data.toList j)
      rw [← HC.out] at HX
      generalize glB a.data.toList (t.data.toList.take j) = A1 at HC1 HX
      generalize glB b.data.toList (t.data.toList.drop j) = B1 at HC2 HX
      have HLt := hide hlt
      clear e1 e2 z1 z2
      go_wp2_with fail
      refine HC1.out.mono ?_
      rintro e9 X1 ⟨rfl, n1, rfl⟩
      cases A1 with
      | false =>
        go_wp2_with fail
        have hlt := HLt.out
        exact ⟨⟨j + 1, m + n1, c, by omega, by go_num, rfl, by simp, hide (by rw [HX.out]; simp)⟩, by simp [intOf]; omega⟩
      | true =>
        go_wp2_with fail
        refine (HC2.out (m + n1)).mono ?_
        rintro e9 X1 ⟨rfl, n2, rfl⟩
        cases B1 with
        | false =>
          go_wp2
          have hlt := HLt.out
          exact ⟨⟨j + 1, m + n1 + n2, c, by omega, by go_num, rfl, by simp, hide (by rw [HX.out]; simp)⟩, by simp [intOf]; omega⟩
        | true =>
          go_wp2
          have hlt := HLt.out
          exact ⟨⟨j + 1, m + n1 + n2, true, by omega, by go_num, rfl, by simp, hide (by rw [HX.out]; simp)⟩, by simp [intOf]; omega⟩
    · have hj9 : j = t.size + 1 := by omega
      have hjI : ¬ (j : Int) ≤ ((t.size : Nat) : Int) := by omega
      have HR : Hid (c = glB (a.data.toList ++ b.data.toList) t.data.toList) := hide (by
        rw [HC.out, hj9, Lib.size_eq, cutB_all])
      clear hlt hj9 hj HC
      have hs1 : ¬ 9223372036854775807 < a.size + b.size := by have := HZ.out; omega
      have hs2 : ¬ 9223372036854775807 < a.size + 2 := by have := HZ.out; omega
      have hs3 : ¬ 9223372036854775807 < a.size + 2 + b.size := by have := HZ.out; omega
      have hs4 : ¬ 9223372036854775807 < a.size + 1 := by have := HZ.out; omega
      have hs5 : ¬ 9223372036854775807 < a.size + 1 + b.size := by have := HZ.out; omega
      have HC1 : Hid (Calls Tryd.prog 5 #[.string (a ++ b), .string t] (w1.drewN m) fun e w' => e = .returned (.bool c) ∧ ∃ n, w' = (w1.drewN m).drewN n) := hide (by
        have h9 := HMa.out (a ++ b) t m (by rw [ByteArray.size_append]; have := HZ.out; omega) (by have := HZ.out; omega)
        rw [ByteArray.data_append, Array.toList_append, ← HR.out] at h9
        exact h9)
      have HC2 : Hid (∀ m, Calls Tryd.prog 5 #[.string ⟨#[42]⟩, .string t] (w1.drewN m) fun e w' => e = .returned (.bool true) ∧ ∃ n, w' = (w1.drewN m).drewN n) := hide (fun m => by
        have h9 := HMa.out ⟨#[42]⟩ t m (by decide) (by have := HZ.out; omega)
        rw [show (⟨#[42]⟩ : ByteArray).data.toList = [42] from rfl, gl_one] at h9
        exact h9)
      obtain ⟨D, hD⟩ : ∃ D, glB (a.data.toList ++ [42] ++ b.data.toList) t.data.toList = D := ⟨_, rfl⟩
      have HC3 : Hid (∀ m, Calls Tryd.prog 5 #[.string (a ++ ⟨#[42, 42]⟩ ++ b), .string t] (w1.drewN m) fun e w' => e = .returned (.bool D) ∧ ∃ n, w' = (w1.drewN m).drewN n) := hide (fun m => by
        have h9 := HMa.out (a ++ ⟨#[42, 42]⟩ ++ b) t m (by rw [ByteArray.size_append, ByteArray.size_append, show (⟨#[42, 42]⟩ : ByteArray).size = 2 from rfl]; have := HZ.out; omega) (by have := HZ.out; omega)
        rw [ByteArray.data_append, Array.toList_append, ByteArray.data_append, Array.toList_append, gl_two, hD] at h9
        exact h9)
      have HC4 : Hid (∀ m, Calls Tryd.prog 5 #[.string (a ++ ⟨#[42]⟩ ++ b), .string t] (w1.drewN m) fun e w' => e = .returned (.bool D) ∧ ∃ n, w' = (w1.drewN m).drewN n) := hide (fun m => by
        have h9 := HMa.out (a ++ ⟨#[42]⟩ ++ b) t m (by rw [ByteArray.size_append, ByteArray.size_append, show (⟨#[42]⟩ : ByteArray).size = 1 from rfl]; have := HZ.out; omega) (by have := HZ.out; omega)
        rw [ByteArray.data_append, Array.toList_append, ByteArray.data_append, Array.toList_append, hD] at h9
        exact h9)
      have hcc : (c != c) = false := by simp
      have hDD : (D != D) = false := by simp
      clear hD HR
      go_wp2_with fail
      refine HC1.out.mono ?_
      rintro e9 X1 ⟨rfl, n1, rfl⟩
      clear HC1
      go_wp2_with fail
      refine (HC2.out (m + n1)).mono ?_
      rintro e9 X1 ⟨rfl, n2, rfl⟩
      clear HC2
      go_wp2_with fail
      refine (HC3.out (m + n1 + n2)).mono ?_
      rintro e9 X1 ⟨rfl, n3, rfl⟩
      clear HC3
      go_wp2_with fail
      refine (HC4.out (m + n1 + n2 + n3)).mono ?_
      rintro e9 X1 ⟨rfl, n4, rfl⟩
      clear HC4
      go_wp2_with fail
      obtain ⟨m5, hm5⟩ : ∃ m5, m + n1 + n2 + n3 + n4 = m5 := ⟨_, rfl⟩
      rw [hm5]
      clear hm5 hs1 hs2 hs3 hs4 hs5 hcc hDD
      have HPl := hide (plain_any a (w1.drewN m5) (by have := HZ.out; omega))
      have HPt : Hid (plB a = true → glB a.data.toList t.data.toList = (a.toList == t.toList)) := hide (fun h => by
        unfold plB at h
        refine glB_of ?_
        rw [gl_plain _ _ (of_decide_eq_true h), beq_iff_eq, Lib.toList_data, Lib.toList_data]
        exact eq_comm)
      generalize plB a = pl at HPl HPt
      refine HPl.out.mono ?_
      rintro e9 X1 ⟨rfl, rfl⟩
      clear HPl
      have HMb : Hid (∀ (P : ByteArray) (m : Nat), P.size ≤ 1073741824 → glB P.data.toList t.data.toList = true → Calls Tryd.prog 5 #[.string P, .string t] (w1.drewN m) fun e w' => e = .returned (.bool true) ∧ ∃ n, w' = (w1.drewN m).drewN n) := hide (fun P m hP hg => by
        have h9 := HMa.out P t m hP (by have := HZ.out; omega)
        rw [hg] at h9
        exact h9)
      have HC6 : Hid (∀ m : Nat, Calls Tryd.prog 5 #[.string ⟨#[]⟩, .string t] (w1.drewN m) fun e w' => e = .returned (.bool (t.toList == [])) ∧ ∃ n, w' = (w1.drewN m).drewN n) := hide (fun m => by
        have h9 := HMa.out ⟨#[]⟩ t m (by decide) (by have := HZ.out; omega)
        rw [show glB (⟨#[]⟩ : ByteArray).data.toList t.data.toList = (t.toList == []) from by
          rw [show (⟨#[]⟩ : ByteArray).data.toList = [] from rfl, glB_nil, Lib.toList_data, Bool.eq_iff_iff, decide_eq_true_iff, beq_iff_eq]] at h9
        exact h9)
      cases pl with
      | false =>
        obtain ⟨mb, hmb⟩ : ∃ mb, mb = m5 := ⟨_, rfl⟩
        rw [← hmb]
        clear hmb
        rcases Int.lt_or_le at9 0 with hat | hat
        · go_wp2_with fail
          refine (HMb.out ⟨#[42]⟩ mb (by decide) pat_one).mono ?_
          rintro e9 X1 ⟨rfl, n6, rfl⟩
          go_wp2_with fail
          refine (HMb.out (t ++ ⟨#[42]⟩) (mb + n6) (sz_end t HZ.out.2.2) (pat_end t)).mono ?_
          rintro e9 X1 ⟨rfl, n7, rfl⟩
          go_wp2_with fail
          refine (HC6.out (mb + n6 + n7)).mono ?_
          rintro e9 X1 ⟨rfl, n8, rfl⟩
          go_wp2_with fail
          go_ret
          exact ⟨rfl, Below.on HB1.out (below_drewN (Below.refl _ _) _)⟩
        · rcases Int.lt_or_le ((t.size : Nat) : Int) at9 with hat2 | hat2
          · go_wp2_with fail
            refine (HMb.out ⟨#[42]⟩ mb (by decide) pat_one).mono ?_
            rintro e9 X1 ⟨rfl, n6, rfl⟩
            go_wp2_with fail
            refine (HMb.out (t ++ ⟨#[42]⟩) (mb + n6) (sz_end t HZ.out.2.2) (pat_end t)).mono ?_
            rintro e9 X1 ⟨rfl, n7, rfl⟩
            go_wp2_with fail
            refine (HC6.out (mb + n6 + n7)).mono ?_
            rintro e9 X1 ⟨rfl, n8, rfl⟩
            go_wp2_with fail
            go_ret
            exact ⟨rfl, Below.on HB1.out (below_drewN (Below.refl _ _) _)⟩
          · obtain ⟨k, hk⟩ : ∃ k : Nat, at9 = (k : Int) := ⟨at9.toNat, by omega⟩
            subst hk
            have hkt : k ≤ t.size := by omega
            have hz9 : ¬ 9223372036854775807 < 1 + (t.size - k) := by have := HZ.out; omega
            have hz8 : ¬ 9223372036854775807 < k + 1 := by have := HZ.out; omega
            have HKt := hide hkt
            go_wp2_with fail
            refine Calls.mono (HMb.out _ mb ?_ ?_) ?_
            · exact sz_mid1 t k HZ.out.2.2
            · exact pat_mid1 t k
            rintro e9 X1 ⟨rfl, n6, rfl⟩
            go_wp2_with fail
            refine Calls.mono (HMb.out _ (mb + n6) ?_ ?_) ?_
            · exact sz_mid2 t k HZ.out.2.2
            · exact pat_mid2 t k
            rintro e9 X1 ⟨rfl, n7, rfl⟩
            go_wp2_with fail
            refine (HC6.out (mb + n6 + n7)).mono ?_
            rintro e9 X1 ⟨rfl, n8, rfl⟩
            go_wp2_with fail
            go_ret
            exact ⟨rfl, Below.on HB1.out (below_drewN (Below.refl _ _) _)⟩
      | true =>
        have HC5 := HMa.out a t m5 (by have := HZ.out; omega) (by have := HZ.out; omega)
        rw [HPt.out rfl] at HC5
        have HC5 := hide HC5
        go_wp2_with fail
        refine HC5.out.mono ?_
        rintro e9 X1 ⟨rfl, n5, rfl⟩
        clear HC5
        obtain ⟨mb, hmb⟩ : ∃ mb, mb = m5 + n5 := ⟨_, rfl⟩
        rw [show (w1.drewN m5).drewN n5 = w1.drewN mb by rw [hmb]; simp]
        clear hmb
        have hEE : ((a.toList == t.toList) != (a.toList == t.toList)) = false := by simp
        rcases Int.lt_or_le at9 0 with hat | hat
        · go_wp2_with fail
          refine (HMb.out ⟨#[42]⟩ mb (by decide) pat_one).mono ?_
          rintro e9 X1 ⟨rfl, n6, rfl⟩
          go_wp2_with fail
          refine (HMb.out (t ++ ⟨#[42]⟩) (mb + n6) (sz_end t HZ.out.2.2) (pat_end t)).mono ?_
          rintro e9 X1 ⟨rfl, n7, rfl⟩
          go_wp2_with fail
          refine (HC6.out (mb + n6 + n7)).mono ?_
          rintro e9 X1 ⟨rfl, n8, rfl⟩
          go_wp2_with fail
          go_ret
          exact ⟨rfl, Below.on HB1.out (below_drewN (Below.refl _ _) _)⟩
        · rcases Int.lt_or_le ((t.size : Nat) : Int) at9 with hat2 | hat2
          · go_wp2_with fail
            refine (HMb.out ⟨#[42]⟩ mb (by decide) pat_one).mono ?_
            rintro e9 X1 ⟨rfl, n6, rfl⟩
            go_wp2_with fail
            refine (HMb.out (t ++ ⟨#[42]⟩) (mb + n6) (sz_end t HZ.out.2.2) (pat_end t)).mono ?_
            rintro e9 X1 ⟨rfl, n7, rfl⟩
            go_wp2_with fail
            refine (HC6.out (mb + n6 + n7)).mono ?_
            rintro e9 X1 ⟨rfl, n8, rfl⟩
            go_wp2_with fail
            go_ret
            exact ⟨rfl, Below.on HB1.out (below_drewN (Below.refl _ _) _)⟩
          · obtain ⟨k, hk⟩ : ∃ k : Nat, at9 = (k : Int) := ⟨at9.toNat, by omega⟩
            subst hk
            have hkt : k ≤ t.size := by omega
            have hz9 : ¬ 9223372036854775807 < 1 + (t.size - k) := by have := HZ.out; omega
            have hz8 : ¬ 9223372036854775807 < k + 1 := by have := HZ.out; omega
            have HKt := hide hkt
            go_wp2_with fail
            refine Calls.mono (HMb.out _ mb ?_ ?_) ?_
            · exact sz_mid1 t k HZ.out.2.2
            · exact pat_mid1 t k
            rintro e9 X1 ⟨rfl, n6, rfl⟩
            go_wp2_with fail
            refine Calls.mono (HMb.out _ (mb + n6) ?_ ?_) ?_
            · exact sz_mid2 t k HZ.out.2.2
            · exact pat_mid2 t k
            rintro e9 X1 ⟨rfl, n7, rfl⟩
            go_wp2_with fail
            refine (HC6.out (mb + n6 + n7)).mono ?_
            rintro e9 X1 ⟨rfl, n8, rfl⟩
            go_wp2_with fail
            go_ret
            exact ⟨rfl, Below.on HB1.out (below_drewN (Below.refl _ _) _)⟩
end Go.Proofs.YtnengkdddckjaaaDoor
