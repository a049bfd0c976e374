/-
  A record is read into a forest.
-/
import Derived.Test.YtjpccaeojimlfaaDecM
import Derived.Test.YtjpccaeojimlfaaReadsB
namespace Go.Proofs.Ytjpccaeojimlfaa
open Go.RowKit Go.Maps Go.Shelf
theorem dep_more {N : List Nd} (hA : Anc N) : ∀ k id, id ≤ k → id ≤ N.length → dep N k id = depth N id := by
  intro k
  induction k using Nat.strongRecOn with
  | ind k ih =>
    intro id h1 h2
    cases id with
    | zero => cases k <;> simp [dep, depth]
    | succ j =>
      cases k with
      | zero => omega
      | succ k =>
        have hle := hA j _ (getN_get (N := N) (k := j) (by omega))
        have e1 : dep N (k + 1) (j + 1) = dep N k (N.getD j (0, 0)).1 + 1 := by rw [dep, if_neg (by omega), Nat.add_sub_cancel]
        have e2 : depth N (j + 1) = dep N j (N.getD j (0, 0)).1 + 1 := by rw [depth, dep, if_neg (by omega), Nat.add_sub_cancel]
        rw [e1, e2, ih k (by omega) _ (by omega) (by omega)]
        by_cases hkj : j < k + 1
        · by_cases hjk : j = k
          · subst hjk; rw [ih j (by omega) _ hle (by omega)]
          · rw [ih j (by omega) _ hle (by omega)]
        · omega
theorem depth_zero (N : List Nd) : depth N 0 = 0 := rfl
theorem depth_succ {N : List Nd} (hA : Anc N) {j : Nat} (hj : j < N.length) : depth N (j + 1) = depth N (N.getD j (0, 0)).1 + 1 := by
  have hle := hA j _ (getN_get hj)
  rw [depth, dep, if_neg (by omega), Nat.add_sub_cancel, dep_more hA j _ hle (by omega)]
theorem depth_le {N : List Nd} (hA : Anc N) : ∀ id, id ≤ N.length → depth N id ≤ id := by
  intro id
  induction id using Nat.strongRecOn with
  | ind id ih =>
    intro h
    cases id with
    | zero => exact Nat.le_refl _
    | succ j =>
      have hle := hA j _ (getN_get (N := N) (k := j) (by omega))
      rw [depth_succ hA (by omega)]
      have := ih _ (Nat.lt_succ_of_le hle) (by omega)
      omega
theorem depth_any {w : World} {fb tb : Nat} {S : Nat → Prop} {N : List Nd} {v : Value} {mb : Nat} (hF : Frs w fb tb S N v mb) (hA : Anc N) (id : Nat) (hid : id ≤ N.length) :
    Calls Try.prog 79 #[.pointer (some ⟨fb, 0, none⟩), .int .i64 (id : Int)] w fun e w' => e = .returned (.int .i64 (depth N id : Int)) ∧ w' = w := by
  have HF : Hid (Frs w fb tb S N v mb) := hF
  have HA : Hid (Anc N) := hA
  have c1 := hF.cell1
  obtain ⟨va, vc, rfl⟩ := own_form hF.own
  have hNl : (N.length : Int) ≤ 262144 := by have := hF.len; omega
  have hdb : Hid (depth N id ≤ 262144) := hide (by have := depth_le hA id hid; have := hF.len; omega)
  clear hF hA
  go_enter Try.func79, Try.ntmps79
  go_wp2
  go_loopw [1, 5] (fun i d wr => ∃ (j q : Nat), j ≤ N.length ∧ i = .int .i64 (j : Int) ∧ d = .int .i64 (q : Int) ∧ q + depth N j = depth N id ∧ wr = w) (fun i _ _ => (intOf i).toNat)
  case atStart => exact ⟨id, 0, hid, rfl, rfl, by omega, rfl⟩
  case round =>
    obtain ⟨j, q, hj, rfl, rfl, hq, rfl⟩ := hrel
    have HQ : Hid _ := hide hq
    cases j with
    | zero =>
      have HX : Hid (q = depth N id) := hide (by have := HQ.out; rw [depth_zero] at this; omega)
      clear hq
      go_wp2
      go_ret
      exact ⟨by rw [← HX.out]; rfl, rfl⟩
    | succ j =>
      obtain ⟨g, c, hv, n0, n1⟩ := HF.out.node_at (getN_get (N := N) (k := j) (by omega))
      cases hv
      have hle := HA.out j _ (getN_get (N := N) (k := j) (by omega))
      have HX : Hid (q + 1 + depth N (N.getD j (0, 0)).1 = depth N id) := hide (by have := HQ.out; rw [depth_succ HA.out (by omega)] at this; omega)
      have hqb : (q : Int) ≤ 262144 := by have := HX.out; have := hdb.out; omega
      generalize (N.getD j (0, 0)).1 = p at n0 hle HX
      have hj' : (j : Int) < N.length := by omega
      have HL : Hid (p ≤ j) := hle
      clear hq n1 hle
      go_wp2
      exact ⟨⟨p, q + 1, by have := HL.out; omega, rfl, by go_num, HX.out, trivial⟩, by have := HL.out; simp [intOf]; omega⟩
theorem refusal_any {w : World} {fb tb : Nat} {S : Nat → Prop} {N : List Nd} {v : Value} {mb : Nat} (hF : Frs w fb tb S N v mb) (hA : Anc N) (n : Nd) (h1 : n.1 ≤ N.length) (h2 : n.2 ≤ 65536) :
    Calls Try.prog 69 #[.pointer (some ⟨fb, 0, none⟩), nodeV n] w fun e w' => e = .returned (.int .i64 (why N n)) ∧ Below w.heap.size w w' := by
  obtain ⟨W1, hW1⟩ : ∃ W1, W1 = w.alloc (.cells #[.int .i64 (n.1 : Int), .int .i64 (n.2 : Int)] 73) := ⟨_, rfl⟩
  have b1 : Below w.heap.size w W1 := by rw [hW1]; exact (Below.refl _ w).alloc (Nat.le_refl _) _
  have hF1 := hF.kept (T := fun _ => False) (But.of_below b1) (fun _ _ e => e)
  have HD : Hid _ := hide (depth_any hF1 hA n.1 h1)
  have r1 : W1.heap[w.heap.size]? = some (.cells #[.int .i64 (n.1 : Int), .int .i64 (n.2 : Int)] 73 (0, 0)) := by rw [hW1]; exact heap_alloc_new w _
  have q0 : W1.cell? ⟨w.heap.size, 0, none⟩ = some (.int .i64 (n.1 : Int)) := by rw [cell_of_row W1 w.heap.size 0 _ 73 (0, 0) r1]; rfl
  have q1 : W1.cell? ⟨w.heap.size, 1, none⟩ = some (.int .i64 (n.2 : Int)) := by rw [cell_of_row W1 w.heap.size 1 _ 73 (0, 0) r1]; rfl
  have c1 := hF1.cell1
  have c2 := hF1.cell2
  obtain ⟨va, vc, rfl⟩ := own_form hF1.own
  have hNl : (N.length : Int) ≤ 262144 := by have := hF.len; omega
  obtain ⟨D, hm, hi⟩ := hF1.ids
  have HM : Hid _ := hide hm
  have hcc : D.atKey (nkey n) (.lit (.int .i64 0)) = .lit (.int .i64 (nid N n : Int)) := hi.num n (by have := hF.len; omega) (by omega)
  have HCC : Hid _ := hide hcc
  have hnl := nid_le N n
  have hnI : (nid N n : Int) ≤ 262144 := by have := hF.len; omega
  have hdI : (depth N n.1 : Int) ≤ 262144 := by have := depth_le hA n.1 h1; have := hF.len; omega
  have hkey : keyOf Try.prog 73 (nodeV n) = some (nkey n) := keyNode (by have := hF.len; omega) (by omega)
  have HB : Hid _ := hide b1
  have HWy : Hid (why N n = if depth N n.1 = 16 then 51 else if nid N n ≠ 0 then 52 else if N.length = 262144 then 3 else 0) := hide rfl
  generalize why N n = y at HWy ⊢
  clear hF hF1 hA b1 r1 hm hi hcc h1 hnl
  unfold nodeV at hkey ⊢
  go_enter Try.func69, Try.ntmps69
  go_wp2_with fail
  rw [← hW1]
  refine HD.out.mono ?_
  rintro e w2 ⟨rfl, hw2⟩
  rw [hw2]
  clear hw2 hW1
  by_cases hd : depth N n.1 = 16
  · have HY : Hid (y = 51) := hide (by rw [HWy.out, if_pos hd])
    rw [hd]
    go_wp2
    go_ret
    exact ⟨by rw [HY.out]; rfl, HB.out⟩
  · have hdd : ((depth N n.1 : Int) == 16) = false := by rw [beq_eq_false_iff_ne]; omega
    have HL : ∀ j, (Instr.lookup 61 (.map (some mb)) (.agg #[.int .i64 (n.1 : Int), .int .i64 (n.2 : Int)]) false).run Try.prog (W1.drewN j) = .ok (.int .i64 (nid N n : Int)) (W1.drewN j) := by
      intro j
      have hmj := map_but HM.out (S := fun _ => False) (But.of_below (below_drewN (Below.refl _ _) j)) (fun e => e)
      obtain ⟨c, hrun, hat, _⟩ := hmj.lookup_int lawNode Try.underlying61 Try.underlying3 (zero3 _) hkey
      rw [HCC.out] at hat
      simp at hat
      subst hat
      exact hrun
    by_cases hn : nid N n = 0
    · have hn0 : ((nid N n : Int) != 0) = false := by rw [hn]; rfl
      by_cases hN : N.length = 262144
      · have HY : Hid (y = 3) := hide (by rw [HWy.out, if_neg hd, if_neg (by omega), if_pos hN])
        have hNN : ((N.length : Int) == 262144) = true := by rw [hN]; rfl
        clear hd hN
        go_wp2
        go_quiet (fail)
        have k1 := cell_drewN c1 nq
        have HB2 : Hid (Below w.heap.size w (W1.drewN nq)) := hide (below_drewN HB.out nq)
        generalize W1.drewN nq = W2 at k1 HB2 ⊢
        clear HL
        go_wp2
        go_ret
        exact ⟨by rw [HY.out]; rfl, HB2.out⟩
      · have HY : Hid (y = 0) := hide (by rw [HWy.out, if_neg hd, if_neg (by omega), if_neg hN])
        have hNN : ((N.length : Int) == 262144) = false := by rw [beq_eq_false_iff_ne]; omega
        clear hd hN
        go_wp2
        go_quiet (fail)
        have k1 := cell_drewN c1 nq
        have HB2 : Hid (Below w.heap.size w (W1.drewN nq)) := hide (below_drewN HB.out nq)
        generalize W1.drewN nq = W2 at k1 HB2 ⊢
        clear HL
        go_wp2
        go_ret
        exact ⟨by rw [HY.out]; rfl, HB2.out⟩
    · have HY : Hid (y = 52) := hide (by rw [HWy.out, if_neg hd, if_pos hn])
      have hn0 : ((nid N n : Int) != 0) = true := by rw [bne_iff_ne]; omega
      clear hd
      go_wp2
      go_quiet (fail)
      go_wp2
      go_ret
      exact ⟨by rw [HY.out]; rfl, below_drewN HB.out nq⟩
end Go.Proofs.Ytjpccaeojimlfaa
