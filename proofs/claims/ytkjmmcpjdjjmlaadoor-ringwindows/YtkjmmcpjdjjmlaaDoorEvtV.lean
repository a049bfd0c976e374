/-
  slices.Equal; Same, the program's and the document's.
-/
import Derived.Test.YtkjmmcpjdjjmlaaDoorEvtC
namespace Go.Proofs.YtkjmmcpjdjjmlaaDoor
open Go.RowKit Go.Maps Go.Shelf
def eqB (A B : List ByteArray) : Bool := decide (A.map ByteArray.data = B.map ByteArray.data)
theorem map_data_inj {A B : List ByteArray} (h : A.map ByteArray.data = B.map ByteArray.data) : A = B := by
  induction A generalizing B with
  | nil => cases B; rfl; simp at h
  | cons x A ih =>
    cases B with
    | nil => simp at h
    | cons y B =>
      simp at h
      rw [ih h.2]
      cases x; cases y; simp at h; rw [h.1]
theorem eqB_iff {A B : List ByteArray} : eqB A B = true ↔ A = B := by
  unfold eqB; rw [decide_eq_true_eq]
  exact ⟨map_data_inj, fun h => by rw [h]⟩
theorem eqB_self (A : List ByteArray) : eqB A A = true := eqB_iff.2 rfl
theorem eqB_not {A B : List ByteArray} (h : A ≠ B) : eqB A B = false := by
  cases e : eqB A B
  · rfl
  · exact absurd (eqB_iff.1 e) h
theorem take_same {A B : List ByteArray} {k n : Nat} (hA : A.length = n) (hB : B.length = n) (hk : k < n) (h : A.take k = B.take k) : (A.take (k + 1) = B.take (k + 1)) ↔ A.getD k ByteArray.empty = B.getD k ByteArray.empty := by
  rw [List.take_add_one, List.take_add_one, getD_get (by omega), getD_get (by omega), h]
  simp
def sameB (g k o a : Int) (ls : List ByteArray) (g' k' o' a' : Int) (ls' : List ByteArray) : Bool := (g == g') && (k == k') && (o == o') && (a == a') && eqB ls ls'
set_option maxRecDepth 4000 in
set_option maxHeartbeats 2000000 in
theorem rsame_any (g k o a : Int) (sa : Option Addr) (sn sc : Nat) (ls : List ByteArray) (g' k' o' a' : Int) (sa' : Option Addr) (sn' sc' : Nat) (ls' : List ByteArray) (w : World) (hr : SRow w sa sn ls) (hr' : SRow w sa' sn' ls') (hn : (sn : Int) ≤ 9223372036854775806) :
    Calls Tryd.prog 20 #[.agg #[.int .i64 g, .int .i64 k, .int .u64 o, .int .u64 a, .slice sa sn sc], .agg #[.int .i64 g', .int .i64 k', .int .u64 o', .int .u64 a', .slice sa' sn' sc']] w fun e w' => e = .returned (.bool (sameB g k o a ls g' k' o' a' ls')) ∧ Below w.heap.size w w' := by
  obtain ⟨R, hR⟩ : ∃ R, R = sameB g k o a ls g' k' o' a' ls' := ⟨_, rfl⟩
  rw [← hR]
  unfold sameB at hR
  obtain ⟨W1, hW1⟩ : ∃ W1, W1 = (w.alloc (.cells #[.int .i64 g, .int .i64 k, .int .u64 o, .int .u64 a, .slice sa sn sc] 32)).alloc (.cells #[.int .i64 g', .int .i64 k', .int .u64 o', .int .u64 a', .slice sa' sn' sc'] 32) := ⟨_, rfl⟩
  have hb1 : Below w.heap.size w W1 := by rw [hW1]; exact (below_new w _).trans ((below_new _ _).mono (below_new w _).size)
  have he1 : EvB W1 w.heap.size g k o a sa sn sc := by
    rw [hW1]; exact EvB.below EvB.new (below_new _ _)
  have he2 : EvB W1 (w.heap.size + 1) g' k' o' a' sa' sn' sc' := by
    have := EvB.new (w := w.alloc (.cells #[.int .i64 g, .int .i64 k, .int .u64 o, .int .u64 a, .slice sa sn sc] 32)) (g := g') (k := k') (o := o') (a := a') (sa := sa') (sn := sn') (sc := sc')
    rw [hW1]; simpa using this
  have H1 : Hid _ := hide (hr.bel hb1)
  have H2 : Hid _ := hide (hr'.bel hb1)
  have L1 : Hid _ := hide hr.len
  have L2 : Hid _ := hide hr'.len
  have HB : Hid _ := hide hb1
  have HW : Hid _ := hide hW1
  have c4 := he1.c4
  have c4' := he2.c4
  have f1 : ((g != g') = !(g == g')) := rfl
  have f2 : ((k != k') = !(k == k')) := rfl
  have f3 : ((o != o') = !(o == o')) := rfl
  have f4 : ((a != a') = !(a == a')) := rfl
  obtain ⟨b1, e1⟩ : ∃ b, (g == g') = b := ⟨_, rfl⟩
  obtain ⟨b2, e2⟩ : ∃ b, (k == k') = b := ⟨_, rfl⟩
  obtain ⟨b3, e3⟩ : ∃ b, (o == o') = b := ⟨_, rfl⟩
  obtain ⟨b4, e4⟩ : ∃ b, (a == a') = b := ⟨_, rfl⟩
  rw [e1, e2, e3, e4] at hR
  rw [e1] at f1
  rw [e2] at f2
  rw [e3] at f3
  rw [e4] at f4
  have HR : Hid _ := hide hR
  clear hb1 hR hr hr' hW1 he1 he2
  cases b1
  · go_enter Tryd.func20, Tryd.ntmps20
    go_wp2
    go_ret
    exact ⟨by rw [HR.out]; rfl, by rw [← HW.out]; exact HB.out⟩
  · cases b2
    · go_enter Tryd.func20, Tryd.ntmps20
      go_wp2
      go_ret
      exact ⟨by rw [HR.out]; rfl, by rw [← HW.out]; exact HB.out⟩
    · cases b3
      · go_enter Tryd.func20, Tryd.ntmps20
        go_wp2
        go_ret
        exact ⟨by rw [HR.out]; rfl, by rw [← HW.out]; exact HB.out⟩
      · cases b4
        · go_enter Tryd.func20, Tryd.ntmps20
          go_wp2
          go_ret
          exact ⟨by rw [HR.out]; rfl, by rw [← HW.out]; exact HB.out⟩
        · by_cases hnm : sn = sn'
          · subst hnm
            have HR2 : Hid (R = eqB ls ls') := hide (by rw [HR.out]; rfl)
            clear HR e1 e2 e3 e4
            go_enter Tryd.func20, Tryd.ntmps20
            go_wp2
            rw [← HW.out]
            go_loopw [5] (fun i wr => ∃ j q : Nat, j ≤ sn ∧ i = .int .i64 j ∧ wr = W1.drewN q ∧ ls.take j = ls'.take j) (fun i _ => sn - (intOf i).toNat)
            case atStart => exact ⟨0, 0, Nat.zero_le _, rfl, rfl, rfl⟩
            case round =>
              obtain ⟨j, q, hj, rfl, hw, he⟩ := hrel
              have HWq : Hid (wr = W1.drewN q) := hw
              have H1r : Hid (SRow wr sa sn ls) := hide (by rw [hw]; exact H1.out.drewN q)
              have H2r : Hid (SRow wr sa' sn ls') := hide (by rw [hw]; exact H2.out.drewN q)
              have k4 := cell_drewN c4 q
              have k4' := cell_drewN c4' q
              rw [← hw] at k4 k4'
              have HE : Hid _ := hide he
              clear hw he f1 f2 f3 f4
              by_cases hlt : j < sn
              · obtain ⟨x1, o1, rfl, hc1⟩ := H1r.out.at hlt
                obtain ⟨x2, o2, rfl, hc2⟩ := H2r.out.at hlt
                have hjI : (j : Int) < sn := by omega
                have HS : Hid _ := hide (take_same L1.out L2.out hlt HE.out)
                generalize ls.getD j ByteArray.empty = x at hc1 HS
                generalize ls'.getD j ByteArray.empty = y at hc2 HS
                cases hxy : x.toList == y.toList
                · have HN : Hid (eqB ls ls' = false) := hide (eqB_not (fun e => str_ne hxy (HS.out.1 (by rw [e]))))
                  have hne : (x.toList != y.toList) = true := by rw [bne, hxy]; rfl
                  go_wp2
                  go_quiet (fail)
                  go_wp2
                  go_ret
                  exact ⟨by rw [HR2.out, HN.out]; rfl, by rw [HWq.out, World.drewN_drewN]; exact below_drewN HB.out _⟩
                · have HN : Hid (ls.take (j + 1) = ls'.take (j + 1)) := HS.out.2 (str_eq hxy)
                  have hne : (x.toList != y.toList) = false := by rw [bne, hxy]; rfl
                  go_wp2
                  go_quiet (fail)
                  go_wp2
                  exact ⟨⟨j + 1, q + nq, by omega, by go_num, by rw [HWq.out]; exact World.drewN_drewN _ _ _, HN.out⟩, by simp [intOf]; omega⟩
              · have HN : Hid (eqB ls ls' = true) := hide (eqB_iff.2 (by
                  have e := HE.out
                  rwa [List.take_of_length_le (by have := L1.out; omega), List.take_of_length_le (by have := L2.out; omega)] at e))
                go_wp2
                go_ret
                exact ⟨by rw [HR2.out, HN.out]; rfl, by rw [HWq.out]; exact below_drewN HB.out _⟩
          · have HN : Hid (eqB ls ls' = false) := hide (eqB_not (fun e => hnm (by rw [← L1.out, ← L2.out, e])))
            have hq : ((sn : Int) != (sn' : Int)) = true := by simp; omega
            go_enter Tryd.func20, Tryd.ntmps20
            go_wp2
            go_ret
            exact ⟨by rw [HR.out, HN.out]; rfl, by rw [← HW.out]; exact HB.out⟩
end Go.Proofs.YtkjmmcpjdjjmlaaDoor
