/-
  The law's own comparisons: texts, events, and the room behind a stack.
-/
import Derived.Test.YtbflkdbimgakpaaDoorDuK
namespace Go.Proofs.YtbflkdbimgakpaaDoor
open Go.RowKit Go.Maps Go.Shelf
set_option linter.unusedVariables false
def eqT (A B : List ByteArray) : Bool := decide (A.map ByteArray.data = B.map ByteArray.data)
theorem map_data_inj {A B : List ByteArray} (h : A.map ByteArray.data = B.map ByteArray.data) : A = B := by
  induction A generalizing B with
  | nil => cases B; rfl; simp at h
  | cons x A ih =>
    cases B with
    | nil => simp at h
    | cons y B =>
      simp at h
      rw [ih h.2]
      cases x; cases y; simp at h; rw [h.1]
theorem eqT_iff {A B : List ByteArray} : eqT A B = true ↔ A = B := by
  unfold eqT; rw [decide_eq_true_eq]
  exact ⟨map_data_inj, fun h => by rw [h]⟩
theorem eqT_self (A : List ByteArray) : eqT A A = true := eqT_iff.2 rfl
set_option maxRecDepth 4000 in
/-- Texts that are the same. -/
theorem tsame_any (a b : Option Addr) (n ca cb : Nat) (A : List ByteArray) (w : World) (hA : E6.SRow w a n A) (hB : E6.SRow w b n A) (hn : (n : Int) ≤ 9223372036854775806) :
    Calls Tryd.prog 44 #[.slice a n ca, .slice b n cb] w fun e w' => e = .returned (.bool true) ∧ Below w.heap.size w w' := by
  have H1 : Hid (E6.SRow w a n A) := hA
  have H2 : Hid (E6.SRow w b n A) := hB
  clear hA hB
  go_enter Tryd.func44, Tryd.ntmps44
  go_wp2
  go_loopw [5] (fun i wr => ∃ k q : Nat, k ≤ n ∧ i = .int .i64 k ∧ wr = w.drewN q) (fun i _ => n - (intOf i).toNat)
  case atStart => exact ⟨0, 0, Nat.zero_le _, rfl, rfl⟩
  case round =>
    obtain ⟨k, q, hk, rfl, hw⟩ := hrel
    have HW : Hid (wr = w.drewN q) := hw
    have H1r : Hid (E6.SRow wr a n A) := hide (by rw [hw]; exact H1.out.drewN q)
    have H2r : Hid (E6.SRow wr b n A) := hide (by rw [hw]; exact H2.out.drewN q)
    clear hw
    by_cases hlt : k < n
    · obtain ⟨b1, o1, rfl, hc1⟩ := H1r.out.at hlt
      obtain ⟨b2, o2, rfl, hc2⟩ := H2r.out.at hlt
      generalize A.getD k ByteArray.empty = x at hc1 hc2
      have hne : (x.toList != x.toList) = false := by simp
      go_wp2
      go_quiet (fail)
      go_wp2
      exact ⟨⟨k + 1, q + nq, by omega, by go_num, by rw [HW.out]; exact World.drewN_drewN _ _ _⟩, by simp [intOf]; omega⟩
    · go_wp2
      go_ret
      exact ⟨rfl, by rw [HW.out]; exact below_drewN (Below.refl _ _) q⟩
set_option maxRecDepth 4000 in
set_option maxHeartbeats 2000000 in
/-- An event, and another with the same stack elsewhere. -/
theorem dsame_any (g k o a : Int) (sa : Option Addr) (n sc : Nat) (sa' : Option Addr) (sc' : Nat) (ls : List ByteArray) (w : World) (hr : E6.SRow w sa n ls) (hr' : E6.SRow w sa' n ls) (hn : (n : Int) ≤ 9223372036854775806) :
    Calls Tryd.prog 22 #[.agg #[.int .i64 g, .int .i64 k, .int .u64 o, .int .u64 a, .slice sa n sc], .agg #[.int .i64 g, .int .i64 k, .int .u64 o, .int .u64 a, .slice sa' n sc']] w fun e w' => e = .returned (.bool true) ∧ Below w.heap.size w w' := by
  obtain ⟨W, hW⟩ : ∃ W, W = (w.alloc (.cells #[.int .i64 g, .int .i64 k, .int .u64 o, .int .u64 a, .slice sa n sc] 25)).alloc (.cells #[.int .i64 g, .int .i64 k, .int .u64 o, .int .u64 a, .slice sa' n sc'] 25) := ⟨_, rfl⟩
  have hbW : Below w.heap.size w W := by rw [hW]; exact below_alloc2 _ _ _
  have h1 : W.heap[w.heap.size]? = some (.cells #[.int .i64 g, .int .i64 k, .int .u64 o, .int .u64 a, .slice sa n sc] 25 (0, 0)) := by rw [hW]; exact ((below_alloc1 _ _).block _ (by simp)).trans (heap_new _ _)
  have h2 : W.heap[w.heap.size + 1]? = some (.cells #[.int .i64 g, .int .i64 k, .int .u64 o, .int .u64 a, .slice sa' n sc'] 25 (0, 0)) := by rw [hW]; exact heap_new2 _ _ _
  have c0 := cell_at h1 (i := 0) rfl
  have c1 := cell_at h1 (i := 1) rfl
  have c2 := cell_at h1 (i := 2) rfl
  have c3 := cell_at h1 (i := 3) rfl
  have c4 := cell_at h1 (i := 4) rfl
  have d0 := cell_at h2 (i := 0) rfl
  have d1 := cell_at h2 (i := 1) rfl
  have d2 := cell_at h2 (i := 2) rfl
  have d3 := cell_at h2 (i := 3) rfl
  have d4 := cell_at h2 (i := 4) rfl
  have HT := hide (tsame_any sa sa' n sc sc' ls W (hr.bel hbW) (hr'.bel hbW) hn)
  have HbW := hide hbW
  have HW := hide hW
  clear hW h1 h2 hbW hr hr'
  have e1 : (g == g) = true := by simp
  have e2 : (k == k) = true := by simp
  have e3 : (o == o) = true := by simp
  have e4 : (a == a) = true := by simp
  go_enter Tryd.func22, Tryd.ntmps22
  go_wp2_with fail
  rw [← HW.out]
  refine HT.out.mono ?_
  rintro x w2 ⟨rfl, hb⟩
  have HB := hide (HbW.out.trans (hb.mono HbW.out.size))
  clear hb
  go_wp2
  go_ret
  exact ⟨rfl, HB.out⟩
set_option maxRecDepth 8000 in
set_option maxHeartbeats 4000000 in
/-- The event is as it was, and the room behind its stack. -/
theorem kept_any (g k o a : Int) (rb rc n : Nat) (sa : Option Addr) (sc : Nat) (ls : List ByteArray) (w : World) (hr : E6.SRow w (some ⟨rb, 0, none⟩) n ls) (hr' : E6.SRow w sa n ls)
    (hroom : ∀ i, i < 70 → w.cell? ⟨rb, n + i, none⟩ = some (.string ⟨#[114, 111, 111, 109]⟩)) (hc : n + 70 ≤ rc) (hn : (n : Int) ≤ 8796093021952) :
    Calls Tryd.prog 9 #[.agg #[.int .i64 g, .int .i64 k, .int .u64 o, .int .u64 a, .slice (some ⟨rb, 0, none⟩) n rc], .agg #[.int .i64 g, .int .i64 k, .int .u64 o, .int .u64 a, .slice sa n sc]] w fun e w' => e = .returned (.bool true) ∧ Below w.heap.size w w' := by
  obtain ⟨W, hW⟩ : ∃ W, W = (w.alloc (.cells #[.int .i64 g, .int .i64 k, .int .u64 o, .int .u64 a, .slice (some ⟨rb, 0, none⟩) n rc] 25)).alloc (.cells #[.int .i64 g, .int .i64 k, .int .u64 o, .int .u64 a, .slice sa n sc] 25) := ⟨_, rfl⟩
  have hbW : Below w.heap.size w W := by rw [hW]; exact below_alloc2 _ _ _
  have h1 : W.heap[w.heap.size]? = some (.cells #[.int .i64 g, .int .i64 k, .int .u64 o, .int .u64 a, .slice (some ⟨rb, 0, none⟩) n rc] 25 (0, 0)) := by rw [hW]; exact ((below_alloc1 _ _).block _ (by simp)).trans (heap_new _ _)
  have h2 : W.heap[w.heap.size + 1]? = some (.cells #[.int .i64 g, .int .i64 k, .int .u64 o, .int .u64 a, .slice sa n sc] 25 (0, 0)) := by rw [hW]; exact heap_new2 _ _ _
  have c0 := cell_at h1 (i := 0) rfl
  have c1 := cell_at h1 (i := 1) rfl
  have c2 := cell_at h1 (i := 2) rfl
  have c3 := cell_at h1 (i := 3) rfl
  have c4 := cell_at h1 (i := 4) rfl
  have d0 := cell_at h2 (i := 0) rfl
  have d1 := cell_at h2 (i := 1) rfl
  have d2 := cell_at h2 (i := 2) rfl
  have d3 := cell_at h2 (i := 3) rfl
  have d4 := cell_at h2 (i := 4) rfl
  have HT := hide (dsame_any g k o a (some ⟨rb, 0, none⟩) n rc sa sc ls W (hr.bel hbW) (hr'.bel hbW) (by omega))
  have HF := hide (fun (X : World) (hX : Below W.heap.size W X) => And.intro (show X.cell? ⟨w.heap.size, 4, none⟩ = some (.slice (some ⟨rb, 0, none⟩) n rc) from E6.cell_bel c4 hX) (And.intro (show X.cell? ⟨w.heap.size + 1, 4, none⟩ = some (.slice sa n sc) from E6.cell_bel d4 hX) (fun i (hi : i < 70) => E6.cell_bel (E6.cell_bel (hroom i hi) hbW) hX)))
  have HbW := hide hbW
  have HW := hide hW
  clear hW h1 h2 hbW hr hr' hroom
  go_enter Tryd.func9, Tryd.ntmps9
  go_wp2_with fail
  rw [← HW.out]
  refine HT.out.mono ?_
  rintro x w2 ⟨rfl, hb⟩
  obtain ⟨e4, f4, hq⟩ := HF.out w2 hb
  have HB := hide (HbW.out.trans (hb.mono HbW.out.size))
  have HQ := hide hq
  clear hb hq c0 c1 c2 c3 c4 d0 d1 d2 d3 d4 HT HF
  obtain ⟨m, hm⟩ : ∃ m : Nat, m = n + 70 := ⟨_, rfl⟩
  have hmc : m ≤ rc := by omega
  have hmi : (n : Int) + 70 = (m : Int) := by omega
  have HM := hide hm
  clear hm
  go_wp2
  go_loopw [6] (fun i wr => ∃ j : Nat, j ≤ 70 ∧ i = .int .i64 j ∧ wr = w2) (fun i _ => 70 - (intOf i).toNat)
  case atStart => exact ⟨0, Nat.zero_le _, rfl, rfl⟩
  case round =>
    obtain ⟨j, hj, rfl, hw⟩ := hrel
    subst hw
    by_cases hlt : j < 70
    · have hcj := HQ.out j hlt
      obtain ⟨q, hq⟩ : ∃ q : Nat, n + j = q := ⟨_, rfl⟩
      have hji : (n : Int) + (j : Int) = (q : Int) := by omega
      have hqm : q < m := by have := HM.out; omega
      rw [hq] at hcj
      clear hq
      have hne : ((⟨#[114, 111, 111, 109]⟩ : ByteArray).toList != (⟨#[114, 111, 111, 109]⟩ : ByteArray).toList) = false := by simp
      go_wp2
      exact ⟨⟨j + 1, by omega, by go_num, by first | rfl | trivial⟩, by simp [intOf]; omega⟩
    · go_wp2
      go_ret
      exact ⟨rfl, HB.out⟩
end Go.Proofs.YtbflkdbimgakpaaDoor
