/-
  The law's own small calls.
-/
import Derived.Test.YtdppbaipmmcjbaaDoorSDec
import Derived.Test.YtdppbaipmmcjbaaDoorSl
namespace Go.Proofs.YtdppbaipmmcjbaaDoor
open Go.RowKit
theorem num_any (e : Int) (w : World) : Calls Tryd.prog 22 #[.int .i64 e] w fun r w' => r = .returned (.int .i64 e) ∧ w' = w := by
  go_enter Tryd.func22, Tryd.ntmps22
  go_wp2
  go_ret
  exact ⟨rfl, rfl⟩
theorem limits_any (l : Int) (w : World) : Calls Tryd.prog 23 #[.int .i64 l] w fun e w' => e = .returned (.bool (decide (64 ≤ l ∧ l ≤ 1048576))) ∧ w' = w := by
  by_cases h1 : 64 ≤ l
  · by_cases h2 : l ≤ 1048576
    · rw [decide_eq_true ⟨h1, h2⟩]
      go_enter Tryd.func23, Tryd.ntmps23
      go_wp2
      go_ret
      exact ⟨rfl, rfl⟩
    · rw [decide_eq_false (fun h => h2 h.2)]
      go_enter Tryd.func23, Tryd.ntmps23
      go_wp2
      go_ret
      exact ⟨rfl, rfl⟩
  · rw [decide_eq_false (fun h => h1 h.1)]
    go_enter Tryd.func23, Tryd.ntmps23
    go_wp2
    go_ret
    exact ⟨rfl, rfl⟩
set_option maxHeartbeats 800000 in
/-- recsSame of the same records. -/
theorem rsame_eq (a b : Option Addr) (n ca cb : Nat) (L : List Rc) (w : World) (hA : RRow w a n L) (hB : RRow w b n L) (hn : (n : Int) ≤ 9223372036854775000) :
    Calls Tryd.prog 17 #[.slice a n ca, .slice b n cb] w fun e w' => e = .returned (.bool true) ∧ ∃ m, w' = w.drewN m := by
  have hl := hA.len
  have H1 : Hid _ := hide hA
  have H2 : Hid _ := hide hB
  clear hA hB
  go_enter Tryd.func17, Tryd.ntmps17
  go_wp2
  go_loopw [5] (fun i wr => ∃ k q : Nat, k ≤ n ∧ i = .int .i64 k ∧ wr = w.drewN q) (fun i _ => n - (intOf i).toNat)
  case atStart => exact ⟨0, 0, Nat.zero_le _, rfl, rfl⟩
  case round =>
    obtain ⟨k, q, hk, rfl, hw⟩ := hrel
    have HW : Hid (wr = w.drewN q) := hw
    have A1 := H1.out.below (show Below w.heap.size w wr by rw [hw]; exact below_drewN (Below.refl _ _) q)
    have A2 := H2.out.below (show Below w.heap.size w wr by rw [hw]; exact below_drewN (Below.refl _ _) q)
    clear hw
    by_cases hlt : k < n
    · obtain ⟨⟨t, kd, o, ar, qq⟩, hrk⟩ : ∃ r, L[k]? = some r := ⟨L[k]'(by omega), List.getElem?_eq_getElem _⟩
      rcases A1.cells with h0 | ⟨b1, o1, rfl, hc1⟩
      · omega
      rcases A2.cells with h0 | ⟨b2, o2, rfl, hc2⟩
      · omega
      obtain ⟨x0, x1, x2, x3, x4⟩ := hc1 k _ hrk
      obtain ⟨y0, y1, y2, y3, y4⟩ := hc2 k _ hrk
      dsimp only at x0 x1 x2 x3 x4 y0 y1 y2 y3 y4
      have hq : ∀ W' : World, (binOp .neq 48 (.agg #[.int .i64 t, .int .i64 kd, .int .u64 o, .int .u64 ar, .int .i64 qq]) (.agg #[.int .i64 t, .int .i64 kd, .int .u64 o, .int .u64 ar, .int .i64 qq])).run Tryd.prog W' = .ok (.bool false) W' := fun W' => neq_rc W' _ _ _ _ _
      have hltI : (k : Int) < (n : Int) := by omega
      clear A1 A2 hc1 hc2 hrk
      go_wp2
      go_quiet (fail)
      go_wp2
      exact ⟨⟨k + 1, q + nq, by omega, by go_num, by rw [HW.out]; exact World.drewN_drewN _ _ _⟩, by simp [intOf]; omega⟩
    · clear A1 A2
      go_wp2
      go_ret
      exact ⟨rfl, q, HW.out⟩
set_option maxHeartbeats 1600000 in
set_option maxRecDepth 8000 in
/-- good of a stream. -/
theorem good_ok (a : Option Addr) (n c : Nat) (L : List Rc) (w : World) (hK : Kn w) (hw : 0 < w.heap.size) (hA : RRow w a n L) (hs : strE 0 L = 0) (hok : ∀ r ∈ L, r.ok) (hn : (n : Int) ≤ 9223372036854775000) :
    Calls Tryd.prog 24 #[.slice a n c] w fun e w' => e = .returned (.bool true) ∧ Below w.heap.size w w' := by
  have hl := hA.len
  have H1 : Hid _ := hide hA
  have HOK : Hid _ := hide hok
  have I0 : Hid (strE 0 (L.drop 0) = 0) := hide hs
  clear hA hok hs
  go_enter Tryd.func24, Tryd.ntmps24
  go_wp2
  go_loopw [3] (fun i wr => ∃ (k : Nat) (m : Int), k ≤ n ∧ i = .int .i64 k ∧ Below w.heap.size w wr ∧ strE m (L.drop k) = 0 ∧ (∀ x, 0 < k → L[k - 1]? = some x → x.stamp + 1 = m)) (fun i _ => n - (intOf i).toNat)
  case atStart => exact ⟨0, 0, Nat.zero_le _, rfl, Below.refl _ _, I0.out, fun x h => by omega⟩
  case round =>
    obtain ⟨k, m, hk, rfl, hB, hS, hP⟩ := hrel
    clear I0
    have HB : Hid _ := hide hB
    have hsz := hB.size
    by_cases hlt : k < n
    · have A1 := H1.out.below hB
      obtain ⟨⟨t, kd, o, ar, qq⟩, hrk⟩ : ∃ r, L[k]? = some r := ⟨L[k]'(by omega), List.getElem?_eq_getElem _⟩
      rw [drop_get hrk] at hS
      obtain ⟨hE, hle, hS2⟩ := strE_step.1 hS
      dsimp only at hle hS2
      rcases A1.cells with h0 | ⟨b1, o1, rfl, hc1⟩
      · omega
      obtain ⟨x0, x1, x2, x3, x4⟩ := hc1 k _ hrk
      dsimp only at x0 x1 x2 x3 x4
      have hbl1 := World.block_lt_of_cell? wr _ x0
      have HP := put_n 0 0 0 t kd o ar qq wr (hK.below hB (by omega)) (by omega) hE (HOK.out _ (List.mem_of_getElem? hrk))
      have HNX : Hid (strE (t + 1) (L.drop (k + 1)) = 0) := hide hS2
      have HRK : Hid _ := hide hrk
      have hltI : (k : Int) < (n : Int) := by omega
      have HPV : Hid (0 < k → ∃ u, wr.cell? ⟨b1, o1 + (k - 1) * 5, none⟩ = some (.int .i64 u) ∧ u < t) := hide (fun h0 => by
        obtain ⟨y, hy⟩ : ∃ y, L[k - 1]? = some y := ⟨L[k - 1]'(by omega), List.getElem?_eq_getElem _⟩
        have e1 := hP y h0 hy
        exact ⟨y.stamp, (hc1 (k - 1) y hy).1, by omega⟩)
      have HNP : Hid (∀ x, 0 < k + 1 → L[k + 1 - 1]? = some x → x.stamp + 1 = t + 1) := hide (fun x _ hx => by
        rw [Nat.add_sub_cancel, HRK.out] at hx
        cases hx; rfl)
      clear hS hS2 hE hle hP A1 hrk hB hc1
      go_wp2_with fail
      refine HP.mono ?_
      rintro e w2 ⟨g, cg, rfl, -, -, hb2⟩
      have hs2 := hb2.size
      have hb9 : Below wr.heap.size wr (w2.alloc (.cells #[.int .i64 (t + 1), .int .u64 o, .int .i64 qq] 69)) := hb2.alloc hs2 _
      have d0 := (hb9.cell (p := ⟨b1, o1 + k * 5, none⟩) hbl1).trans x0
      have HB9 : Hid _ := hide (HB.out.trans (hb9.mono hsz))
      have HNU := fun j => num_any 0 ((w2.alloc (.cells #[.int .i64 (t + 1), .int .u64 o, .int .i64 qq] 69)).drewN j)
      clear HP x0 x1 x2 x3 x4 hb2
      by_cases hk0 : k = 0
      · subst hk0
        clear HPV hb9
        go_wp2_with fail
        go_quiet ((go_at_call 22; exact Calls.quiet_of ((HNU _).mono (fun e w' h => ⟨h.1, 0, h.2⟩))))
        go_wp2
        exact ⟨⟨0 + 1, t + 1, by omega, by go_num, below_drewN HB9.out nq, HNX.out, HNP.out⟩, by simp [intOf]; omega⟩
      · obtain ⟨u, hu, hut⟩ := HPV.out (by omega)
        have d1 := (hb9.cell (p := ⟨b1, o1 + (k - 1) * 5, none⟩) hbl1).trans hu
        have hi0 : (0 : Int) ≤ (k : Int) - 1 := by omega
        have hi1 : (k : Int) - 1 < (n : Int) := by omega
        have hi2 : (0 : Int) < (k : Int) := by omega
        have hi4 : 0 < k := by omega
        have hi5 : decide ((0 : Int) < (k : Int)) = true := decide_eq_true hi2
        have hi7 : (1 : Int) ≤ (k : Int) := by omega
        have hi8 : 1 ≤ k := by omega
        have hi9 : ¬ (k : Int) - 1 < 0 := by omega
        have hi10 : ¬ (k : Int) < 1 := by omega
        have hwr : IntKind.i64.wrap ((k : Int) - 1) = (k : Int) - 1 := by rw [IntKind.wrap_i64]; omega
        have hdl : decide (t ≤ u) = false := decide_eq_false (by omega)
        have hnl : ¬ t ≤ u := by omega
        clear HPV hb9 hu hut hk0
        go_wp2_with fail
        go_quiet ((go_at_call 22; exact Calls.quiet_of ((HNU _).mono (fun e w' h => ⟨h.1, 0, h.2⟩))))
        go_wp2
        exact ⟨⟨k + 1, t + 1, by omega, by go_num, below_drewN HB9.out nq, HNX.out, HNP.out⟩, by simp [intOf]; omega⟩
    · clear hS hP
      go_wp2
      go_ret
      exact ⟨rfl, HB.out⟩
end Go.Proofs.YtdppbaipmmcjbaaDoor
