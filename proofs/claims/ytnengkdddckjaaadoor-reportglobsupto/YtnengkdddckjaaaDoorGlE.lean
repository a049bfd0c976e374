/-
  The same numbers; no star; awake.
-/
import Derived.Test.YtnengkdddckjaaaDoorKmK
import Derived.Test.YtnengkdddckjaaaDoorGlD
namespace Go.Proofs.YtnengkdddckjaaaDoor
open Go.RowKit Go.Maps
set_option linter.unusedVariables false
theorem drew_onS {w wr : World} (h : ∃ m, wr = w.drewN m) (r : Nat) : ∃ m, wr.drewN r = w.drewN m := by
  obtain ⟨m, rfl⟩ := h
  refine ⟨m + r, ?_⟩
  induction r with
  | zero => rfl
  | succ r ih => rw [← World.drew_drewN, ih, World.drew_drewN]; rfl
theorem sI_cell {w : World} {a : Option Addr} {n i : Nat} {L : List Int} {x : Int} (h : TRow sI w a n L) (hx : L[i]? = some x) : ∃ b off, a = some ⟨b, off, none⟩ ∧ w.cell? ⟨b, off + i, none⟩ = some (.int .i64 x) := by
  obtain ⟨b, off, ha, hc⟩ := row_cell h hx
  refine ⟨b, off, ha, ?_⟩
  have h1 : w.cell? ⟨b, off + i * 1 + 0, none⟩ = some (.int .i64 x) := hc 0 _ rfl
  rw [Nat.mul_one, Nat.add_zero] at h1
  exact h1
set_option maxRecDepth 8000 in
theorem s_ints (a1 a2 : Option Addr) (n c1 c2 : Nat) (K : List Int) (w : World) (h1 : TRow sI w a1 n K) (h2 : TRow sI w a2 n K) (hn : (n : Int) ≤ 9223372036854775806) :
    Calls Tryd.prog 14 #[.slice a1 n c1, .slice a2 n c2] w fun e w' => e = .returned (.bool true) ∧ Below w.heap.size w w' := by
  have H1 := hide h1
  have H2 := hide h2
  have HL := hide h1.len
  clear h1 h2
  go_enter Tryd.func14, Tryd.ntmps14
  go_wp2
  go_loopw [5] (fun i wr => ∃ j : Nat, j ≤ n ∧ i = .int .i64 j ∧ Hid (∃ m, wr = w.drewN m)) (fun i _ => n - (intOf i).toNat)
  case atStart => exact ⟨0, Nat.zero_le _, rfl, hide ⟨0, rfl⟩⟩
  case round =>
    obtain ⟨j, hj, rfl, HD⟩ := hrel
    have HB : Hid (Below w.heap.size w wr) := hide (by obtain ⟨m, hm⟩ := HD.out; rw [hm]; exact below_drewN (Below.refl _ _) m)
    by_cases hlt : j < n
    · have hjI : (j : Int) < n := by omega
      have hj0 : (0 : Int) ≤ j := by omega
      obtain ⟨x, hx⟩ : ∃ x, K[j]? = some x := ⟨_, List.getElem?_eq_getElem (by rw [HL.out]; exact hlt)⟩
      obtain ⟨b1, o1, e1, d1⟩ := sI_cell (H1.out.below HB.out) hx
      obtain ⟨b2, o2, e2, d2⟩ := sI_cell (H2.out.below HB.out) hx
      subst e1
      subst e2
      clear hx
      go_wp2_with fail
      go_quiet (fail)
      go_wp2
      exact ⟨⟨j + 1, by omega, by go_num, hide (drew_onS HD.out _)⟩, by simp [intOf]; omega⟩
    · have hjI : ¬ (j : Int) < n := by omega
      go_wp2
      go_ret
      exact ⟨rfl, HB.out⟩
/-- Has a text no star? -/
def plB (s : ByteArray) : Bool := decide (42 ∉ s.data.toList)
set_option maxRecDepth 8000 in
theorem plain_any (s : ByteArray) (w : World) (hs : s.size ≤ 1073741824) :
    Calls Tryd.prog 8 #[.string s] w fun e w' => e = .returned (.bool (plB s)) ∧ w' = w := by
  have HS : Hid ((∀ j, j < s.size → nB s j ≠ 42) → plB s = true) := hide (fun h => by
    unfold plB
    rw [decide_eq_true_iff]
    intro hm
    obtain ⟨j, hj⟩ := List.getElem?_of_mem hm
    have hl := (List.getElem?_eq_some_iff.1 hj).1
    refine h j (by rw [Lib.size_eq]; exact hl) ?_
    unfold nB
    rw [List.getD_eq_getElem?_getD, hj]
    rfl)
  have HS2 : Hid (∀ j, j < s.size → nB s j = 42 → plB s = false) := hide (fun j hj h => by
    unfold plB
    rw [decide_eq_false_iff_not]
    intro hm
    refine hm ?_
    have hl : j < s.data.toList.length := by rw [← Lib.size_eq]; exact hj
    unfold nB at h
    rw [List.getD_eq_getElem?_getD, List.getElem?_eq_getElem hl] at h
    have h2 : s.data.toList[j] = 42 := UInt8.toNat_inj.1 h
    rw [← h2]
    exact List.getElem_mem _)
  generalize plB s = R at HS HS2 ⊢
  have hsI : ((s.size : Nat) : Int) ≤ 1073741824 := by omega
  go_enter Tryd.func8, Tryd.ntmps8
  go_wp2
  go_loopw [3] (fun kv wr => ∃ k : Nat, kv = .int .i64 k ∧ k ≤ s.size ∧ wr = w ∧ Hid (∀ j, j < k → nB s j ≠ 42)) (fun kv _ => s.size - (intOf kv).toNat)
  case atStart => exact ⟨0, rfl, Nat.zero_le _, rfl, hide (fun j h => by omega)⟩
  case round =>
    obtain ⟨k, rfl, hk, hw, HJ⟩ := hrel
    subst hw
    by_cases hlt : k < s.size
    · have hkI : (k : Int) < ((s.size : Nat) : Int) := by omega
      have hk0 : (0 : Int) ≤ (k : Int) := by omega
      have hbi := nB_int hlt
      obtain ⟨b, hbb⟩ : ∃ b, nB s k = b := ⟨_, rfl⟩
      rw [hbb] at hbi
      have HBb := hide hbb
      have HLt := hide hlt
      clear hbb
      by_cases h42 : b = 42
      · have hbe : ((b : Int) == 42) = true := by rw [beq_iff_eq]; omega
        have HR := hide (HS2.out k hlt (HBb.out.trans h42))
        clear h42
        go_wp2
        (try simp only [Exit.inBlock, Exit.then])
        refine bodyPost_ret (results_tmp rfl _ _ _) rfl ?_
        exact ⟨by rw [HR.out]; rfl, rfl⟩
      · have hbe : ((b : Int) == 42) = false := by rw [beq_eq_false_iff_ne]; omega
        have H42 := hide h42
        clear h42
        go_wp2
        have hlt := HLt.out
        exact ⟨⟨k + 1, by go_num, by omega, by first | rfl | trivial, hide (fun j h => by
          by_cases e : j = k
          · rw [e, HBb.out]; exact H42.out
          · exact HJ.out j (by omega))⟩, by simp [intOf]; omega⟩
    · have hk9 : k = s.size := by omega
      have hkI : ¬ (k : Int) < ((s.size : Nat) : Int) := by omega
      have HR := hide (HS.out (fun j hj => HJ.out j (by omega)))
      clear hlt hk
      go_wp2
      (try simp only [Exit.inBlock, Exit.then])
      refine bodyPost_ret (results_tmp rfl _ _ _) rfl ?_
      exact ⟨by rw [HR.out]; rfl, rfl⟩
end Go.Proofs.YtnengkdddckjaaaDoor
