/-
  bytesSame, spoil.
-/
import Derived.Test.YtamoioebgnmcaaaDoorSWf
import Derived.BigRegion
import Derived.Deep.QuietTactic
import Derived.BigQuiet
namespace Go.Proofs.YtamoioebgnmcaaaDoor
open Go.RowKit
attribute [local go_sem] Oper.semAt_some
theorem ret_boolG {a b : Bool} (h : a = b) : Ending.returned (.bool a) = .returned (.bool b) := by rw [h]
set_option maxHeartbeats 400000 in
/-- sameBytes, both of one length, not empty. -/
theorem bsm_core (ba oa ca bb ob cb n : Nat) (A B : List Int) (w : World) (hA : A.length = n) (hB : B.length = n) (hn : n ≤ 9223372036854775807)
    (ha : ∀ i, i < n → w.cell? ⟨ba, oa + i, none⟩ = some (.int .u8 (A.getD i 0))) (hb : ∀ i, i < n → w.cell? ⟨bb, ob + i, none⟩ = some (.int .u8 (B.getD i 0))) :
    Calls Tryd.prog 32 #[.slice (some ⟨ba, oa, none⟩) n ca, .slice (some ⟨bb, ob, none⟩) n cb] w fun e w' => e = .returned (.bool (decide (A = B))) ∧ ∃ m, w' = w.drewN m := by
  go_enter Tryd.func32, Tryd.ntmps32
  go_wp2
  go_loopw [5] (fun i wr => ∃ k m : Nat, k ≤ n ∧ i = .int .i64 k ∧ wr = w.drewN m ∧ A.take k = B.take k) (fun i _ => n - (intOf i).toNat)
  case atStart => exact ⟨0, 0, Nat.zero_le _, rfl, rfl, rfl⟩
  case round =>
    obtain ⟨k, m, hk, rfl, rfl, he⟩ := hrel
    have HE : Hid (A.take k = B.take k) := he
    clear he
    by_cases hlt : k < n
    · have h1 := ha k hlt
      have h2 := hb k hlt
      clear ha hb
      go_wp2
      go_quiet (fail)
      go_wp2
      · go_ret
        exact ⟨ret_boolG (same_ne ‹_›), _, World.drewN_drewN _ _ _⟩
      · exact ⟨⟨k + 1, m + nq, by omega, by go_num, rfl, same_step ‹_› HE.out⟩, by simp [intOf]; omega⟩
    · go_wp2
      go_ret
      exact ⟨ret_boolG (same_all hA hB (by omega) HE.out), _, rfl⟩

theorem bsm_ne_len (a b : Option Addr) (la ca lb cb : Nat) (A B : List Int) (w : World) (hA : A.length = la) (hB : B.length = lb) (hne : la ≠ lb) :
    Calls Tryd.prog 32 #[.slice a la ca, .slice b lb cb] w fun e w' => e = .returned (.bool (decide (A = B))) ∧ ∃ m, w' = w.drewN m := by
  have H : Hid (decide (A = B) = false) := decide_eq_false (fun e => hne (by rw [← hA, ← hB, e]))
  have hq : ((la : Int) != (lb : Int)) = true := by simp; omega
  clear hA hB
  go_enter Tryd.func32, Tryd.ntmps32
  go_wp2
  go_ret
  exact ⟨ret_boolG H.out.symm, 0, rfl⟩
theorem bsm_zero (a b : Option Addr) (ca cb : Nat) (w : World) :
    Calls Tryd.prog 32 #[.slice a 0 ca, .slice b 0 cb] w fun e w' => e = .returned (.bool true) ∧ ∃ m, w' = w.drewN m := by
  go_enter Tryd.func32, Tryd.ntmps32
  go_wp2
  refine wp_loop_rounds 1 ?_
  rw [rounds_succ]
  go_wp2
  go_ret
  exact ⟨rfl, 0, rfl⟩
/-- sameBytes: are the two lists the same? -/
theorem bsm_any (a b : Option Addr) (la ca lb cb : Nat) (A B : List Int) (w : World) (hA : Row w a la A) (hB : Row w b lb B) (hm : la ≤ 9223372036854775807) :
    Calls Tryd.prog 32 #[.slice a la ca, .slice b lb cb] w fun e w' => e = .returned (.bool (decide (A = B))) ∧ ∃ m, w' = w.drewN m := by
  by_cases hne : la = lb
  · subst hne
    by_cases h0 : la = 0
    · subst h0
      have e1 := List.length_eq_zero_iff.1 hA.len
      have e2 := List.length_eq_zero_iff.1 hB.len
      subst e1 e2
      exact (bsm_zero a b ca cb w).mono fun e w' h => h
    · obtain ⟨ba, oa, rfl, hca⟩ := hA.cells.resolve_left h0
      obtain ⟨bb, ob, rfl, hcb⟩ := hB.cells.resolve_left h0
      exact bsm_core ba oa ca bb ob cb la A B w hA.len hB.len hm hca hcb
  · exact bsm_ne_len a b la ca lb cb A B w hA.len hB.len hne


/-- spoil of bytes that lie in a block of their own. -/
theorem spoil_any {w : World} {g n c : Nat} {cs : Array Value} (h : w.heap[g]? = some (.cells cs 5 (0, 0))) (hn : n ≤ cs.size) (hb : ∀ i, i < n → ∃ z : Int, cs[i]? = some (.int .u8 z)) (hm : (n : Int) ≤ 1048576) (hnc : n ≤ c) :
    Calls Tryd.prog 33 #[.slice (some ⟨g, 0, none⟩) n c] w fun e w' => e = .returned (.tuple #[]) ∧ But (fun k => k = g) w w' := by
  have HB : Hid _ := hide hb
  have HH : Hid _ := hide h
  have HN : Hid _ := hide hn
  have hcI : (n : Int) ≤ (c : Int) := by omega
  clear h hb hn
  go_enter Tryd.func33, Tryd.ntmps33
  go_wp2_with fail
  go_loopw [2] (fun iv wr => ∃ (k : Nat) (ds : Array Value), iv = .int .i64 (k : Int) ∧ k ≤ n ∧ Hid (wr.heap[g]? = some (.cells ds 5 (0, 0)) ∧ ds.size = cs.size ∧ ∀ i, i < n → ∃ z : Int, ds[i]? = some (.int .u8 z)) ∧ Hid (But (fun k => k = g) w wr)) (fun iv _ => n - (intOf iv).toNat)
  case atStart => exact ⟨0, cs, rfl, Nat.zero_le _, hide ⟨HH.out, rfl, HB.out⟩, hide (But.refl _ _)⟩
  case round =>
    obtain ⟨k, ds, rfl, hk, HD, HBk⟩ := hrel
    rename World => wr
    by_cases hlt : k < n
    · have hltI : (k : Int) < (n : Int) := by omega
      have hks : k < ds.size := by have := HD.out.2.1; have := HN.out; omega
      obtain ⟨z, hz⟩ := HD.out.2.2 k hlt
      have x0 : wr.cell? ⟨g, k, none⟩ = some (.int .u8 z) := by rw [cell_of_row wr _ _ _ _ (0, 0) HD.out.1]; exact hz
      have f0 := frz HD.out.1 k
      have HNX : Hid (∀ v : Int, (wr.setCell ⟨g, k, none⟩ (.int .u8 v)).heap[g]? = some (.cells (ds.setIfInBounds k (.int .u8 v)) 5 (0, 0)) ∧ (ds.setIfInBounds k (.int .u8 v)).size = cs.size ∧ ∀ i, i < n → ∃ z : Int, (ds.setIfInBounds k (.int .u8 v))[i]? = some (.int .u8 z)) := hide (fun v => by
        refine ⟨set1_heap _ HD.out.1, by simpa using HD.out.2.1, fun i hi => ?_⟩
        rw [Array.getElem?_setIfInBounds]
        by_cases hik : k = i
        · subst hik
          rw [if_pos rfl, if_pos hks]
          exact ⟨v, rfl⟩
        · rw [if_neg hik]
          exact HD.out.2.2 i hi)
      clear hz
      go_wp2_with fail
      exact ⟨⟨k + 1, _, by go_num, by omega, hide (HNX.out _), hide (HBk.out.setCell ⟨g, k, none⟩ (fun _ => rfl) _)⟩, by simp [intOf]; omega⟩
    · have hltI : ¬ (k : Int) < (n : Int) := by omega
      go_wp2
      go_end0
      exact ⟨rfl, HBk.out⟩
end Go.Proofs.YtamoioebgnmcaaaDoor
