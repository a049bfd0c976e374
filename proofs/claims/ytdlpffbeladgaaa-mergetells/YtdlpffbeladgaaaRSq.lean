/-
  The document's Split of what can't be cut; MergeSplits.
-/
import Derived.Test.YtdlpffbeladgaaaRSp
import Derived.Test.YtdlpffbeladgaaaLwA
namespace Go.Proofs.Ytdlpffbeladgaaa
open Go.RowKit
set_option maxRecDepth 8000 in
set_option maxHeartbeats 3200000 in
theorem rsplit_bad (w : World) (a b : Option Addr) (n c m d : Nat) (es : List Vt) (hr : TRow layV w a n es) (hn : (n : Int) ≤ 9000000000000000000) (hm : (m : Int) ≤ 9000000000000000000) (hf : tfault es m ≠ 0) :
    Calls Try.prog 26 #[.slice a n c, .slice b m d] w fun r w' => r = .returned (.tuple #[.slice none 0 0, .int .i64 (tfault es m)]) ∧ Below w.heap.size w w' := by
  have HR : Hid _ := hide hr
  have HT : Hid (tfault es m = if 1048576 < n then 3 else if m ≠ n then 2 else if es.any noG then 61 else 0) := hide (by unfold tfault; rw [hr.len])
  have HL : Hid _ := hide hr.len
  have HF : Hid _ := hide hf
  clear hr hf
  by_cases h1 : 1048576 < n
  · have h1I : (1048576 : Int) < (n : Int) := by omega
    go_enter Try.func26, Try.ntmps26
    go_wp2
    go_ret2
    exact ⟨by rw [HT.out, if_pos h1]; rfl, Below.refl _ _⟩
  · have h1I : ¬ (1048576 : Int) < (n : Int) := by omega
    by_cases h2 : m = n
    · subst h2
      go_enter Try.func26, Try.ntmps26
      go_wp2_with fail
      go_loopw [6] (fun i wr => ∃ k : Nat, i = .int .i64 k ∧ k ≤ m ∧ Hid ((es.take k).any noG = false) ∧ Hid (Below w.heap.size w wr)) (fun i _ => m - numV i)
      case atStart => exact ⟨0, rfl, Nat.zero_le _, hide rfl, hide (Below.refl _ _)⟩
      case round =>
        obtain ⟨k, rfl, hk, HK, HB⟩ := hrel
        by_cases hlt : k < m
        · have hltI : (k : Int) < (m : Int) := by omega
          obtain ⟨e, he⟩ : ∃ e, es[k]? = some e := ⟨_, List.getElem?_eq_getElem (by rw [HL.out]; exact hlt)⟩
          obtain ⟨lb, lo, rfl, _, hc⟩ := (HR.out.below HB.out).at (by omega)
          have x0 := hc k e he 0 _ rfl
          simp only [layV, Nat.add_zero] at x0
          have HE : Hid _ := hide he
          have HN : Hid (noG e = (decide (e.g < 0) || decide (65536 ≤ e.g))) := hide rfl
          have HS : Hid ((es.take (k + 1)).any noG = noG e) := hide (by
            have hlk : k < es.length := by rw [HL.out]; exact hlt
            rw [List.take_succ_eq_append_getElem hlk, List.any_append, HK.out]
            rw [List.getElem?_eq_getElem hlk] at he
            rw [Option.some.inj he]; simp)
          clear hc he
          by_cases hA : e.g < 0
          · have hA9 : Hid (noG e = true) := hide (by rw [HN.out]; simp [hA])
            go_wp2
            go_ret2
            refine ⟨?_, HB.out⟩
            rw [HT.out, if_neg h1, if_neg (by simp), if_pos (List.any_eq_true.2 ⟨_, List.mem_of_getElem? HE.out, hA9.out⟩)]; rfl
          · by_cases hC : 65536 ≤ e.g
            · have hA9 : Hid (noG e = true) := hide (by rw [HN.out]; simp [hC])
              go_wp2
              go_ret2
              refine ⟨?_, HB.out⟩
              rw [HT.out, if_neg h1, if_neg (by simp), if_pos (List.any_eq_true.2 ⟨_, List.mem_of_getElem? HE.out, hA9.out⟩)]; rfl
            · go_wp2
              exact ⟨⟨k + 1, by go_num, by omega, hide (by rw [HS.out, HN.out]; simp; omega), HB⟩, by simp [numV]; omega⟩
        · exfalso
          obtain rfl : k = m := by omega
          have h9 := HK.out
          rw [List.take_of_length_le (by rw [HL.out]; exact Nat.le_refl _)] at h9
          exact HF.out (by rw [HT.out, if_neg h1, if_neg (by simp), h9]; simp)
    · have h2I : ¬ (m : Int) = (n : Int) := by omega
      go_enter Try.func26, Try.ntmps26
      go_wp2
      go_ret2
      exact ⟨by rw [HT.out, if_neg h1, if_pos h2]; rfl, Below.refl _ _⟩
end Go.Proofs.Ytdlpffbeladgaaa
