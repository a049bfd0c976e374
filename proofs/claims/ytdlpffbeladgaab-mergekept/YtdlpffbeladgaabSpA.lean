/-
  Why a trace can't be cut.
-/
import Derived.Test.YtdlpffbeladgaabMgT
namespace Go.Proofs.Ytdlpffbeladgaab
open Go.RowKit
/-- An event of no goroutine. -/
def noG (e : Vt) : Bool := decide (e.g < 0) || decide (65536 ≤ e.g)
def tfault (es : List Vt) (m : Nat) : Int := if 1048576 < es.length then 3 else if m ≠ es.length then 2 else if es.any noG then 61 else 0
set_option maxRecDepth 8000 in
set_option maxHeartbeats 1600000 in
theorem tf_any (w : World) (a b : Option Addr) (n c m d : Nat) (es : List Vt) (hr : TRow layV w a n es) (hn : (n : Int) ≤ 9000000000000000000) (hm : (m : Int) ≤ 9000000000000000000) :
    Calls Try.prog 14 #[.slice a n c, .slice b m d] w fun r w' => r = .returned (.int .i64 (tfault es m)) ∧ Below w.heap.size w w' := by
  have hln := hr.len
  have HR : Hid _ := hide hr
  have HT : Hid (tfault es m = if 1048576 < n then 3 else if m ≠ n then 2 else if es.any noG then 61 else 0) := hide (by unfold tfault; rw [hln])
  have HL : Hid _ := hide hln
  clear hr hln
  by_cases h1 : 1048576 < n
  · have h1I : (1048576 : Int) < (n : Int) := by omega
    go_enter Try.func14, Try.ntmps14
    go_wp2
    go_ret
    exact ⟨ret_int (by rw [HT.out, if_pos h1]), Below.refl _ _⟩
  · have h1I : ¬ (1048576 : Int) < (n : Int) := by omega
    by_cases h2 : m = n
    · subst h2
      go_enter Try.func14, Try.ntmps14
      go_wp2_with fail
      go_loopw [17] (fun i wr => ∃ k : Nat, i = .int .i64 k ∧ k ≤ m ∧ Hid ((es.take k).any noG = false) ∧ Below w.heap.size w wr) (fun i _ => m - (intOf i).toNat)
      case atStart => exact ⟨0, rfl, Nat.zero_le _, hide rfl, Below.refl _ _⟩
      case round =>
        obtain ⟨k, rfl, hk, HK, hb⟩ := hrel
        have HB : Hid _ := hide hb
        by_cases hlt : k < m
        · have hltI : (k : Int) < (m : Int) := by omega
          obtain ⟨e, he⟩ : ∃ e, es[k]? = some e := ⟨_, List.getElem?_eq_getElem (by rw [HL.out]; exact hlt)⟩
          obtain ⟨lb, lo, rfl, _, hc⟩ := (HR.out.below hb).at (by omega)
          have x0 := hc k e he 0 _ rfl
          have x1 := hc k e he 1 _ rfl
          have x2 := hc k e he 2 _ rfl
          have x3 := hc k e he 3 _ rfl
          have x4 := hc k e he 4 _ rfl
          simp only [layV, Nat.add_zero] at x0 x1 x2 x3 x4
          have HE : Hid _ := hide he
          have HN : Hid (noG e = (decide (e.g < 0) || decide (65536 ≤ e.g))) := hide rfl
          have HS : Hid ((es.take (k + 1)).any noG = noG e) := hide (by
            have hlk : k < es.length := by rw [HL.out]; exact hlt
            rw [List.take_succ_eq_append_getElem hlk, List.any_append, HK.out]
            rw [List.getElem?_eq_getElem hlk] at he
            rw [Option.some.inj he]; simp)
          clear hc he hb
          obtain ⟨eg, ek, eo, ea, es0⟩ := e
          dsimp only at x0 x1 x2 x3 x4
          by_cases hA : eg < 0
          · have hA9 : Hid (noG ⟨eg, ek, eo, ea, es0⟩ = true) := hide (by rw [HN.out]; simp [hA])
            go_wp2
            go_ret
            refine ⟨ret_int ?_, HB.out.alloc HB.out.size _⟩
            rw [HT.out, if_neg h1, if_neg (by simp), if_pos (List.any_eq_true.2 ⟨_, List.mem_of_getElem? HE.out, hA9.out⟩)]
          · by_cases hC : 65536 ≤ eg
            · have hA9 : Hid (noG ⟨eg, ek, eo, ea, es0⟩ = true) := hide (by rw [HN.out]; simp [hC])
              go_wp2
              go_ret
              refine ⟨ret_int ?_, HB.out.alloc HB.out.size _⟩
              rw [HT.out, if_neg h1, if_neg (by simp), if_pos (List.any_eq_true.2 ⟨_, List.mem_of_getElem? HE.out, hA9.out⟩)]
            · go_wp2
              go_roundw
              case rel => exact ⟨k + 1, by go_num, by omega, hide (by rw [HS.out, HN.out]; simp; omega), HB.out.alloc HB.out.size _⟩
              case measure => simp [intOf]; omega
        · have hltI : ¬ (k : Int) < (m : Int) := by omega
          obtain rfl : k = m := by omega
          clear hb
          go_wp2
          go_ret
          refine ⟨ret_int ?_, HB.out⟩
          have h9 := HK.out
          rw [List.take_of_length_le (by rw [HL.out]; exact Nat.le_refl _)] at h9
          rw [HT.out, if_neg h1, if_neg (by simp), h9]; simp
    · have h2I : ¬ (m : Int) = (n : Int) := by omega
      go_enter Try.func14, Try.ntmps14
      go_wp2
      go_ret
      exact ⟨ret_int (by rw [HT.out, if_neg h1, if_pos h2]), Below.refl _ _⟩
end Go.Proofs.Ytdlpffbeladgaab
