/-
  bodiesSame.
-/
import Derived.Test.YtdppbaipmmcjbaaDoorEqs
import Derived.Test.YtdppbaipmmcjbaaDoorRowz
import Derived.Deep.QuietTactic
import Derived.BigQuiet
namespace Go.Proofs.YtdppbaipmmcjbaaDoor
open Go.RowKit
theorem sl_any (a b : Option Addr) (n ca m cb : Nat) (A B : List (List Int)) (w : World) (hA : LRow w a n A) (hB : LRow w b m B) (hn : (n : Int) ≤ 9223372036854775806) :
    Calls Tryd.prog 12 #[.slice a n ca, .slice b m cb] w fun e w' => e = .returned (.bool (decide (A = B))) ∧ ∃ k, w' = w.drewN k := by
  have hla := hA.len
  have hlb := hB.len
  by_cases hnm : n = m
  · subst hnm
    have H1 : Hid (LRow w a n A) := hA
    have H2 : Hid (LRow w b n B) := hB
    have L1 : Hid (A.length = n) := hla
    have L2 : Hid (B.length = n) := hlb
    clear hA hB hla hlb
    go_enter Tryd.func12, Tryd.ntmps12
    go_wp2
    go_loopw [5] (fun i wr => ∃ k q : Nat, k ≤ n ∧ i = .int .i64 k ∧ wr = w.drewN q ∧ A.take k = B.take k) (fun i _ => n - (intOf i).toNat)
    case atStart => exact ⟨0, 0, Nat.zero_le _, rfl, rfl, rfl⟩
    case round =>
      obtain ⟨k, q, hk, rfl, hw, he⟩ := hrel
      have HW : Hid (wr = w.drewN q) := hw
      have H1r : Hid (LRow wr a n A) := hide (by rw [hw]; exact H1.out.below (below_drewN (Below.refl _ _) q))
      have H2r : Hid (LRow wr b n B) := hide (by rw [hw]; exact H2.out.below (below_drewN (Below.refl _ _) q))
      clear hw
      have HE : Hid (A.take k = B.take k) := he
      clear he
      by_cases hlt : k < n
      · obtain ⟨b1, o1, x, ax, cx, rfl, hx, hcx, hrx, hnx, hxc, hxl⟩ := H1r.out.at hlt
        obtain ⟨b2, o2, y, ay, cy, rfl, hy, hcy, hry, hny, _⟩ := H2r.out.at hlt
        have HQ : Hid (∀ j, Calls Tryd.prog 34 #[.slice ax x.length cx, .slice ay y.length cy] (wr.drewN j) fun e w' => e = .returned (.bool (decide (x = y))) ∧ ∃ k, w' = (wr.drewN j).drewN k) := hide (fun j => same_any ax ay x.length cx y.length cy x y (wr.drewN j) (hrx.drewN j) (hry.drewN j) (by omega))
        have HS : Hid ((A.take (k + 1) = B.take (k + 1)) ↔ x = y) := take_eq_step hx hy HE.out
        clear hx hy hrx hry hnx hny hxc hxl
        by_cases hxy : x = y
        · rw [decide_eq_true hxy] at HQ
          have HN : Hid (A.take (k + 1) = B.take (k + 1)) := HS.out.2 hxy
          clear hxy
          go_wp2
          go_quiet ((go_at_call 34; exact Calls.quiet_of (HQ.out _)))
          go_wp2
          exact ⟨⟨k + 1, q + nq, by omega, by go_num, by rw [HW.out]; exact World.drewN_drewN _ _ _, HN.out⟩, by simp [intOf]; omega⟩
        · rw [decide_eq_false hxy] at HQ
          have HN : Hid (decide (A = B) = false) := decide_eq_false (fun e => hxy (HS.out.1 (by rw [e])))
          clear hxy
          go_wp2
          go_quiet ((go_at_call 34; exact Calls.quiet_of (HQ.out _)))
          go_wp2
          go_ret
          exact ⟨ret_bool HN.out.symm, q + nq, by rw [HW.out]; exact World.drewN_drewN _ _ _⟩
      · have HN : Hid (decide (A = B) = true) := hide (decide_eq_true (by
          have e := HE.out
          rwa [List.take_of_length_le (by have := L1.out; omega), List.take_of_length_le (by have := L2.out; omega)] at e))
        go_wp2
        go_ret
        exact ⟨ret_bool HN.out.symm, q, HW.out⟩
  · have HN : Hid (decide (A = B) = false) := decide_eq_false (fun e => hnm (by rw [← hla, ← hlb, e]))
    have hq : ((n : Int) != (m : Int)) = true := by simp; omega
    generalize decide (A = B) = r at HN ⊢
    clear hA hB hla hlb
    go_enter Tryd.func12, Tryd.ntmps12
    go_wp2
    go_ret
    exact ⟨ret_bool HN.out.symm, 0, rfl⟩
end Go.Proofs.YtdppbaipmmcjbaaDoor
