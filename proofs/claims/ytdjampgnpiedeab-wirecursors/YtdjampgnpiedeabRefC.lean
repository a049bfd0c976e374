/-
  The document's cursor: Bytes, where they are there.
-/
import Derived.Test.YtdjampgnpiedeabRefB
import Derived.Test.YtdjampgnpiedeabCurY
namespace Go.Proofs.Ytdjampgnpiedeab
open Go.RowKit

set_option maxHeartbeats 1600000 in
theorem rcb_some (g b n c p k : Nat) (zs : List Int) (w : World) (h0 : w.cell? ⟨g, 0, none⟩ = some (.slice (some ⟨b, 0, none⟩) n c)) (h1 : w.cell? ⟨g, 1, none⟩ = some (.int .i64 p)) (h2 : w.cell? ⟨g, 2, none⟩ = some (.int .i64 0)) (fr : w.frozen? ⟨g, 1, none⟩ = false) (hgl : g < w.heap.size) (hp : p ≤ n) (hn : n ≤ 140737488355328) (hnc : n ≤ c) (hcm : c ≤ 9223372036854775807)
    (hr : Row w (some ⟨b, 0, none⟩) n zs) (hk0 : 0 < k) (hpk : p + k ≤ n) :
    Calls Try.prog 16 #[.pointer (some ⟨g, 0, none⟩), .int .i64 k] w fun e w' => ∃ v w1, e = .returned v ∧ w1.ownsRow w.heap.size 5 1 v k (((zs.drop p).take k).map (Value.int .u8)) ∧ Below w.heap.size w w1 ∧ w' = w1.setCell ⟨g, 1, none⟩ (.int .i64 ((p + k : Nat) : Int)) := by
  obtain ⟨i0, hi, hz0, hz1, hz2⟩ := info_parts Try.info5
  have HR : Hid (∀ j u, (((zs.drop p).take k).map (Value.int .u8))[j]? = some u → w.cell? ((⟨b, p, none⟩ : Addr).add j) = some u) := by
    intro j u hu
    have hl := hr.len
    have hj : j < k := by
      by_cases h : j < k
      · exact h
      · rw [List.getElem?_eq_none (by simp; omega)] at hu; cases hu
    have hc := (hr.cells.resolve_left (by omega))
    obtain ⟨b', off', he, hcell⟩ := hc
    cases he
    have ha : (⟨b, p, none⟩ : Addr).add j = ⟨b, 0 + (p + j), none⟩ := by unfold Addr.add; split <;> simp_all
    rw [ha, hcell (p + j) (by omega)]
    rw [List.getElem?_map, List.getElem?_take, if_pos hj, List.getElem?_drop] at hu
    simp [show p + j < zs.length by omega] at hu ⊢
    exact hu
  have hl : (((zs.drop p).take k).map (Value.int .u8)).length = k * 1 := by have := hr.len; simp; omega
  have HLn : Hid _ := hl
  clear hr hl
  have hd : decide ((k : Int) < 0) = false := by simp
  have hg : decide ((n : Int) - p < (k : Int)) = false := by simp; omega
  have e1 : ((p : Int) + (k : Int)).toNat = p + k := by omega
  have hA : 0 ≤ (p : Int) + (k : Int) := by omega
  have hB : (p : Int) + (k : Int) ≤ (c : Int) := by omega
  have hC : ¬ c = p := by omega
  have hwr : IntKind.i64.wrap ((p : Int) + (k : Int)) = (p : Int) + (k : Int) := IntWalk.i64_in _ ⟨by omega, by omega⟩
  go_enter Try.func16, Try.ntmps16
  go_wp2
  go_quiet (fail)
  go_wp2
  go_region_law (refine step_append_grows rfl (.tmp 34) (.tmp 49) 22 rfl 5 i0 (.int .u8 0) 1 1 Try.underlying22 hi hz0 hz1 hz2 rfl (by decide) none 0 0 [] (by simp [Act.eval, Act.put]) (fun _ => ⟨rfl, rfl⟩) rfl (fun _ h => by cases h) ⟨b, p, none⟩ k (c - p) (((zs.drop p).take k).map (Value.int .u8)) (by simp [Act.eval, Act.put]) HLn.out HR.out (ints_oneCell _ _) (by omega) (by unfold maxLen; omega) (by omega) ?_; intro v' w' hown hgrow)
  all_goals
    have hb1 : Below w.heap.size w w' := (below_drewN (Below.refl _ _) _).grown hgrow (Nat.le_refl _) (fun k h => by cases h)
    have k1 : w'.cell? ⟨g, 1, none⟩ = some (.int .i64 p) := (hb1.cell (p := ⟨g, 1, none⟩) hgl).trans h1
    have k2 : w'.frozen? ⟨g, 1, none⟩ = false := (hb1.frozen (p := ⟨g, 1, none⟩) hgl).trans fr
    go_wp2
    go_ret
    simp only [Nat.zero_add, List.nil_append] at hown
    exact ⟨v', w', rfl, hown, hb1, rfl⟩
set_option maxHeartbeats 1600000 in
theorem rcb_zero (g b n c p : Nat) (w : World) (h0 : w.cell? ⟨g, 0, none⟩ = some (.slice (some ⟨b, 0, none⟩) n c)) (h1 : w.cell? ⟨g, 1, none⟩ = some (.int .i64 p)) (h2 : w.cell? ⟨g, 2, none⟩ = some (.int .i64 0)) (fr : w.frozen? ⟨g, 1, none⟩ = false) (hp : p ≤ n) (hnc : n ≤ c) (hcm : c ≤ 9223372036854775807) (hC : ¬ c = p) :
    Calls Try.prog 16 #[.pointer (some ⟨g, 0, none⟩), .int .i64 0] w fun e w' => e = .returned (.slice none 0 0) ∧ ∃ m, w' = (w.drewN m).setCell ⟨g, 1, none⟩ (.int .i64 p) := by
  have hg : decide ((n : Int) - p < 0) = false := by simp; omega
  have hA : 0 ≤ (p : Int) := by omega
  have hB : (p : Int) ≤ (c : Int) := by omega
  go_enter Try.func16, Try.ntmps16
  go_wp2
  go_quiet (fail)
  go_wp2
  go_region
  all_goals
    go_wp2
    go_ret
    exact ⟨rfl, _, rfl⟩
set_option maxHeartbeats 1600000 in
theorem rcb_zero_end (g b n : Nat) (w : World) (h0 : w.cell? ⟨g, 0, none⟩ = some (.slice (some ⟨b, 0, none⟩) n n)) (h1 : w.cell? ⟨g, 1, none⟩ = some (.int .i64 n)) (h2 : w.cell? ⟨g, 2, none⟩ = some (.int .i64 0)) (fr : w.frozen? ⟨g, 1, none⟩ = false) (hn : n ≤ 140737488355328) :
    Calls Try.prog 16 #[.pointer (some ⟨g, 0, none⟩), .int .i64 0] w fun e w' => e = .returned (.slice none 0 0) ∧ ∃ m, w' = (w.drewN m).setCell ⟨g, 1, none⟩ (.int .i64 n) := by
  have hA : 0 ≤ (n : Int) := by omega
  go_enter Try.func16, Try.ntmps16
  go_wp2
  go_quiet (fail)
  go_wp2
  go_region
  all_goals
    go_wp2
    go_ret
    exact ⟨rfl, _, rfl⟩
set_option maxHeartbeats 1600000 in
theorem rcb_zero_none (g : Nat) (w : World) (h0 : w.cell? ⟨g, 0, none⟩ = some (.slice none 0 0)) (h1 : w.cell? ⟨g, 1, none⟩ = some (.int .i64 0)) (h2 : w.cell? ⟨g, 2, none⟩ = some (.int .i64 0)) (fr : w.frozen? ⟨g, 1, none⟩ = false) :
    Calls Try.prog 16 #[.pointer (some ⟨g, 0, none⟩), .int .i64 0] w fun e w' => e = .returned (.slice none 0 0) ∧ ∃ m, w' = (w.drewN m).setCell ⟨g, 1, none⟩ (.int .i64 0) := by
  go_enter Try.func16, Try.ntmps16
  go_wp2
  go_quiet (fail)
  go_wp2
  go_region
  all_goals
    go_wp2
    go_ret
    exact ⟨rfl, _, rfl⟩
end Go.Proofs.Ytdjampgnpiedeab
