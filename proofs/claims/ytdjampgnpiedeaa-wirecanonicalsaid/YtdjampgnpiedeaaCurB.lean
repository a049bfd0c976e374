/-
  The cursor's Bytes.
-/
import Derived.Test.YtdjampgnpiedeaaCurN
import Derived.Deep.RegionLawGrows
namespace Go.Proofs.Ytdjampgnpiedeaa
open Go.RowKit

set_option maxHeartbeats 1600000 in
theorem bc_good (bn bx g b n c p k : Nat) (zs : List Int) (w : World) (hk : w.cell? ⟨bn, 0, none⟩ = some (.int .i64 k)) (hx : w.cell? ⟨bx, 0, none⟩ = some (.pointer (some ⟨g, 0, none⟩))) (h0 : w.cell? ⟨g, 0, none⟩ = some (.slice (some ⟨b, 0, none⟩) n c)) (h1 : w.cell? ⟨g, 1, none⟩ = some (.int .i64 p)) (hp : p ≤ n) (hn : n ≤ 225000000000000) (hnc : n ≤ c) (hcm : c ≤ 9223372036854775807)
    (hr : Row w (some ⟨b, 0, none⟩) n zs) (hk0 : 0 < k) (hpk : p + k ≤ n) (hk47 : k ≤ 140737488355328) :
    Calls Try.prog 40 #[.pointer (some ⟨bn, 0, none⟩), .pointer (some ⟨bx, 0, none⟩)] w fun e w' => ∃ v, e = .returned (.tuple #[v, .int .i64 ((p : Int) + k), .int .i64 0]) ∧ w'.ownsRow w.heap.size 5 1 v k (((zs.drop p).take k).map (Value.int .u8)) ∧ Below w.heap.size w w' := by
  obtain ⟨i0, hi, hz0, hz1, hz2⟩ := info_parts Try.info5
  have HL := fun m => left_any g n c p (some ⟨b, 0, none⟩) (w.drewN m) h0 h1 hp hn
  have HH : Hid _ := HL
  have HR : Hid (∀ j u, (((zs.drop p).take k).map (Value.int .u8))[j]? = some u → w.cell? ((⟨b, p, none⟩ : Addr).add j) = some u) := by
    intro j u hu
    have hl := hr.len
    have hj : j < k := by
      by_cases h : j < k
      · exact h
      · rw [List.getElem?_eq_none (by simp; omega)] at hu; cases hu
    have hc := (hr.cells.resolve_left (by omega))
    obtain ⟨b', off', he, hcell⟩ := hc
    cases he
    have ha : (⟨b, p, none⟩ : Addr).add j = ⟨b, 0 + (p + j), none⟩ := by unfold Addr.add; split <;> simp_all
    rw [ha, hcell (p + j) (by omega)]
    rw [List.getElem?_map, List.getElem?_take, if_pos hj, List.getElem?_drop] at hu
    simp [show p + j < zs.length by omega] at hu ⊢
    exact hu
  have hl : (((zs.drop p).take k).map (Value.int .u8)).length = k * 1 := by have := hr.len; simp; omega
  have HLn : Hid _ := hl
  clear HL hr hl
  have hd : decide ((k : Int) < 0) = false := by simp
  have hg : decide ((n : Int) - p < (k : Int)) = false := by simp; omega
  have e1 : ((p : Int) + (k : Int)).toNat = p + k := by omega
  have hA : 0 ≤ (p : Int) + (k : Int) := by omega
  have hB : (p : Int) + (k : Int) ≤ (c : Int) := by omega
  have hC : ¬ c = p := by omega
  go_enter Try.func40, Try.ntmps40
  go_wp2
  go_quiet ((go_at_call 30; exact Calls.quiet_of (HH.out _)))
  go_wp2
  go_quiet (fail)
  go_wp2
  go_region_law (refine step_append_grows rfl (.const (.slice none 0 0)) (.tmp 29) 28 rfl 5 i0 (.int .u8 0) 1 1 Try.underlying28 hi hz0 hz1 hz2 rfl (by decide) none 0 0 [] rfl (fun _ => ⟨rfl, rfl⟩) rfl (fun _ h => by cases h) ⟨b, p, none⟩ k (c - p) (((zs.drop p).take k).map (Value.int .u8)) (by simp [Act.eval, Act.put]) HLn.out HR.out (ints_oneCell _ _) (by omega) (by unfold maxLen; omega) (by omega) ?_; intro v' w' hown hgrow)
  all_goals
    go_wp2
    go_ret3
    simp only [Nat.zero_add, List.nil_append] at hown
    exact ⟨v', rfl, hown, (below_drewN (Below.refl _ _) _).grown hgrow (Nat.le_refl _) (fun k h => by cases h)⟩
end Go.Proofs.Ytdjampgnpiedeaa
