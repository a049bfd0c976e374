/-
  strconv's index, contains, unhex.
-/
import Derived.Test.YtpnacioliccglaaDoorDuC
import Derived.Lib.Bytealg
import Derived.Lib.IndexLaws
import Derived.Shelf.RegionOpenPlain
namespace Go.Proofs.YtpnacioliccglaaDoor
open Go.RowKit Go.Maps Go.Shelf
set_option linter.unusedVariables false
set_option maxRecDepth 20000 in
theorem scIndex_any (s : ByteArray) (c : Int) (w : World) : Calls Tryd.prog 93 #[.string s, .int .u8 c] w fun e w' => e = .returned (.int .i64 (Lib.indexByte s.data.toList c.toNat.toUInt8)) ∧ w' = w := by
  go_enter Tryd.func93, Tryd.ntmps93
  go_wp2
  rw [run_callFunc_extern Tryd.func116 (by kernel_rfl) (by kernel_rfl) (by kernel_rfl) (e := Extern.BytealgIndexByte.indexByte) (by kernel_rfl), Lib.run_indexByteString]
  simp only [Result.andThen]
  rw [Oper.upon_value]
  go_wp2
  go_ret
  exact ⟨rfl, rfl⟩
theorem scContains_any (s : ByteArray) (c : Int) (w : World) : Calls Tryd.prog 94 #[.string s, .int .u8 c] w fun e w' => e = .returned (.bool (Lib.indexByte s.data.toList c.toNat.toUInt8 != -1)) ∧ w' = w := by
  have HC := hide (scIndex_any s c w)
  generalize Lib.indexByte s.data.toList c.toNat.toUInt8 = x at HC ⊢
  go_enter Tryd.func94, Tryd.ntmps94
  go_wp2_with fail
  refine HC.out.mono ?_
  rintro e w2 ⟨rfl, rfl⟩
  go_wp2
  go_ret
  exact ⟨rfl, rfl⟩
/-- The worth of a digit to the base 16. -/
def hexV (b : Nat) : Option Nat := if 48 ≤ b ∧ b ≤ 57 then some (b - 48) else if 97 ≤ b ∧ b ≤ 102 then some (b - 87) else if 65 ≤ b ∧ b ≤ 70 then some (b - 55) else none
set_option maxRecDepth 8000 in
theorem scUnhex_any (b : Nat) (hb : b < 256) (w : World) : Calls Tryd.prog 119 #[.int .u8 (b : Int)] w fun e w' => ∃ v : Nat, e = .returned (.tuple #[.int .i32 (v : Int), .bool (hexV b).isSome]) ∧ v < 16 ∧ (∀ x, hexV b = some x → v = x) ∧ w' = w := by
  by_cases h1 : 48 ≤ b ∧ b ≤ 57
  · have e1 : hexV b = some (b - 48) := by unfold hexV; rw [if_pos h1]
    obtain ⟨v, hv⟩ : ∃ v : Nat, v = b - 48 := ⟨_, rfl⟩
    have HV := hide hv
    have f0 : (48 : Int) ≤ b := by omega
    have f1 : (b : Int) ≤ 57 := by omega
    have f2 : (b : Int) - 48 = (v : Int) := by omega
    have H : Calls Tryd.prog 119 #[.int .u8 (b : Int)] w fun e w' => e = .returned (.tuple #[.int .i32 (v : Int), .bool true]) ∧ w' = w := by
      clear hv
      clear e1
      go_enter Tryd.func119, Tryd.ntmps119
      go_wp2
      go_ret2
      exact ⟨rfl, rfl⟩
    exact H.mono (by rintro e w' ⟨rfl, rfl⟩; exact ⟨v, by rw [e1]; rfl, by have := HV.out; omega, fun x hx => by rw [e1] at hx; cases hx; exact HV.out, rfl⟩)
  by_cases h2 : 97 ≤ b ∧ b ≤ 102
  · have e1 : hexV b = some (b - 87) := by unfold hexV; rw [if_neg h1, if_pos h2]
    obtain ⟨v, hv⟩ : ∃ v : Nat, v = b - 87 := ⟨_, rfl⟩
    have HV := hide hv
    have f0 : (48 : Int) ≤ b := by omega
    have f1 : ¬ (b : Int) ≤ 57 := by omega
    have f2 : (97 : Int) ≤ b := by omega
    have f3 : (b : Int) ≤ 102 := by omega
    have f4 : (b : Int) - 97 + 10 = (v : Int) := by omega
    have H : Calls Tryd.prog 119 #[.int .u8 (b : Int)] w fun e w' => e = .returned (.tuple #[.int .i32 (v : Int), .bool true]) ∧ w' = w := by
      clear hv
      clear e1
      go_enter Tryd.func119, Tryd.ntmps119
      go_wp2
      go_ret2
      exact ⟨rfl, rfl⟩
    exact H.mono (by rintro e w' ⟨rfl, rfl⟩; exact ⟨v, by rw [e1]; rfl, by have := HV.out; omega, fun x hx => by rw [e1] at hx; cases hx; exact HV.out, rfl⟩)
  by_cases h3 : 65 ≤ b ∧ b ≤ 70
  · have e1 : hexV b = some (b - 55) := by unfold hexV; rw [if_neg h1, if_neg h2, if_pos h3]
    obtain ⟨v, hv⟩ : ∃ v : Nat, v = b - 55 := ⟨_, rfl⟩
    have HV := hide hv
    have f0 : (48 : Int) ≤ b := by omega
    have f1 : ¬ (b : Int) ≤ 57 := by omega
    have f2 : ¬ (97 : Int) ≤ b := by omega
    have f3 : (65 : Int) ≤ b := by omega
    have f4 : (b : Int) ≤ 70 := by omega
    have f5 : (b : Int) - 65 + 10 = (v : Int) := by omega
    have H : Calls Tryd.prog 119 #[.int .u8 (b : Int)] w fun e w' => e = .returned (.tuple #[.int .i32 (v : Int), .bool true]) ∧ w' = w := by
      clear hv
      clear e1
      go_enter Tryd.func119, Tryd.ntmps119
      go_wp2
      go_ret2
      exact ⟨rfl, rfl⟩
    exact H.mono (by rintro e w' ⟨rfl, rfl⟩; exact ⟨v, by rw [e1]; rfl, by have := HV.out; omega, fun x hx => by rw [e1] at hx; cases hx; exact HV.out, rfl⟩)
  have e1 : hexV b = none := by unfold hexV; rw [if_neg h1, if_neg h2, if_neg h3]
  by_cases k1 : b < 48
  · have f0 : ¬ (48 : Int) ≤ b := by omega
    have f1 : ¬ (97 : Int) ≤ b := by omega
    have f2 : ¬ (65 : Int) ≤ b := by omega
    have H : Calls Tryd.prog 119 #[.int .u8 (b : Int)] w fun e w' => e = .returned (.tuple #[.int .i32 ((0 : Nat) : Int), .bool false]) ∧ w' = w := by
      clear e1
      go_enter Tryd.func119, Tryd.ntmps119
      go_wp2
      go_ret2
      exact ⟨rfl, rfl⟩
    exact H.mono (by rintro e w' ⟨rfl, rfl⟩; exact ⟨0, by rw [e1]; rfl, by omega, fun x hx => by (rw [e1] at hx; cases hx), rfl⟩)
  by_cases k2 : b < 65
  · have f0 : (48 : Int) ≤ b := by omega
    have f1 : ¬ (b : Int) ≤ 57 := by omega
    have f2 : ¬ (97 : Int) ≤ b := by omega
    have f3 : ¬ (65 : Int) ≤ b := by omega
    have H : Calls Tryd.prog 119 #[.int .u8 (b : Int)] w fun e w' => e = .returned (.tuple #[.int .i32 ((0 : Nat) : Int), .bool false]) ∧ w' = w := by
      clear e1
      go_enter Tryd.func119, Tryd.ntmps119
      go_wp2
      go_ret2
      exact ⟨rfl, rfl⟩
    exact H.mono (by rintro e w' ⟨rfl, rfl⟩; exact ⟨0, by rw [e1]; rfl, by omega, fun x hx => by (rw [e1] at hx; cases hx), rfl⟩)
  by_cases k3 : b < 97
  · have f0 : (48 : Int) ≤ b := by omega
    have f1 : ¬ (b : Int) ≤ 57 := by omega
    have f2 : ¬ (97 : Int) ≤ b := by omega
    have f3 : (65 : Int) ≤ b := by omega
    have f4 : ¬ (b : Int) ≤ 70 := by omega
    have H : Calls Tryd.prog 119 #[.int .u8 (b : Int)] w fun e w' => e = .returned (.tuple #[.int .i32 ((0 : Nat) : Int), .bool false]) ∧ w' = w := by
      clear e1
      go_enter Tryd.func119, Tryd.ntmps119
      go_wp2
      go_ret2
      exact ⟨rfl, rfl⟩
    exact H.mono (by rintro e w' ⟨rfl, rfl⟩; exact ⟨0, by rw [e1]; rfl, by omega, fun x hx => by (rw [e1] at hx; cases hx), rfl⟩)
  have f0 : (48 : Int) ≤ b := by omega
  have f1 : ¬ (b : Int) ≤ 57 := by omega
  have f2 : (97 : Int) ≤ b := by omega
  have f3 : ¬ (b : Int) ≤ 102 := by omega
  have f4 : (65 : Int) ≤ b := by omega
  have f5 : ¬ (b : Int) ≤ 70 := by omega
  have H : Calls Tryd.prog 119 #[.int .u8 (b : Int)] w fun e w' => e = .returned (.tuple #[.int .i32 ((0 : Nat) : Int), .bool false]) ∧ w' = w := by
    clear e1
    go_enter Tryd.func119, Tryd.ntmps119
    go_wp2
    go_ret2
    exact ⟨rfl, rfl⟩
  exact H.mono (by rintro e w' ⟨rfl, rfl⟩; exact ⟨0, by rw [e1]; rfl, by omega, fun x hx => by (rw [e1] at hx; cases hx), rfl⟩)
end Go.Proofs.YtpnacioliccglaaDoor
