/-
  strconv.UnquoteChar.
-/
import Derived.Test.YtpnacioliccglaaDoorDvE
namespace Go.Proofs.YtpnacioliccglaaDoor
open Go.RowKit Go.Maps Go.Shelf
set_option linter.unusedVariables false
/-- What UnquoteChar answers. -/
structure UcP (z : ByteArray) (q : Nat) (E : Value) (e : Ending) : Prop where
  gen : e = .returned (ucE E) ∨ ucA z e
  one : q = 34 → bA z 0 < 128 → bA z 0 ≠ 92 → bA z 0 ≠ 34 → e = .returned (ucO z (bA z 0) false 1)
  big : q = 34 → 128 ≤ bA z 0 → e = .returned (ucO z ((Utf8.decode z 0).1 : Int) true (Utf8.decode z 0).2)
  esc : q = 34 → 1 < z.size → bA z 0 = 92 → bA z 1 = 92 ∨ bA z 1 = 34 → e = .returned (ucO z (bA z 1) false 2)
  ltr : q = 34 → 1 < z.size → bA z 0 = 92 → ∀ r : Nat, (bA z 1 = 110 ∧ r = 10) ∨ (bA z 1 = 114 ∧ r = 13) ∨ (bA z 1 = 116 ∧ r = 9) → e = .returned (ucO z r false 2)
  hex : q = 34 → 4 ≤ z.size → bA z 0 = 92 → bA z 1 = 120 → ∀ x y : Nat, hexV (bA z 2) = some x → hexV (bA z 3) = some y → e = .returned (.tuple #[.int .i32 ((16 * x + y : Nat) : Int), .bool false, .string (frm (frm z 2) 2), .nilIface])
theorem ucO_gen {z : ByteArray} {r : Int} {mb : Bool} {k : Nat} (h0 : -2147483648 ≤ r) (h1 : r ≤ 2147483647) (hk : 1 ≤ k) (hz : 0 < z.size) : ucA z (.returned (ucO z r mb k)) :=
  ⟨r, mb, _, rfl, h0, h1, by unfold frm; simp; omega⟩
set_option maxHeartbeats 4000000 in
theorem uc_any (z : ByteArray) (q : Nat) (E : Value) (w : World) (hE : w.cell? ⟨3, 0, none⟩ = some E) (hT : Lib.Utf8Tabs 6 7 w) (hs : z.size ≤ 1073741824) (h1 : 0 < z.size) (hq : q = 34 ∨ q = 39) :
    Calls Tryd.prog 97 #[.string z, .int .u8 (q : Int)] w fun e w' => UcP z q E e ∧ Below w.heap.size w w' := by
  have hB0 := bA_lt z 0
  have hB1 := bA_lt z 1
  by_cases c0 : bA z 0 = q
  · exact (uc_quote z q E w hE hs h1 hq c0).mono (fun e w' h => ⟨by rw [h.1]; exact ⟨.inl rfl, fun a b c d => by omega, fun a b => by omega, fun a b c d => by omega, fun a b c r d => by omega, fun a b c d x y f g => by omega⟩, h.2⟩)
  by_cases c1 : 128 ≤ bA z 0
  · have hd := dec_le z 0
    have hst := (dv_sg z 0).2
    have hp := stp_pos z 0
    exact (uc_big z q w hT hs h1 hq c1).mono (fun e w' h => ⟨by rw [h.1]; exact ⟨.inr (ucO_gen (by omega) (by omega) (by omega) (by omega)), fun a b c d => by omega, fun a b => rfl, fun a b c d => by omega, fun a b c r d => by omega, fun a b c d x y f g => by omega⟩, h.2⟩)
  by_cases c2 : bA z 0 ≠ 92
  · exact (uc_one z q E w hE hs h1 hq c0 (by omega) c2).mono (fun e w' h => ⟨by rw [h.1]; exact ⟨.inr (ucO_gen (by omega) (by omega) (by omega) (by omega)), fun a b c d => rfl, fun a b => by omega, fun a b c d => by omega, fun a b c r d => by omega, fun a b c d x y f g => by omega⟩, h.2⟩)
  have c2 : bA z 0 = 92 := by omega
  by_cases c3 : z.size = 1
  · exact (uc_short z q E w hE hs c3 hq c2).mono (fun e w' h => ⟨by rw [h.1]; exact ⟨.inl rfl, fun a b c d => by omega, fun a b => by omega, fun a b c d => by omega, fun a b c r d => by omega, fun a b c d x y f g => by omega⟩, h.2⟩)
  have h2 : 1 < z.size := by omega
  by_cases k97 : bA z 1 = 97
  · exact (uc_97 z q E w hE hs h2 hq c2 k97).mono (fun e w' h => ⟨by rw [h.1]; exact ⟨.inr (ucO_gen (by omega) (by omega) (by omega) (by omega)), fun a b c d => by omega, fun a b => by omega, fun a b c d => by omega, fun a b c r d => by omega, fun a b c d x y f g => by omega⟩, h.2⟩)
  by_cases k98 : bA z 1 = 98
  · exact (uc_98 z q E w hE hs h2 hq c2 k98).mono (fun e w' h => ⟨by rw [h.1]; exact ⟨.inr (ucO_gen (by omega) (by omega) (by omega) (by omega)), fun a b c d => by omega, fun a b => by omega, fun a b c d => by omega, fun a b c r d => by omega, fun a b c d x y f g => by omega⟩, h.2⟩)
  by_cases k102 : bA z 1 = 102
  · exact (uc_102 z q E w hE hs h2 hq c2 k102).mono (fun e w' h => ⟨by rw [h.1]; exact ⟨.inr (ucO_gen (by omega) (by omega) (by omega) (by omega)), fun a b c d => by omega, fun a b => by omega, fun a b c d => by omega, fun a b c r d => by omega, fun a b c d x y f g => by omega⟩, h.2⟩)
  by_cases k118 : bA z 1 = 118
  · exact (uc_118 z q E w hE hs h2 hq c2 k118).mono (fun e w' h => ⟨by rw [h.1]; exact ⟨.inr (ucO_gen (by omega) (by omega) (by omega) (by omega)), fun a b c d => by omega, fun a b => by omega, fun a b c d => by omega, fun a b c r d => by omega, fun a b c d x y f g => by omega⟩, h.2⟩)
  by_cases k110 : bA z 1 = 110
  · exact (uc_110 z q E w hE hs h2 hq c2 k110).mono (fun e w' h => ⟨by rw [h.1]; exact ⟨.inr (ucO_gen (by omega) (by omega) (by omega) (by omega)), fun a b c d => by omega, fun a b => by omega, fun a b c d => by omega, fun a b c r d => by (have er : r = 10 := by omega); rw [er]; rfl, fun a b c d x y f g => by omega⟩, h.2⟩)
  by_cases k114 : bA z 1 = 114
  · exact (uc_114 z q E w hE hs h2 hq c2 k114).mono (fun e w' h => ⟨by rw [h.1]; exact ⟨.inr (ucO_gen (by omega) (by omega) (by omega) (by omega)), fun a b c d => by omega, fun a b => by omega, fun a b c d => by omega, fun a b c r d => by (have er : r = 13 := by omega); rw [er]; rfl, fun a b c d x y f g => by omega⟩, h.2⟩)
  by_cases k116 : bA z 1 = 116
  · exact (uc_116 z q E w hE hs h2 hq c2 k116).mono (fun e w' h => ⟨by rw [h.1]; exact ⟨.inr (ucO_gen (by omega) (by omega) (by omega) (by omega)), fun a b c d => by omega, fun a b => by omega, fun a b c d => by omega, fun a b c r d => by (have er : r = 9 := by omega); rw [er]; rfl, fun a b c d x y f g => by omega⟩, h.2⟩)
  by_cases k92 : bA z 1 = 92
  · exact (uc_92 z q E w hE hs h2 hq c2 k92).mono (fun e w' h => ⟨by rw [h.1]; exact ⟨.inr (ucO_gen (by omega) (by omega) (by omega) (by omega)), fun a b c d => by omega, fun a b => by omega, fun a b c d => by rw [k92]; rfl, fun a b c r d => by omega, fun a b c d x y f g => by omega⟩, h.2⟩)
  by_cases kq : bA z 1 = q
  · exact (uc_qq z q E w hE hs h2 hq c2 kq).mono (fun e w' h => ⟨by rw [h.1]; exact ⟨.inr (ucO_gen (by omega) (by omega) (by omega) (by omega)), fun a b c d => by omega, fun a b => by omega, fun a b c d => by rw [kq], fun a b c r d => by omega, fun a b c d x y f g => by omega⟩, h.2⟩)
  by_cases kn : bA z 1 = 73 - q
  · exact (uc_qn z q E w hE hs h2 hq c2 kn).mono (fun e w' h => ⟨by rw [h.1]; exact ⟨.inl rfl, fun a b c d => by omega, fun a b => by omega, fun a b c d => by omega, fun a b c r d => by omega, fun a b c d x y f g => by omega⟩, h.2⟩)
  by_cases k120 : bA z 1 = 120
  · exact (uc_hex2 z q E w hE hs h2 hq c2 k120).mono (fun e w' h => ⟨⟨h.1.1, fun a b c d => by omega, fun a b => by omega, fun a b c d => by omega, fun a b c r d => by omega, fun a b c d x y f g => h.1.2 x y b d f g⟩, by rw [h.2]; exact Below.refl _ _⟩)
  by_cases k117 : bA z 1 = 117
  · exact (uc_hex4 z q E w hE hs h2 hq c2 k117).mono (fun e w' h => ⟨⟨h.1.1, fun a b c d => by omega, fun a b => by omega, fun a b c d => by omega, fun a b c r d => by omega, fun a b c d x y f g => by omega⟩, by rw [h.2]; exact Below.refl _ _⟩)
  by_cases k85 : bA z 1 = 85
  · exact (uc_hex8 z q E w hE hs h2 hq c2 k85).mono (fun e w' h => ⟨⟨h.1.1, fun a b c d => by omega, fun a b => by omega, fun a b c d => by omega, fun a b c r d => by omega, fun a b c d x y f g => by omega⟩, by rw [h.2]; exact Below.refl _ _⟩)
  by_cases k48 : 48 ≤ bA z 1 ∧ bA z 1 ≤ 55
  · exact (uc_oct z q E w hE hs h2 hq c2 k48).mono (fun e w' h => ⟨⟨h.1.1, fun a b c d => by omega, fun a b => by omega, fun a b c d => by omega, fun a b c r d => by omega, fun a b c d x y f g => by omega⟩, h.2⟩)
  exact (uc_none z q E w hE hs h2 hq c2 (by omega) (by omega) (by omega) (by omega) (by omega) (by omega) (by omega) (by omega) (by omega) (by omega) (by omega) (by omega) (by omega) (by omega) (by omega) (by omega) (by omega) (by omega) (by omega) (by omega) (by omega)).mono (fun e w' h => ⟨by rw [h.1]; exact ⟨.inl rfl, fun a b c d => by omega, fun a b => by omega, fun a b c d => by omega, fun a b c r d => by omega, fun a b c d x y f g => by omega⟩, h.2⟩)
end Go.Proofs.YtpnacioliccglaaDoor
