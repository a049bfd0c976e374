/-
  Words: what is written for a sign, as mathematics.
-/
import Derived.Test.YtpnacioliccglaaDoorDuL
import Derived.Lib.RuneBytes
import Derived.RowKit
namespace Go.Proofs.YtpnacioliccglaaDoor
open Go.RowKit
set_option linter.unusedVariables false
/-- The byte at a place. -/
def bA (s : ByteArray) (i : Nat) : Nat := (s.get! i).toNat
theorem gB_get {s : ByteArray} {i : Nat} (h : i < s.size) : s.get! i = s[i] := by
  cases s with
  | mk d =>
    show d[i]! = d[i]
    exact getElem!_pos d i h
theorem bA_get {s : ByteArray} {i : Nat} (h : i < s.size) : bA s i = s[i].toNat := by
  unfold bA
  rw [gB_get h]
theorem bA_lt (s : ByteArray) (i : Nat) : bA s i < 256 := (s.get! i).toNat_lt
/-- A byte is there, and within bounds. -/
def btw (s : ByteArray) (i lo hi : Nat) : Bool := decide (i < s.size) && (decide (lo ≤ bA s i) && decide (bA s i ≤ hi))
theorem btw_iff {s : ByteArray} {i lo hi : Nat} : btw s i lo hi = true ↔ i < s.size ∧ lo ≤ bA s i ∧ bA s i ≤ hi := by simp [btw]
/-- How long the well-formed sequence is; 0: there is none. -/
def wl (s : ByteArray) (i : Nat) : Nat :=
  if bA s i < 128 then 1
  else if 194 ≤ bA s i ∧ bA s i ≤ 223 ∧ btw s (i + 1) 128 191 then 2
  else if bA s i = 224 ∧ (btw s (i + 1) 128 191 ∧ btw s (i + 2) 128 191) ∧ 160 ≤ bA s (i + 1) then 3
  else if bA s i = 237 ∧ (btw s (i + 1) 128 191 ∧ btw s (i + 2) 128 191) ∧ bA s (i + 1) ≤ 159 then 3
  else if 225 ≤ bA s i ∧ bA s i ≤ 239 ∧ bA s i ≠ 237 ∧ (btw s (i + 1) 128 191 ∧ btw s (i + 2) 128 191) then 3
  else if bA s i = 240 ∧ (btw s (i + 1) 128 191 ∧ btw s (i + 2) 128 191 ∧ btw s (i + 3) 128 191) ∧ 144 ≤ bA s (i + 1) then 4
  else if bA s i = 244 ∧ (btw s (i + 1) 128 191 ∧ btw s (i + 2) 128 191 ∧ btw s (i + 3) 128 191) ∧ bA s (i + 1) ≤ 143 then 4
  else if 241 ≤ bA s i ∧ bA s i ≤ 243 ∧ (btw s (i + 1) 128 191 ∧ btw s (i + 2) 128 191 ∧ btw s (i + 3) 128 191) then 4
  else 0
/-- What the length tells of the bytes and of the rune. -/
inductive WlC (s : ByteArray) (i : Nat) : Prop where
  | zero : wl s i = 0 → 128 ≤ bA s i → Utf8.decode s i = (65533, 1) → ¬ (i + 2 < s.size ∧ bA s i = 239 ∧ bA s (i + 1) = 191 ∧ bA s (i + 2) = 189) → WlC s i
  | one : wl s i = 1 → bA s i < 128 → Utf8.decode s i = (bA s i, 1) → WlC s i
  | two : wl s i = 2 → i + 1 < s.size → 194 ≤ bA s i → bA s i ≤ 223 → 128 ≤ bA s (i + 1) → bA s (i + 1) ≤ 191 → Utf8.decode s i = ((bA s i % 32) * 64 + bA s (i + 1) % 64, 2) → WlC s i
  | three : wl s i = 3 → i + 2 < s.size → 224 ≤ bA s i → bA s i ≤ 239 → 128 ≤ bA s (i + 1) → bA s (i + 1) ≤ 191 → 128 ≤ bA s (i + 2) → bA s (i + 2) ≤ 191 → (bA s i = 224 → 160 ≤ bA s (i + 1)) → (bA s i = 237 → bA s (i + 1) ≤ 159) → Utf8.decode s i = ((bA s i % 16) * 4096 + (bA s (i + 1) % 64) * 64 + bA s (i + 2) % 64, 3) → WlC s i
  | four : wl s i = 4 → i + 3 < s.size → 240 ≤ bA s i → bA s i ≤ 244 → 128 ≤ bA s (i + 1) → bA s (i + 1) ≤ 191 → 128 ≤ bA s (i + 2) → bA s (i + 2) ≤ 191 → 128 ≤ bA s (i + 3) → bA s (i + 3) ≤ 191 → (bA s i = 240 → 144 ≤ bA s (i + 1)) → (bA s i = 244 → bA s (i + 1) ≤ 143) → Utf8.decode s i = ((bA s i % 8) * 262144 + (bA s (i + 1) % 64) * 4096 + (bA s (i + 2) % 64) * 64 + bA s (i + 3) % 64, 4) → WlC s i
theorem decode_def (s : ByteArray) (i : Nat) : Utf8.decode s i =
    (if bA s i < 128 then (bA s i, 1)
    else if (bA s i / 32 == 6 && (decide (i + 1 < s.size) && bA s (i + 1) / 64 == 2)) = true then
      (if bA s i % 32 * 64 + bA s (i + 1) % 64 ≥ 128 then (bA s i % 32 * 64 + bA s (i + 1) % 64, 2) else (65533, 1))
    else if (bA s i / 16 == 14 && (decide (i + 1 < s.size) && bA s (i + 1) / 64 == 2) && (decide (i + 2 < s.size) && bA s (i + 2) / 64 == 2)) = true then
      (if (decide (bA s i % 16 * 4096 + bA s (i + 1) % 64 * 64 + bA s (i + 2) % 64 ≥ 2048) && Utf8.valid ((bA s i % 16 * 4096 + bA s (i + 1) % 64 * 64 + bA s (i + 2) % 64 : Nat) : Int)) = true then (bA s i % 16 * 4096 + bA s (i + 1) % 64 * 64 + bA s (i + 2) % 64, 3) else (65533, 1))
    else if (bA s i / 8 == 30 && (decide (i + 1 < s.size) && bA s (i + 1) / 64 == 2) && (decide (i + 2 < s.size) && bA s (i + 2) / 64 == 2) && (decide (i + 3 < s.size) && bA s (i + 3) / 64 == 2)) = true then
      (if (decide (bA s i % 8 * 262144 + bA s (i + 1) % 64 * 4096 + bA s (i + 2) % 64 * 64 + bA s (i + 3) % 64 ≥ 65536) && Utf8.valid ((bA s i % 8 * 262144 + bA s (i + 1) % 64 * 4096 + bA s (i + 2) % 64 * 64 + bA s (i + 3) % 64 : Nat) : Int)) = true then (bA s i % 8 * 262144 + bA s (i + 1) % 64 * 4096 + bA s (i + 2) % 64 * 64 + bA s (i + 3) % 64, 4) else (65533, 1))
    else (65533, 1)) := by
  unfold Utf8.decode bA
  simp only [Nat.add_zero, Utf8.runeError, Bool.and_eq_true, decide_eq_true_eq]

theorem dct {s : ByteArray} {k : Nat} : (decide (k < s.size) && bA s k / 64 == 2) = btw s k 128 191 := by
  have := bA_lt s k
  rw [Bool.eq_iff_iff, btw_iff, Bool.and_eq_true, decide_eq_true_eq, beq_iff_eq]
  omega
theorem val_iff {c : Nat} : Utf8.valid (c : Int) = true ↔ c < 55296 ∨ (57344 ≤ c ∧ c ≤ 1114111) := by
  unfold Utf8.valid
  simp only [Bool.or_eq_true, Bool.and_eq_true, decide_eq_true_eq]
  omega
theorem wlc (s : ByteArray) (i : Nat) : WlC s i := by
  have h0 := bA_lt s i
  have h1 := bA_lt s (i + 1)
  have h2 := bA_lt s (i + 2)
  have h3 := bA_lt s (i + 3)
  have hd := decode_def s i
  rw [dct, dct, dct] at hd
  simp only [Bool.and_eq_true, beq_iff_eq, decide_eq_true_eq, val_iff, and_assoc] at hd
  have hw := wl.eq_1 s i
  have T1 := @btw_iff s (i + 1) 128 191
  have T2 := @btw_iff s (i + 2) 128 191
  have T3 := @btw_iff s (i + 3) 128 191
  generalize e1 : btw s (i + 1) 128 191 = t1 at *
  generalize e2 : btw s (i + 2) 128 191 = t2 at *
  generalize e3 : btw s (i + 3) 128 191 = t3 at *
  generalize eD : Utf8.decode s i = D at *
  generalize eb0 : bA s i = b0 at *
  generalize eb1 : bA s (i + 1) = b1 at *
  generalize eb2 : bA s (i + 2) = b2 at *
  generalize eb3 : bA s (i + 3) = b3 at *
  by_cases c1 : b0 < 128
  · exact .one (by rw [hw, if_pos c1]) (by rw [eb0]; exact c1) (by rw [eD, hd, if_pos c1, eb0])
  rw [if_neg c1] at hw hd
  by_cases c2 : 194 ≤ b0 ∧ b0 ≤ 223 ∧ t1 = true
  · have u1 := T1.1 c2.2.2
    exact .two (by rw [hw, if_pos c2]) (by omega) (by omega) (by omega) (by omega) (by omega) (by rw [eD, hd, if_pos ⟨by omega, c2.2.2⟩, if_pos (by omega), eb0, eb1])
  rw [if_neg c2] at hw
  by_cases c3 : b0 = 224 ∧ (t1 = true ∧ t2 = true) ∧ 160 ≤ b1
  · have u1 := T1.1 c3.2.1.1
    have u2 := T2.1 c3.2.1.2
    exact .three (by rw [hw, if_pos c3]) (by omega) (by omega) (by omega) (by omega) (by omega) (by omega) (by omega) (by omega) (by omega) (by rw [eD, hd, if_neg (fun h => by have := h.1; omega), if_pos ⟨by omega, c3.2.1.1, c3.2.1.2⟩, if_pos ⟨by omega, by omega⟩, eb0, eb1, eb2])
  rw [if_neg c3] at hw
  by_cases c4 : b0 = 237 ∧ (t1 = true ∧ t2 = true) ∧ b1 ≤ 159
  · have u1 := T1.1 c4.2.1.1
    have u2 := T2.1 c4.2.1.2
    exact .three (by rw [hw, if_pos c4]) (by omega) (by omega) (by omega) (by omega) (by omega) (by omega) (by omega) (by omega) (by omega) (by rw [eD, hd, if_neg (fun h => by have := h.1; omega), if_pos ⟨by omega, c4.2.1.1, c4.2.1.2⟩, if_pos ⟨by omega, by omega⟩, eb0, eb1, eb2])
  rw [if_neg c4] at hw
  by_cases c5 : 225 ≤ b0 ∧ b0 ≤ 239 ∧ b0 ≠ 237 ∧ (t1 = true ∧ t2 = true)
  · have u1 := T1.1 c5.2.2.2.1
    have u2 := T2.1 c5.2.2.2.2
    exact .three (by rw [hw, if_pos c5]) (by omega) (by omega) (by omega) (by omega) (by omega) (by omega) (by omega) (by omega) (by omega) (by rw [eD, hd, if_neg (fun h => by have := h.1; omega), if_pos ⟨by omega, c5.2.2.2.1, c5.2.2.2.2⟩, if_pos ⟨by omega, by omega⟩, eb0, eb1, eb2])
  rw [if_neg c5] at hw
  by_cases c6 : b0 = 240 ∧ (t1 = true ∧ t2 = true ∧ t3 = true) ∧ 144 ≤ b1
  · have u1 := T1.1 c6.2.1.1
    have u2 := T2.1 c6.2.1.2.1
    have u3 := T3.1 c6.2.1.2.2
    exact .four (by rw [hw, if_pos c6]) (by omega) (by omega) (by omega) (by omega) (by omega) (by omega) (by omega) (by omega) (by omega) (by omega) (by omega) (by rw [eD, hd, if_neg (fun h => by have := h.1; omega), if_neg (fun h => by have := h.1; omega), if_pos ⟨by omega, c6.2.1.1, c6.2.1.2.1, c6.2.1.2.2⟩, if_pos ⟨by omega, by omega⟩, eb0, eb1, eb2, eb3])
  rw [if_neg c6] at hw
  by_cases c7 : b0 = 244 ∧ (t1 = true ∧ t2 = true ∧ t3 = true) ∧ b1 ≤ 143
  · have u1 := T1.1 c7.2.1.1
    have u2 := T2.1 c7.2.1.2.1
    have u3 := T3.1 c7.2.1.2.2
    exact .four (by rw [hw, if_pos c7]) (by omega) (by omega) (by omega) (by omega) (by omega) (by omega) (by omega) (by omega) (by omega) (by omega) (by omega) (by rw [eD, hd, if_neg (fun h => by have := h.1; omega), if_neg (fun h => by have := h.1; omega), if_pos ⟨by omega, c7.2.1.1, c7.2.1.2.1, c7.2.1.2.2⟩, if_pos ⟨by omega, by omega⟩, eb0, eb1, eb2, eb3])
  rw [if_neg c7] at hw
  by_cases c8 : 241 ≤ b0 ∧ b0 ≤ 243 ∧ (t1 = true ∧ t2 = true ∧ t3 = true)
  · have u1 := T1.1 c8.2.2.1
    have u2 := T2.1 c8.2.2.2.1
    have u3 := T3.1 c8.2.2.2.2
    exact .four (by rw [hw, if_pos c8]) (by omega) (by omega) (by omega) (by omega) (by omega) (by omega) (by omega) (by omega) (by omega) (by omega) (by omega) (by rw [eD, hd, if_neg (fun h => by have := h.1; omega), if_neg (fun h => by have := h.1; omega), if_pos ⟨by omega, c8.2.2.1, c8.2.2.2.1, c8.2.2.2.2⟩, if_pos ⟨by omega, by omega⟩, eb0, eb1, eb2, eb3])
  rw [if_neg c8] at hw
  refine .zero hw (by omega) ?_ ?_
  · rw [eD, hd]
    by_cases d2 : b0 / 32 = 6 ∧ t1 = true
    · rw [if_pos d2, if_neg (fun h => c2 ⟨by have := d2.1; omega, by have := d2.1; omega, d2.2⟩)]
    rw [if_neg d2]
    by_cases d3 : b0 / 16 = 14 ∧ t1 = true ∧ t2 = true
    · rw [if_pos d3]
      have q := d3.1
      have u1 := T1.1 d3.2.1
      have u2 := T2.1 d3.2.2
      have n3 : ¬ (b0 = 224 ∧ 160 ≤ b1) := fun h => c3 ⟨h.1, d3.2, h.2⟩
      have n4 : ¬ (b0 = 237 ∧ b1 ≤ 159) := fun h => c4 ⟨h.1, d3.2, h.2⟩
      have n5 : ¬ (225 ≤ b0 ∧ b0 ≤ 239 ∧ b0 ≠ 237) := fun h => c5 ⟨h.1, h.2.1, h.2.2, d3.2⟩
      rw [if_neg (by omega)]
    rw [if_neg d3]
    by_cases d4 : b0 / 8 = 30 ∧ t1 = true ∧ t2 = true ∧ t3 = true
    · rw [if_pos d4]
      have q := d4.1
      have u1 := T1.1 d4.2.1
      have u2 := T2.1 d4.2.2.1
      have u3 := T3.1 d4.2.2.2
      have n6 : ¬ (b0 = 240 ∧ 144 ≤ b1) := fun h => c6 ⟨h.1, d4.2, h.2⟩
      have n7 : ¬ (b0 = 244 ∧ b1 ≤ 143) := fun h => c7 ⟨h.1, d4.2, h.2⟩
      have n8 : ¬ (241 ≤ b0 ∧ b0 ≤ 243) := fun h => c8 ⟨h.1, h.2, d4.2⟩
      rw [if_neg (by omega)]
    rw [if_neg d4]
  · rw [eb0, eb1, eb2]
    intro h
    exact c5 ⟨by omega, by omega, by omega, T1.2 (by omega), T2.2 (by omega)⟩
end Go.Proofs.YtpnacioliccglaaDoor
