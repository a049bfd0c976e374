/-
  Words, as mathematics: each sign as it is written.
-/
import Derived.Test.YtpnacioliccglaaDoorDuM
namespace Go.Proofs.YtpnacioliccglaaDoor
open Go.RowKit
set_option linter.unusedVariables false
/-- A digit to the base 16. -/
def dgt (n : Nat) : UInt8 := ([48, 49, 50, 51, 52, 53, 54, 55, 56, 57, 97, 98, 99, 100, 101, 102] : List UInt8).getD n 0
/-- A byte as two digits. -/
def hxB (c : Nat) : List UInt8 := [92, 120, dgt (c / 16), dgt (c % 16)]
/-- So many bytes from a place on. -/
def bsA (s : ByteArray) (i : Nat) : Nat → List UInt8
  | 0 => []
  | n + 1 => bsA s i n ++ [s.get! (i + n)]
/-- What is written for the sign at a place. -/
def sg (s : ByteArray) (i : Nat) : List UInt8 :=
  if bA s i = 92 ∨ bA s i = 34 then [92, s.get! i]
  else if bA s i = 10 then [92, 110]
  else if bA s i = 13 then [92, 114]
  else if bA s i = 9 then [92, 116]
  else if wl s i = 1 ∧ 32 ≤ bA s i ∧ bA s i ≤ 126 then [s.get! i]
  else if wl s i ≤ 1 then hxB (bA s i)
  else if wl s i = 2 ∧ bA s i = 194 ∧ bA s (i + 1) < 160 then hxB (bA s i) ++ hxB (bA s (i + 1))
  else bsA s i (wl s i)
/-- How far the next sign is. -/
def stp (s : ByteArray) (i : Nat) : Nat := if wl s i = 0 then 1 else wl s i
theorem stp_pos (s : ByteArray) (i : Nat) : 1 ≤ stp s i := by unfold stp; split <;> omega
/-- The signs from a place on. -/
def qtF (s : ByteArray) : Nat → Nat → List UInt8
  | 0, _ => []
  | f + 1, i => if i < s.size then sg s i ++ qtF s f (i + stp s i) else []
theorem qtF_end {s : ByteArray} {f i : Nat} (h : ¬ i < s.size) : qtF s f i = [] := by cases f <;> simp [qtF, h]
theorem qtF_on {s : ByteArray} {f i : Nat} (h : i < s.size) : qtF s (f + 1) i = sg s i ++ qtF s f (i + stp s i) := by rw [qtF, if_pos h]
/-- A string as a word. -/
def wrd (s : ByteArray) : List UInt8 := [34] ++ qtF s s.size 0 ++ [34]
theorem hxB_len (c : Nat) : (hxB c).length = 4 := rfl
theorem bsA_len (s : ByteArray) (i n : Nat) : (bsA s i n).length = n := by
  induction n with
  | zero => rfl
  | succ n ih => rw [bsA, List.length_append, ih]; rfl
theorem wl_le (s : ByteArray) (i : Nat) : wl s i ≤ 4 := by
  rcases wlc s i with h | h | h | h | h
  all_goals omega
/-- No sign is written with more than four bytes for each of its own. -/
theorem sg_len (s : ByteArray) (i : Nat) : (sg s i).length ≤ 4 * stp s i := by
  have h4 := wl_le s i
  unfold sg stp
  repeat' split
  all_goals (try simp only [List.length_append, hxB_len, bsA_len, List.length_cons, List.length_nil])
  all_goals omega
theorem stp_in {s : ByteArray} {i : Nat} (h : i < s.size) : i + stp s i ≤ s.size := by
  unfold stp
  rcases wlc s i with h1 | h1 | ⟨h1, h2⟩ | ⟨h1, h2⟩ | ⟨h1, h2⟩
  · rw [if_pos h1]; omega
  · rw [if_neg (by omega)]; omega
  · rw [if_neg (by omega)]; omega
  · rw [if_neg (by omega)]; omega
  · rw [if_neg (by omega)]; omega
theorem qt_len (s : ByteArray) : ∀ f i, i ≤ s.size → (qtF s f i).length ≤ 4 * (s.size - i)
  | 0, i, _ => by simp [qtF]
  | f + 1, i, hi => by
    by_cases h : i < s.size
    · rw [qtF_on h, List.length_append]
      have h1 := stp_in h
      have h2 := qt_len s f _ h1
      have h3 := sg_len s i
      omega
    · rw [qtF_end h]; simp
theorem wrd_len (s : ByteArray) : (wrd s).length ≤ 4 * s.size + 2 := by
  have h := qt_len s s.size 0 (Nat.zero_le _)
  unfold wrd
  simp only [List.length_append, List.length_singleton]
  omega
/-- The rune at a place is that of a sign: its bytes anew. -/
theorem u8_get (s : ByteArray) (i : Nat) {n : Nat} (h : n = bA s i) : UInt8.ofNat n = s.get! i := by
  rw [h]
  unfold bA
  exact UInt8.ofNat_toNat
theorem toU8 (z : Int) (n : Nat) (h : z = n) : z.toNat.toUInt8 = UInt8.ofNat n := by
  rw [h]; rfl
/-- What the program writes for the rune at a place. -/
def dv (s : ByteArray) (i : Nat) (r : Nat) : List UInt8 :=
  if r = 92 ∨ r = 34 then [92, UInt8.ofNat r]
  else if r = 10 then [92, 110]
  else if r = 13 then [92, 114]
  else if r = 9 then [92, 116]
  else if r = 65533 ∧ ¬ (i + 2 < s.size ∧ bA s i = 239 ∧ bA s (i + 1) = 191 ∧ bA s (i + 2) = 189) then hxB (bA s i)
  else if (32 ≤ r ∧ r ≤ 126) ∨ 160 ≤ r then Lib.encodeRune (r : Int)
  else ((Utf8.encode (r : Int)).data.toList.map fun b => hxB b.toNat).flatten
theorem enc2 {r : Nat} (h0 : 128 ≤ r) (h1 : r ≤ 2047) : Lib.encodeRune (r : Int) = [UInt8.ofNat (192 + r / 64), UInt8.ofNat (128 + r % 64)] := by
  unfold Lib.encodeRune
  rw [Lib.encodeRuneZ_two (by omega) (by omega)]
  simp only [List.map_cons, List.map_nil]
  rw [toU8 _ (192 + r / 64) (by omega), toU8 _ (128 + r % 64) (by omega)]
theorem enc3 {r : Nat} (h : (2048 ≤ r ∧ r < 55296) ∨ (57343 < r ∧ r ≤ 65535)) : Lib.encodeRune (r : Int) = [UInt8.ofNat (224 + r / 4096), UInt8.ofNat (128 + r / 64 % 64), UInt8.ofNat (128 + r % 64)] := by
  unfold Lib.encodeRune
  rw [Lib.encodeRuneZ_three (by omega)]
  simp only [List.map_cons, List.map_nil]
  rw [toU8 _ (224 + r / 4096) (by omega), toU8 _ (128 + r / 64 % 64) (by omega), toU8 _ (128 + r % 64) (by omega)]
theorem enc4 {r : Nat} (h0 : 65536 ≤ r) (h1 : r ≤ 1114111) : Lib.encodeRune (r : Int) = [UInt8.ofNat (240 + r / 262144), UInt8.ofNat (128 + r / 4096 % 64), UInt8.ofNat (128 + r / 64 % 64), UInt8.ofNat (128 + r % 64)] := by
  unfold Lib.encodeRune
  rw [Lib.encodeRuneZ_four (by omega) (by omega)]
  simp only [List.map_cons, List.map_nil]
  rw [toU8 _ (240 + r / 262144) (by omega), toU8 _ (128 + r / 4096 % 64) (by omega), toU8 _ (128 + r / 64 % 64) (by omega), toU8 _ (128 + r % 64) (by omega)]
theorem enc1 {r : Nat} (h1 : r ≤ 127) : Lib.encodeRune (r : Int) = [UInt8.ofNat r] := by
  unfold Lib.encodeRune
  rw [Lib.encodeRuneZ_one (by omega) (by omega)]
  simp only [List.map_cons, List.map_nil]
  rw [toU8 _ r rfl]
theorem utf1 {r : Nat} (h1 : r ≤ 127) : (Utf8.encode (r : Int)).data.toList = [UInt8.ofNat r] := by
  unfold Utf8.encode
  have hv : Utf8.valid (r : Int) = true := val_iff.2 (by omega)
  simp only [hv, if_true, Int.toNat_natCast]
  rw [if_pos (by omega)]
theorem utf2 {r : Nat} (h0 : 128 ≤ r) (h1 : r ≤ 2047) : (Utf8.encode (r : Int)).data.toList = [UInt8.ofNat (192 + r / 64), UInt8.ofNat (128 + r % 64)] := by
  unfold Utf8.encode
  have hv : Utf8.valid (r : Int) = true := val_iff.2 (by omega)
  simp only [hv, if_true, Int.toNat_natCast]
  rw [if_neg (by omega), if_pos (by omega)]
theorem nat_u8 {n : Nat} (h : n < 256) : (UInt8.ofNat n).toNat = n := by
  rw [UInt8.toNat_ofNat']
  exact Nat.mod_eq_of_lt h
set_option maxHeartbeats 4000000 in
/-- The program writes each sign as it is. -/
theorem dv_sg (s : ByteArray) (i : Nat) : dv s i (Utf8.decode s i).1 = sg s i ∧ (Utf8.decode s i).2 = stp s i := by
  have h0 := bA_lt s i
  have h1 := bA_lt s (i + 1)
  have h2 := bA_lt s (i + 2)
  have h3 := bA_lt s (i + 3)
  unfold dv sg stp
  rcases wlc s i with ⟨hw, a1, hd, a2⟩ | ⟨hw, a1, hd⟩ | ⟨hw, a1, a2, a3, a4, a5, hd⟩ | ⟨hw, a1, a2, a3, a4, a5, a6, a7, a8, a9, hd⟩ | ⟨hw, a1, a2, a3, a4, a5, a6, a7, a8, a9, b1, b2, hd⟩
  · rw [hd, hw]
    refine ⟨?_, rfl⟩
    rw [if_neg (by omega), if_neg (by omega), if_neg (by omega), if_neg (by omega), if_pos ⟨rfl, a2⟩, if_neg (by omega), if_neg (by omega), if_neg (by omega), if_neg (by omega), if_neg (by omega), if_pos (by omega)]
  · rw [hd, hw]
    refine ⟨?_, rfl⟩
    dsimp only
    by_cases c1 : bA s i = 92 ∨ bA s i = 34
    · rw [if_pos c1, if_pos c1, u8_get s i rfl]
    rw [if_neg c1, if_neg c1]
    by_cases c2 : bA s i = 10
    · rw [if_pos c2, if_pos c2]
    rw [if_neg c2, if_neg c2]
    by_cases c3 : bA s i = 13
    · rw [if_pos c3, if_pos c3]
    rw [if_neg c3, if_neg c3]
    by_cases c4 : bA s i = 9
    · rw [if_pos c4, if_pos c4]
    rw [if_neg c4, if_neg c4, if_neg (by omega)]
    by_cases c5 : 32 ≤ bA s i ∧ bA s i ≤ 126
    · rw [if_pos (.inl c5), if_pos ⟨rfl, c5⟩, enc1 (by omega), u8_get s i rfl]
    · rw [if_neg (by omega), if_neg (fun h => c5 h.2), if_pos (Nat.le_refl _), utf1 (by omega)]
      simp only [List.map_cons, List.map_nil, List.flatten_cons, List.flatten_nil, List.append_nil]
      rw [nat_u8 h0]
  · rw [hd, hw]
    refine ⟨?_, rfl⟩
    dsimp only
    rw [if_neg (by omega), if_neg (by omega), if_neg (by omega), if_neg (by omega), if_neg (by omega), if_neg (c := bA s i = 92 ∨ bA s i = 34) (by omega), if_neg (c := bA s i = 10) (by omega), if_neg (c := bA s i = 13) (by omega), if_neg (c := bA s i = 9) (by omega), if_neg (c := (2 = 1 ∧ _)) (by omega), if_neg (c := 2 ≤ 1) (by omega)]
    have e1 : 192 + (bA s i % 32 * 64 + bA s (i + 1) % 64) / 64 = bA s i := by omega
    have e2 : 128 + (bA s i % 32 * 64 + bA s (i + 1) % 64) % 64 = bA s (i + 1) := by omega
    by_cases c5 : 160 ≤ bA s i % 32 * 64 + bA s (i + 1) % 64
    · rw [if_pos (.inr c5), if_neg (by omega), enc2 (by omega) (by omega), e1, e2, u8_get s i rfl, u8_get s (i + 1) rfl]
      rfl
    · rw [if_neg (by omega), if_pos ⟨rfl, by omega, by omega⟩, utf2 (by omega) (by omega), e1, e2]
      simp only [List.map_cons, List.map_nil, List.flatten_cons, List.flatten_nil, List.append_nil]
      rw [nat_u8 h0, nat_u8 h1]
  · rw [hd, hw]
    refine ⟨?_, rfl⟩
    dsimp only
    have e1 : 224 + (bA s i % 16 * 4096 + bA s (i + 1) % 64 * 64 + bA s (i + 2) % 64) / 4096 = bA s i := by omega
    have e2 : 128 + (bA s i % 16 * 4096 + bA s (i + 1) % 64 * 64 + bA s (i + 2) % 64) / 64 % 64 = bA s (i + 1) := by omega
    have e3 : 128 + (bA s i % 16 * 4096 + bA s (i + 1) % 64 * 64 + bA s (i + 2) % 64) % 64 = bA s (i + 2) := by omega
    rw [if_neg (by omega), if_neg (by omega), if_neg (by omega), if_neg (by omega), if_neg (by omega), if_neg (c := bA s i = 92 ∨ bA s i = 34) (by omega), if_neg (c := bA s i = 10) (by omega), if_neg (c := bA s i = 13) (by omega), if_neg (c := bA s i = 9) (by omega), if_neg (c := (3 = 1 ∧ _)) (by omega), if_neg (c := 3 ≤ 1) (by omega), if_neg (c := (3 = 2 ∧ _)) (by omega), if_pos (.inr (by omega)), enc3 (by omega), e1, e2, e3, u8_get s i rfl, u8_get s (i + 1) rfl, u8_get s (i + 2) rfl]
    rfl
  · rw [hd, hw]
    refine ⟨?_, rfl⟩
    dsimp only
    have e1 : 240 + (bA s i % 8 * 262144 + bA s (i + 1) % 64 * 4096 + bA s (i + 2) % 64 * 64 + bA s (i + 3) % 64) / 262144 = bA s i := by omega
    have e2 : 128 + (bA s i % 8 * 262144 + bA s (i + 1) % 64 * 4096 + bA s (i + 2) % 64 * 64 + bA s (i + 3) % 64) / 4096 % 64 = bA s (i + 1) := by omega
    have e3 : 128 + (bA s i % 8 * 262144 + bA s (i + 1) % 64 * 4096 + bA s (i + 2) % 64 * 64 + bA s (i + 3) % 64) / 64 % 64 = bA s (i + 2) := by omega
    have e4 : 128 + (bA s i % 8 * 262144 + bA s (i + 1) % 64 * 4096 + bA s (i + 2) % 64 * 64 + bA s (i + 3) % 64) % 64 = bA s (i + 3) := by omega
    rw [if_neg (by omega), if_neg (by omega), if_neg (by omega), if_neg (by omega), if_neg (by omega), if_neg (c := bA s i = 92 ∨ bA s i = 34) (by omega), if_neg (c := bA s i = 10) (by omega), if_neg (c := bA s i = 13) (by omega), if_neg (c := bA s i = 9) (by omega), if_neg (c := (4 = 1 ∧ _)) (by omega), if_neg (c := 4 ≤ 1) (by omega), if_neg (c := (4 = 2 ∧ _)) (by omega), if_pos (.inr (by omega)), enc4 (by omega) (by omega), e1, e2, e3, e4, u8_get s i rfl, u8_get s (i + 1) rfl, u8_get s (i + 2) rfl, u8_get s (i + 3) rfl]
    rfl
end Go.Proofs.YtpnacioliccglaaDoor
