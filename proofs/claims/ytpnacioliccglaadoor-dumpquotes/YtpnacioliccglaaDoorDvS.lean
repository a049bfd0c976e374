/-
  The document's digit; what its reading of a word keeps to.
-/
import Derived.Test.YtpnacioliccglaaDoorDvR
import Derived.Test.YtpnacioliccglaaDoorDvJ
namespace Go.Proofs.YtpnacioliccglaaDoor
open Go.RowKit Go.Maps Go.Shelf
set_option linter.unusedVariables false
/-- The worth of a digit; -1: it is none. -/
def DgV (c : Nat) (v : Int) : Prop := (∃ k : Nat, k < 16 ∧ (dgt k).toNat = c ∧ v = k) ∨ ((∀ k : Nat, k < 16 → (dgt k).toNat ≠ c) ∧ v = -1)
set_option maxRecDepth 8000 in
theorem digit_any (c : Nat) (hc : c < 256) (w : World) : Calls Tryd.prog 55 #[.int .u8 (c : Int)] w fun e w' => ∃ v : Int, e = .returned (.int .i64 v) ∧ DgV c v ∧ w' = w := by
  go_enter Tryd.func55, Tryd.ntmps55
  go_wp2
  go_loopw [3] (fun i wr => ∃ k : Nat, k ≤ 16 ∧ i = .int .i64 k ∧ wr = w ∧ Hid (∀ j, j < k → (dgt j).toNat ≠ c)) (fun i _ => 16 - (intOf i).toNat)
  case atStart => exact ⟨0, Nat.zero_le _, rfl, rfl, hide (fun j hj => absurd hj (Nat.not_lt_zero _))⟩
  case round =>
    obtain ⟨k, hk, rfl, hw, HK⟩ := hrel
    subst hw
    by_cases hlt : k < 16
    · have hkI : (k : Int) < 16 := by omega
      obtain ⟨d, hd⟩ : ∃ d, (dgt k).toNat = d := ⟨_, rfl⟩
      have hgt : ((((⟨#[48, 49, 50, 51, 52, 53, 54, 55, 56, 57, 97, 98, 99, 100, 101, 102]⟩ : ByteArray)[k]'hlt).toNat : Nat) : Int) = (d : Int) := by rw [dgt_get hlt, hd]
      have HD := hide hd
      clear hd
      by_cases he : d = c
      · have hb : ((d : Int) == (c : Int)) = true := by rw [beq_iff_eq]; omega
        have HE := hide he
        clear he
        go_wp2
        go_ret
        exact ⟨_, rfl, .inl ⟨k, hlt, HD.out.trans HE.out, rfl⟩, rfl⟩
      · have hb : ((d : Int) == (c : Int)) = false := by rw [beq_eq_false_iff_ne]; omega
        have HE := hide he
        clear he
        go_wp2
        exact ⟨⟨k + 1, by omega, by go_num, by first | rfl | trivial, hide (fun j hj => by
          by_cases e : j = k
          · rw [e, HD.out]; exact HE.out
          · exact HK.out j (by omega))⟩, by simp [intOf]; omega⟩
    · have h9 : k = 16 := by omega
      subst h9
      go_wp2
      go_ret
      exact ⟨_, rfl, .inr ⟨HK.out, rfl⟩, rfl⟩
/-- What is read of a word that begins at a place, up to another. -/
def Pc (s : ByteArray) (i0 k : Nat) (xs : List UInt8) : Prop := ∀ (t : ByteArray) (rest : List UInt8), s.data.toList.drop i0 = wrd t ++ rest → ∃ t' W, xs ++ t' = t.data.toList ∧ Pl t' W ∧ s.data.toList.drop k = W ++ 34 :: rest
theorem drop_at {s : ByteArray} {k j : Nat} {b : UInt8} {L : List UInt8} (h : s.data.toList.drop k = L) (hj : L[j]? = some b) : k + j < s.size ∧ s.get! (k + j) = b := by
  rw [← h, List.getElem?_drop] at hj
  have h1 := (list_at hj).1
  rw [at_list h1] at hj
  exact ⟨h1, Option.some.inj hj⟩
theorem drop_on {s : ByteArray} {k : Nat} {L : List UInt8} (h : s.data.toList.drop k = L) (j : Nat) : s.data.toList.drop (k + j) = L.drop j := by rw [← h, List.drop_drop]
section
variable {s : ByteArray} {i0 k : Nat} {xs : List UInt8}
theorem pc_start (i0 : Nat) : Pc s i0 (i0 + 1) [] := fun t rest h => by
  obtain ⟨W, h1, h2⟩ := pl_wrd t
  refine ⟨_, W, rfl, h2, ?_⟩
  rw [drop_on h, h1]
  simp
theorem pc_none (h0 : ¬ (i0 < s.size ∧ bA s i0 = 34)) : ∀ (t : ByteArray) (rest : List UInt8), s.data.toList.drop i0 ≠ wrd t ++ rest := fun t rest h => by
  obtain ⟨W, h1, h2⟩ := pl_wrd t
  obtain ⟨h3, h4⟩ := drop_at (j := 0) (b := 34) h (by rw [h1]; rfl)
  exact h0 ⟨h3, by unfold bA; rw [Nat.add_zero] at h4; rw [h4]; rfl⟩
theorem pc_end (h : Pc s i0 k xs) (hk : ¬ k < s.size) : ∀ (t : ByteArray) (rest : List UInt8), s.data.toList.drop i0 ≠ wrd t ++ rest := fun t rest he => by
  obtain ⟨t', W, h1, h2, h3⟩ := h t rest he
  rw [List.drop_eq_nil_of_le (by rw [Array.length_toList]; exact Nat.not_lt.1 hk)] at h3
  simp at h3
theorem pc_fin (h : Pc s i0 k xs) (hk : k < s.size) (hb : bA s k = 34) : ∀ (t : ByteArray) (rest : List UInt8), s.data.toList.drop i0 = wrd t ++ rest → (⟨xs.toArray⟩ : ByteArray) = t ∧ k + 1 = i0 + (wrd t).length := fun t rest he => by
  obtain ⟨t', W, h1, h2, h3⟩ := h t rest he
  have hl : W = [] ∧ t' = [] := by
    cases h2 with
    | nil => exact ⟨rfl, rfl⟩
    | raw b t w h8 h9 _ =>
      have := (drop_at (j := 0) (b := b) h3 rfl).2
      rw [Nat.add_zero] at this
      unfold bA at hb
      rw [this] at hb
      exact absurd hb h8
    | esc b t w h9 _ => have := (drop_at (j := 0) (b := 92) h3 rfl).2; rw [Nat.add_zero] at this; unfold bA at hb; rw [this] at hb; exact absurd hb (by decide)
    | ltr b c t w h9 _ => have := (drop_at (j := 0) (b := 92) h3 rfl).2; rw [Nat.add_zero] at this; unfold bA at hb; rw [this] at hb; exact absurd hb (by decide)
    | hex b t w _ => have := (drop_at (j := 0) (b := 92) h3 rfl).2; rw [Nat.add_zero] at this; unfold bA at hb; rw [this] at hb; exact absurd hb (by decide)
  obtain ⟨rfl, rfl⟩ := hl
  refine ⟨ba_ext (by rw [← h1, List.append_nil]), ?_⟩
  have e1 := congrArg List.length h3
  have e2 := congrArg List.length he
  have e3 : s.data.toList.length = s.size := Array.length_toList
  rw [List.length_drop, e3] at e1 e2
  simp only [List.nil_append, List.length_cons] at e1
  rw [List.length_append] at e2
  have e5 : 2 ≤ (wrd t).length := by obtain ⟨V, hV, _⟩ := pl_wrd t; rw [hV]; simp
  omega
theorem pc_raw (h : Pc s i0 k xs) (hk : k < s.size) (h1 : bA s k ≠ 34) (h2 : bA s k ≠ 92) : Pc s i0 (k + 1) (xs ++ [UInt8.ofNat (bA s k)]) := fun t rest he => by
  obtain ⟨t', W, g1, g2, g3⟩ := h t rest he
  have e0 : UInt8.ofNat (bA s k) = s.get! k := by unfold bA; exact UInt8.ofNat_toNat
  cases g2 with
  | nil => have := (drop_at (j := 0) (b := 34) g3 rfl).2; rw [Nat.add_zero] at this; unfold bA at h1; rw [this] at h1; exact absurd rfl h1
  | raw b t2 w h8 h9 g4 =>
    have := (drop_at (j := 0) (b := b) g3 rfl).2
    rw [Nat.add_zero] at this
    exact ⟨t2, w, by rw [List.append_assoc, e0, this]; exact g1, g4, by rw [drop_on g3]; rfl⟩
  | esc b t2 w h9 _ => have := (drop_at (j := 0) (b := 92) g3 rfl).2; rw [Nat.add_zero] at this; unfold bA at h2; rw [this] at h2; exact absurd rfl h2
  | ltr b c t2 w h9 _ => have := (drop_at (j := 0) (b := 92) g3 rfl).2; rw [Nat.add_zero] at this; unfold bA at h2; rw [this] at h2; exact absurd rfl h2
  | hex b t2 w _ => have := (drop_at (j := 0) (b := 92) g3 rfl).2; rw [Nat.add_zero] at this; unfold bA at h2; rw [this] at h2; exact absurd rfl h2
/-- What begins with a backslash. -/
theorem pc_inv (h : Pc s i0 k xs) (h2 : bA s k = 92) (t : ByteArray) (rest : List UInt8) (he : s.data.toList.drop i0 = wrd t ++ rest) : k + 1 < s.size ∧
    ((∃ b t2 w, xs ++ b :: t2 = t.data.toList ∧ Pl t2 w ∧ s.data.toList.drop (k + 2) = w ++ 34 :: rest ∧ (((bA s (k + 1) = 34 ∨ bA s (k + 1) = 92) ∧ b.toNat = bA s (k + 1)) ∨ (bA s (k + 1) = 110 ∧ b.toNat = 10) ∨ (bA s (k + 1) = 114 ∧ b.toNat = 13) ∨ (bA s (k + 1) = 116 ∧ b.toNat = 9)))
    ∨ ∃ b t2 w, xs ++ b :: t2 = t.data.toList ∧ Pl t2 w ∧ s.data.toList.drop (k + 4) = w ++ 34 :: rest ∧ bA s (k + 1) = 120 ∧ k + 3 < s.size ∧ bA s (k + 2) = (dgt (b.toNat / 16)).toNat ∧ bA s (k + 3) = (dgt (b.toNat % 16)).toNat) := by
  obtain ⟨t', W, g1, g2, g3⟩ := h t rest he
  have rd : ∀ (j : Nat) (b : UInt8), (W ++ 34 :: rest)[j]? = some b → k + j < s.size ∧ bA s (k + j) = b.toNat := fun j b hj => by
    obtain ⟨q1, q2⟩ := drop_at g3 hj
    exact ⟨q1, by unfold bA; rw [q2]⟩
  cases g2 with
  | nil => have := (rd 0 34 rfl).2; rw [Nat.add_zero, h2] at this; exact absurd this (by decide)
  | raw b t2 w h8 h9 g4 => have := (rd 0 b rfl).2; rw [Nat.add_zero, h2] at this; exact absurd this.symm h9
  | esc b t2 w h9 g4 =>
    obtain ⟨q1, q2⟩ := rd 1 b rfl
    exact ⟨q1, .inl ⟨b, t2, w, g1, g4, by rw [drop_on g3]; rfl, .inl ⟨by omega, q2.symm⟩⟩⟩
  | ltr b c t2 w h9 g4 =>
    obtain ⟨q1, q2⟩ := rd 1 c rfl
    exact ⟨q1, .inl ⟨b, t2, w, g1, g4, by rw [drop_on g3]; rfl, .inr (by omega)⟩⟩
  | hex b t2 w g4 =>
    obtain ⟨q1, q2⟩ := rd 1 120 rfl
    obtain ⟨_, q4⟩ := rd 2 (dgt (b.toNat / 16)) rfl
    obtain ⟨q5, q6⟩ := rd 3 (dgt (b.toNat % 16)) rfl
    exact ⟨q1, .inr ⟨b, t2, w, g1, g4, by rw [drop_on g3]; rfl, q2, q5, q4, q6⟩⟩
theorem pc_two (h : Pc s i0 k xs) (h2 : bA s k = 92) {b : Nat} (hb : b < 256) (hc : (bA s (k + 1) = 110 ∧ b = 10) ∨ (bA s (k + 1) = 114 ∧ b = 13) ∨ (bA s (k + 1) = 116 ∧ b = 9) ∨ (bA s (k + 1) ≠ 110 ∧ bA s (k + 1) ≠ 114 ∧ bA s (k + 1) ≠ 116 ∧ bA s (k + 1) ≠ 120 ∧ b = bA s (k + 1))) : Pc s i0 (k + 2) (xs ++ [UInt8.ofNat b]) := fun t rest he => by
  obtain ⟨_, hh⟩ := pc_inv h h2 t rest he
  rcases hh with ⟨b2, t2, w, g1, g2, g3, g4⟩ | ⟨b2, t2, w, g1, g2, g3, g4, _⟩
  · have e : UInt8.ofNat b = b2 := u8_eq (by rw [nat_u8 hb]; omega)
    exact ⟨t2, w, by rw [List.append_assoc, e]; exact g1, g2, g3⟩
  · omega
theorem pc_hex (h : Pc s i0 k xs) (h2 : bA s k = 92) (hc : bA s (k + 1) = 120) {x y : Nat} (hx : x < 16) (hy : y < 16) (h3 : (dgt x).toNat = bA s (k + 2)) (h4 : (dgt y).toNat = bA s (k + 3)) : Pc s i0 (k + 4) (xs ++ [UInt8.ofNat (16 * x + y)]) := fun t rest he => by
  obtain ⟨_, hh⟩ := pc_inv h h2 t rest he
  rcases hh with ⟨b2, t2, w, g1, g2, g3, g4⟩ | ⟨b2, t2, w, g1, g2, g3, g4, g5, g6, g7⟩
  · omega
  · have hb2 := b2.toNat_lt
    have d1 := dgt_inj hx (by omega) (u8_eq (h3.trans g6))
    have d2 := dgt_inj hy (by omega) (u8_eq (h4.trans g7))
    have e : UInt8.ofNat (16 * x + y) = b2 := u8_eq (by rw [nat_u8 (by omega)]; omega)
    exact ⟨t2, w, by rw [List.append_assoc, e]; exact g1, g2, g3⟩
theorem pc_short (h : Pc s i0 k xs) (h2 : bA s k = 92) (hk : ¬ k + 1 < s.size) : ∀ (t : ByteArray) (rest : List UInt8), s.data.toList.drop i0 ≠ wrd t ++ rest := fun t rest he => hk (pc_inv h h2 t rest he).1
theorem pc_xshort (h : Pc s i0 k xs) (h2 : bA s k = 92) (hc : bA s (k + 1) = 120) (hk : ¬ k + 3 < s.size) : ∀ (t : ByteArray) (rest : List UInt8), s.data.toList.drop i0 ≠ wrd t ++ rest := fun t rest he => by
  rcases (pc_inv h h2 t rest he).2 with ⟨b2, t2, w, g1, g2, g3, g4⟩ | ⟨b2, t2, w, g1, g2, g3, g4, g5, g6, g7⟩ <;> omega
theorem pc_xbad (h : Pc s i0 k xs) (h2 : bA s k = 92) (hc : bA s (k + 1) = 120) (hd : (∀ j, j < 16 → (dgt j).toNat ≠ bA s (k + 2)) ∨ (∀ j, j < 16 → (dgt j).toNat ≠ bA s (k + 3))) : ∀ (t : ByteArray) (rest : List UInt8), s.data.toList.drop i0 ≠ wrd t ++ rest := fun t rest he => by
  rcases (pc_inv h h2 t rest he).2 with ⟨b2, t2, w, g1, g2, g3, g4⟩ | ⟨b2, t2, w, g1, g2, g3, g4, g5, g6, g7⟩
  · omega
  · have hb2 := b2.toNat_lt
    rcases hd with hd | hd
    · exact hd _ (by omega) g6.symm
    · exact hd _ (by omega) g7.symm
end
end Go.Proofs.YtpnacioliccglaaDoor
