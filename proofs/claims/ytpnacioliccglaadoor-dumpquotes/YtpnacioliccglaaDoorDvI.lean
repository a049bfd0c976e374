/-
  A word, as UnquoteChar reads it.
-/
import Derived.Test.YtpnacioliccglaaDoorDvB
import Derived.Test.YtpnacioliccglaaDoorDvF
import Derived.Test.YtpnacioliccglaaDoorDvG
namespace Go.Proofs.YtpnacioliccglaaDoor
open Go.RowKit Go.Maps Go.Shelf
set_option linter.unusedVariables false
theorem wl2 {s : ByteArray} {i : Nat} (h0 : 194 ≤ bA s i) (h1 : bA s i ≤ 223) (hz : i + 1 < s.size) (h2 : 128 ≤ bA s (i + 1)) (h3 : bA s (i + 1) ≤ 191) : wl s i = 2 := by
  have T := @btw_iff s (i + 1) 128 191
  rw [wl.eq_1, if_neg (by omega), if_pos ⟨h0, h1, T.2 ⟨hz, h2, h3⟩⟩]
theorem wl3 {s : ByteArray} {i : Nat} (h0 : 224 ≤ bA s i) (h1 : bA s i ≤ 239) (hz : i + 2 < s.size) (h2 : 128 ≤ bA s (i + 1)) (h3 : bA s (i + 1) ≤ 191) (h4 : 128 ≤ bA s (i + 2)) (h5 : bA s (i + 2) ≤ 191) (h6 : bA s i = 224 → 160 ≤ bA s (i + 1)) (h7 : bA s i = 237 → bA s (i + 1) ≤ 159) : wl s i = 3 := by
  have T1 := (@btw_iff s (i + 1) 128 191).2 ⟨by omega, h2, h3⟩
  have T2 := (@btw_iff s (i + 2) 128 191).2 ⟨hz, h4, h5⟩
  rw [wl.eq_1, if_neg (by omega), if_neg (by omega)]
  by_cases c1 : bA s i = 224
  · rw [if_pos ⟨c1, ⟨T1, T2⟩, h6 c1⟩]
  rw [if_neg (by omega)]
  by_cases c2 : bA s i = 237
  · rw [if_pos ⟨c2, ⟨T1, T2⟩, h7 c2⟩]
  rw [if_neg (by omega), if_pos ⟨by omega, h1, c2, T1, T2⟩]
theorem wl4 {s : ByteArray} {i : Nat} (h0 : 240 ≤ bA s i) (h1 : bA s i ≤ 244) (hz : i + 3 < s.size) (h2 : 128 ≤ bA s (i + 1)) (h3 : bA s (i + 1) ≤ 191) (h4 : 128 ≤ bA s (i + 2)) (h5 : bA s (i + 2) ≤ 191) (h8 : 128 ≤ bA s (i + 3)) (h9 : bA s (i + 3) ≤ 191) (h6 : bA s i = 240 → 144 ≤ bA s (i + 1)) (h7 : bA s i = 244 → bA s (i + 1) ≤ 143) : wl s i = 4 := by
  have T1 := (@btw_iff s (i + 1) 128 191).2 ⟨by omega, h2, h3⟩
  have T2 := (@btw_iff s (i + 2) 128 191).2 ⟨by omega, h4, h5⟩
  have T3 := (@btw_iff s (i + 3) 128 191).2 ⟨hz, h8, h9⟩
  rw [wl.eq_1, if_neg (by omega), if_neg (by omega), if_neg (by omega), if_neg (by omega), if_neg (by omega)]
  by_cases c1 : bA s i = 240
  · rw [if_pos ⟨c1, ⟨T1, T2, T3⟩, h6 c1⟩]
  rw [if_neg (by omega)]
  by_cases c2 : bA s i = 244
  · rw [if_pos ⟨c2, ⟨T1, T2, T3⟩, h7 c2⟩]
  rw [if_neg (by omega), if_pos ⟨by omega, by omega, T1, T2, T3⟩]
/-- A sequence elsewhere is read as it was. -/
theorem dec_same {s y : ByteArray} {i : Nat} (h2 : 2 ≤ wl s i) (hy : wl s i ≤ y.size) (h : ∀ k, k < wl s i → bA y k = bA s (i + k)) : Utf8.decode y 0 = Utf8.decode s i ∧ 128 ≤ bA s i := by
  have e0 := h 0 (by omega)
  have e1 := h 1 (by omega)
  rw [Nat.add_zero] at e0
  rcases wlc s i with ⟨q, _⟩ | ⟨q, _⟩ | ⟨hw, a1, a2, a3, a4, a5, hd⟩ | ⟨hw, a1, a2, a3, a4, a5, a6, a7, a8, a9, hd⟩ | ⟨hw, a1, a2, a3, a4, a5, a6, a7, a8, a9, b1, b2, hd⟩
  · omega
  · omega
  · have q := wl2 (s := y) (i := 0) (by omega) (by omega) (by omega) (by rw [show 0 + 1 = 1 from rfl]; omega) (by rw [show 0 + 1 = 1 from rfl]; omega)
    refine ⟨?_, by omega⟩
    rcases wlc y 0 with ⟨p, _⟩ | ⟨p, _⟩ | ⟨_, _, _, _, _, _, hp⟩ | ⟨p, _⟩ | ⟨p, _⟩
    · omega
    · omega
    · rw [hp, hd, e0, show 0 + 1 = 1 from rfl, e1]
    · omega
    · omega
  · have e2 := h 2 (by omega)
    have q := wl3 (s := y) (i := 0) (by omega) (by omega) (by omega) (by rw [show 0 + 1 = 1 from rfl]; omega) (by rw [show 0 + 1 = 1 from rfl]; omega) (by rw [show 0 + 2 = 2 from rfl]; omega) (by rw [show 0 + 2 = 2 from rfl]; omega) (by rw [show 0 + 1 = 1 from rfl]; omega) (by rw [show 0 + 1 = 1 from rfl]; omega)
    refine ⟨?_, by omega⟩
    rcases wlc y 0 with ⟨p, _⟩ | ⟨p, _⟩ | ⟨p, _⟩ | ⟨_, _, _, _, _, _, _, _, _, _, hp⟩ | ⟨p, _⟩
    · omega
    · omega
    · omega
    · rw [hp, hd, e0, show 0 + 1 = 1 from rfl, show 0 + 2 = 2 from rfl, e1, e2]
    · omega
  · have e2 := h 2 (by omega)
    have e3 := h 3 (by omega)
    have q := wl4 (s := y) (i := 0) (by omega) (by omega) (by omega) (by rw [show 0 + 1 = 1 from rfl]; omega) (by rw [show 0 + 1 = 1 from rfl]; omega) (by rw [show 0 + 2 = 2 from rfl]; omega) (by rw [show 0 + 2 = 2 from rfl]; omega) (by rw [show 0 + 3 = 3 from rfl]; omega) (by rw [show 0 + 3 = 3 from rfl]; omega) (by rw [show 0 + 1 = 1 from rfl]; omega) (by rw [show 0 + 1 = 1 from rfl]; omega)
    refine ⟨?_, by omega⟩
    rcases wlc y 0 with ⟨p, _⟩ | ⟨p, _⟩ | ⟨p, _⟩ | ⟨p, _⟩ | ⟨_, _, _, _, _, _, _, _, _, _, _, _, hp⟩
    · omega
    · omega
    · omega
    · omega
    · rw [hp, hd, e0, show 0 + 1 = 1 from rfl, show 0 + 2 = 2 from rfl, show 0 + 3 = 3 from rfl, e1, e2, e3]
/-- The bytes of a sequence are those of its rune. -/
theorem enc_same {s : ByteArray} {i : Nat} (h2 : 2 ≤ wl s i) (hn : ¬ (wl s i = 2 ∧ bA s i = 194 ∧ bA s (i + 1) < 160)) : Lib.encodeRune ((Utf8.decode s i).1 : Int) = bsA s i (wl s i) ∧ 160 ≤ (Utf8.decode s i).1 ∧ (Utf8.decode s i).2 = wl s i := by
  have hb1 := bA_lt s (i + 1)
  have hb2 := bA_lt s (i + 2)
  have hb3 := bA_lt s (i + 3)
  have hs := dv_sg s i
  have hst : (Utf8.decode s i).2 = wl s i := by rw [hs.2]; unfold stp; rw [if_neg (by omega)]
  have h1 := hs.1
  obtain ⟨r, hr⟩ : ∃ r, (Utf8.decode s i).1 = r := ⟨_, rfl⟩
  have key : 160 ≤ r ∧ 128 ≤ bA s i ∧ (r = 65533 → i + 2 < s.size ∧ bA s i = 239 ∧ bA s (i + 1) = 191 ∧ bA s (i + 2) = 189) := by
    rcases wlc s i with ⟨q, _⟩ | ⟨q, _⟩ | ⟨hw, a1, a2, a3, a4, a5, hd⟩ | ⟨hw, a1, a2, a3, a4, a5, a6, a7, a8, a9, hd⟩ | ⟨hw, a1, a2, a3, a4, a5, a6, a7, a8, a9, b1, b2, hd⟩
    · omega
    · omega
    · rw [hd] at hr
      dsimp only at hr
      exact ⟨by omega, by omega, by omega⟩
    · rw [hd] at hr
      dsimp only at hr
      exact ⟨by omega, by omega, by omega⟩
    · rw [hd] at hr
      dsimp only at hr
      exact ⟨by omega, by omega, by omega⟩
  rw [hr] at h1 ⊢
  unfold dv sg at h1
  obtain ⟨k1, k2, k3⟩ := key
  rw [if_neg (by omega), if_neg (by omega), if_neg (by omega), if_neg (by omega), if_neg (fun h => h.2 (k3 h.1)), if_pos (.inr k1), if_neg (by omega), if_neg (by omega), if_neg (by omega), if_neg (by omega), if_neg (by omega), if_neg (by omega), if_neg hn] at h1
  exact ⟨h1, k1, hst⟩
theorem bsA_get {s : ByteArray} {i : Nat} : ∀ {n k : Nat}, k < n → (bsA s i n)[k]? = some (s.get! (i + k))
  | n + 1, k, h => by
    rw [bsA]
    by_cases c : k < n
    · rw [List.getElem?_append_left (by rw [bsA_len]; exact c)]
      exact bsA_get c
    · have e : k = n := by omega
      subst e
      rw [List.getElem?_append_right (by rw [bsA_len]; exact Nat.le_refl _), bsA_len, Nat.sub_self]
      rfl
theorem seq_hi {s : ByteArray} {i k : Nat} (h2 : 2 ≤ wl s i) (hk : k < wl s i) : 128 ≤ bA s (i + k) := by
  rcases wlc s i with ⟨q, _⟩ | ⟨q, _⟩ | ⟨hw, a1, a2, a3, a4, a5, hd⟩ | ⟨hw, a1, a2, a3, a4, a5, a6, a7, a8, a9, hd⟩ | ⟨hw, a1, a2, a3, a4, a5, a6, a7, a8, a9, b1, b2, hd⟩
  · omega
  · omega
  · have : k = 0 ∨ k = 1 := by omega
    rcases this with rfl | rfl
    · rw [Nat.add_zero]; omega
    · omega
  · have : k = 0 ∨ k = 1 ∨ k = 2 := by omega
    rcases this with rfl | rfl | rfl
    · rw [Nat.add_zero]; omega
    · omega
    · omega
  · have : k = 0 ∨ k = 1 ∨ k = 2 ∨ k = 3 := by omega
    rcases this with rfl | rfl | rfl | rfl
    · rw [Nat.add_zero]; omega
    · omega
    · omega
    · omega
/-- A word without a backslash is what it says. -/
theorem noback {t W : List UInt8} (h : Wq t W) : ∀ o, (W ++ [34])[o]? = some 34 → (∀ k, k < o → (W ++ [34])[k]? ≠ some 34) → (∀ k, k ≤ o → (W ++ [34])[k]? ≠ some 92) → t = W ∧ o = W.length := by
  induction h with
  | nil =>
    intro o h1 h2 h3
    have := (List.getElem?_eq_some_iff.1 h1).1
    exact ⟨rfl, by simpa using this⟩
  | one b t w h1 h2 h3 h4 _ ih =>
    intro o p1 p2 p3
    cases o with
    | zero => simp at p1; rw [p1] at h3; exact absurd rfl h3
    | succ o =>
      obtain ⟨e1, e2⟩ := ih o (by simpa using p1) (fun k hk => by have := p2 (k + 1) (by omega); simpa using this) (fun k hk => by have := p3 (k + 1) (by omega); simpa using this)
      exact ⟨by rw [e1], by simp [e2]⟩
  | esc b t w _ _ ih => intro o _ _ p3; exact absurd rfl (p3 0 (by omega))
  | ltr b c t w _ _ ih => intro o _ _ p3; exact absurd rfl (p3 0 (by omega))
  | hex b t w _ ih => intro o _ _ p3; exact absurd rfl (p3 0 (by omega))
  | seq s i t w h2 hin hn _ ih =>
    intro o p1 p2 p3
    have hl := bsA_len s i (wl s i)
    by_cases c : o < wl s i
    · rw [List.append_assoc, List.getElem?_append_left (by rw [hl]; exact c), bsA_get c] at p1
      injection p1 with p1
      have := seq_hi h2 c
      unfold bA at this
      rw [p1] at this
      exact absurd this (by decide)
    · obtain ⟨e1, e2⟩ := ih (o - wl s i) (by rw [List.append_assoc, List.getElem?_append_right (by rw [hl]; omega), hl] at p1; exact p1)
        (fun k hk => by have := p2 (wl s i + k) (by omega); rw [List.append_assoc, List.getElem?_append_right (by rw [hl]; omega), hl, Nat.add_sub_cancel_left] at this; exact this)
        (fun k hk => by have := p3 (wl s i + k) (by omega); rw [List.append_assoc, List.getElem?_append_right (by rw [hl]; omega), hl, Nat.add_sub_cancel_left] at this; exact this)
      exact ⟨by rw [e1], by rw [List.length_append, hl]; omega⟩
theorem hexV_dgt : ∀ n : Fin 16, hexV (dgt n.val).toNat = some n.val := by decide
/-- What is left to be read of a word: what it says, and how. -/
def Lft (t : List UInt8) (y : ByteArray) : Prop := ∃ W, Wq t W ∧ y.data.toList = W ++ [34]
/-- What the program appends for a rune. -/
def apd (r : Int) (mb : Bool) : List UInt8 := if r < 128 ∨ mb = false then [UInt8.ofNat (r % 256).toNat] else Lib.encodeRune r
theorem apd_one {b : UInt8} : apd ((b.toNat : Nat) : Int) false = [b] := by
  unfold apd
  rw [if_pos (.inr rfl)]
  have h := b.toNat_lt
  have e : (((b.toNat : Nat) : Int) % 256).toNat = b.toNat := by omega
  rw [e, UInt8.ofNat_toNat]
theorem lft_frm {y : ByteArray} {k : Nat} {L : List UInt8} (h : y.data.toList.drop k = L) : (frm y k).data.toList = L := by rw [frm_list, h]
/-- The next sign, as UnquoteChar reads it. -/
theorem lft_step {t : List UInt8} {y : ByteArray} {E : Value} {e : Ending} (h : Lft t y) (hu : UcP y 34 E e) :
    (t = [] ∧ y.data.toList = [34]) ∨ ∃ r mb tl t', e = .returned (.tuple #[.int .i32 r, .bool mb, .string tl, .nilIface]) ∧ bA y 0 ≠ 34 ∧ bA y 0 ≠ 10 ∧ t = apd r mb ++ t' ∧ Lft t' tl := by
  obtain ⟨W, hW, hy⟩ := h
  cases hW with
  | nil => exact .inl ⟨rfl, hy⟩
  | one b t w h1 h2 h3 h4 hw =>
    obtain ⟨_, e0⟩ := list_at (z := y) (i := 0) (b := b) (by rw [hy]; rfl)
    refine .inr ⟨_, _, _, t, hu.one rfl (by omega) (by omega) (by omega), by omega, by omega, ?_, w, hw, lft_frm (by rw [hy]; rfl)⟩
    rw [e0, apd_one]; rfl
  | esc b t w h1 hw =>
    obtain ⟨_, e0⟩ := list_at (z := y) (i := 0) (b := 92) (by rw [hy]; rfl)
    obtain ⟨hz, e1⟩ := list_at (z := y) (i := 1) (b := b) (by rw [hy]; rfl)
    have e0' : bA y 0 = 92 := e0
    refine .inr ⟨_, _, _, t, hu.esc rfl hz e0' (by omega), by omega, by omega, ?_, w, hw, lft_frm (by rw [hy]; rfl)⟩
    rw [e1, apd_one]; rfl
  | ltr b c t w h1 hw =>
    obtain ⟨_, e0⟩ := list_at (z := y) (i := 0) (b := 92) (by rw [hy]; rfl)
    obtain ⟨hz, e1⟩ := list_at (z := y) (i := 1) (b := c) (by rw [hy]; rfl)
    have e0' : bA y 0 = 92 := e0
    refine .inr ⟨_, _, _, t, hu.ltr rfl hz e0' b.toNat (by omega), by omega, by omega, ?_, w, hw, lft_frm (by rw [hy]; rfl)⟩
    rw [apd_one]; rfl
  | hex b t w hw =>
    have hb := b.toNat_lt
    obtain ⟨_, e0⟩ := list_at (z := y) (i := 0) (b := 92) (by rw [hy]; rfl)
    obtain ⟨_, e1⟩ := list_at (z := y) (i := 1) (b := 120) (by rw [hy]; rfl)
    obtain ⟨_, e2⟩ := list_at (z := y) (i := 2) (b := dgt (b.toNat / 16)) (by rw [hy]; rfl)
    obtain ⟨hz, e3⟩ := list_at (z := y) (i := 3) (b := dgt (b.toNat % 16)) (by rw [hy]; rfl)
    have e0' : bA y 0 = 92 := e0
    have e1' : bA y 1 = 120 := e1
    have g1 := hexV_dgt ⟨b.toNat / 16, by omega⟩
    have g2 := hexV_dgt ⟨b.toNat % 16, by omega⟩
    have hh := hu.hex rfl (by omega) e0' e1' _ _ (by rw [e2]; exact g1) (by rw [e3]; exact g2)
    rw [show 16 * (b.toNat / 16) + b.toNat % 16 = b.toNat by omega] at hh
    refine .inr ⟨_, _, _, t, hh, by omega, by omega, ?_, w, hw, lft_frm (by rw [frm_list, hy]; rfl)⟩
    rw [apd_one]; rfl
  | seq s i t w h2 hin hn hw =>
    have hl := bsA_len s i (wl s i)
    have hg : ∀ k, k < wl s i → k < y.size ∧ bA y k = bA s (i + k) := fun k hk => by
      have := list_at (z := y) (i := k) (b := s.get! (i + k)) (by rw [hy, List.append_assoc, List.getElem?_append_left (by rw [hl]; exact hk), bsA_get hk])
      exact this
    have hys : wl s i ≤ y.size := by have := (hg (wl s i - 1) (by omega)).1; omega
    obtain ⟨d1, d2⟩ := dec_same h2 hys (fun k hk => (hg k hk).2)
    obtain ⟨q1, q2, q3⟩ := enc_same h2 hn
    have e0 := (hg 0 (by omega)).2
    rw [Nat.add_zero] at e0
    have hh := hu.big rfl (by omega)
    rw [d1, q3] at hh
    refine .inr ⟨_, _, _, t, hh, by omega, by omega, ?_, w, hw, lft_frm ?_⟩
    · unfold apd
      rw [if_neg (by intro c; rcases c with c | c; · omega
                     · cases c), q1]
    · rw [hy, List.append_assoc, List.drop_append_of_le_length (by rw [hl]; exact Nat.le_refl _), List.drop_of_length_le (by rw [hl]; exact Nat.le_refl _)]
      rfl
end Go.Proofs.YtpnacioliccglaaDoor
