/-
  A word, byte by byte: unlike strings have unlike words.
-/
import Derived.Test.YtpnacioliccglaaDoorDvI
namespace Go.Proofs.YtpnacioliccglaaDoor
open Go.RowKit
set_option linter.unusedVariables false
/-- Bytes, and how each is written. -/
inductive Pl : List UInt8 → List UInt8 → Prop
  | nil : Pl [] []
  | raw (b : UInt8) (t w : List UInt8) : b.toNat ≠ 34 → b.toNat ≠ 92 → Pl t w → Pl (b :: t) (b :: w)
  | esc (b : UInt8) (t w : List UInt8) : (b.toNat = 34 ∨ b.toNat = 92) → Pl t w → Pl (b :: t) (92 :: b :: w)
  | ltr (b c : UInt8) (t w : List UInt8) : ((c.toNat = 110 ∧ b.toNat = 10) ∨ (c.toNat = 114 ∧ b.toNat = 13) ∨ (c.toNat = 116 ∧ b.toNat = 9)) → Pl t w → Pl (b :: t) (92 :: c :: w)
  | hex (b : UInt8) (t w : List UInt8) : Pl t w → Pl (b :: t) (92 :: 120 :: dgt (b.toNat / 16) :: dgt (b.toNat % 16) :: w)
theorem pl_raws : ∀ (bs : List UInt8) {t w : List UInt8}, (∀ b ∈ bs, 128 ≤ b.toNat) → Pl t w → Pl (bs ++ t) (bs ++ w)
  | [], _, _, _, h => h
  | b :: bs, t, w, hb, h => by
    have h1 := hb b (List.mem_cons_self ..)
    exact .raw b _ _ (by omega) (by omega) (pl_raws bs (fun x hx => hb x (List.mem_cons_of_mem _ hx)) h)
theorem wq_pl {t w : List UInt8} (h : Wq t w) : Pl t w := by
  induction h with
  | nil => exact .nil
  | one b t w h1 h2 h3 h4 _ ih => exact .raw b _ _ h3 h4 ih
  | esc b t w h1 _ ih => exact .esc b _ _ h1 ih
  | ltr b c t w h1 _ ih => exact .ltr b c _ _ h1 ih
  | hex b t w _ ih => exact .hex b _ _ ih
  | seq s i t w h2 hin hn _ ih =>
    refine pl_raws _ (fun b hb => ?_) ih
    obtain ⟨k, hk, e⟩ := List.getElem_of_mem hb
    rw [bsA_len] at hk
    have h1 := bsA_get (s := s) (i := i) hk
    rw [List.getElem?_eq_getElem (by rw [bsA_len]; exact hk), e] at h1
    injection h1 with h1
    rw [h1]
    exact seq_hi h2 hk
theorem dgt_inj {a b : Nat} (ha : a < 16) (hb : b < 16) (h : dgt a = dgt b) : a = b := by
  have h1 := hexV_dgt ⟨a, ha⟩
  have h2 := hexV_dgt ⟨b, hb⟩
  simp only at h1 h2
  rw [h, h2] at h1
  injection h1 with h1
  exact h1.symm
theorem u8_eq {a b : UInt8} (h : a.toNat = b.toNat) : a = b := UInt8.toNat_inj.1 h
theorem pl_inj {t w : List UInt8} (h : Pl t w) : ∀ t', Pl t' w → t = t' := by
  induction h with
  | nil => intro t' h'; cases h'; rfl
  | raw b t w h1 h2 _ ih =>
    intro t' h'
    cases h' with
    | raw _ t2 _ _ _ h3 => rw [ih _ h3]
    | esc _ t2 _ _ h3 => exact absurd rfl h2
    | ltr _ _ t2 _ _ h3 => exact absurd rfl h2
    | hex _ t2 _ h3 => exact absurd rfl h2
  | esc b t w h1 _ ih =>
    intro t' h'
    cases h' with
    | raw _ t2 _ _ h9 h3 => exact absurd rfl h9
    | esc _ t2 _ _ h3 => rw [ih _ h3]
    | ltr b2 _ t2 _ h9 h3 => omega
    | hex _ t2 w2 h3 => exact absurd h1 (by decide)
  | ltr b c t w h1 _ ih =>
    intro t' h'
    cases h' with
    | raw _ t2 _ _ h9 h3 => exact absurd rfl h9
    | esc _ t2 _ h9 h3 => omega
    | ltr b2 _ t2 _ h9 h3 => rw [ih _ h3, u8_eq (show b.toNat = b2.toNat by omega)]
    | hex _ t2 w2 h3 => exact absurd h1 (by simp)
  | hex b t w _ ih =>
    intro t' h'
    have hb := b.toNat_lt
    generalize hW : 92 :: 120 :: dgt (b.toNat / 16) :: dgt (b.toNat % 16) :: w = W at h'
    cases h' with
    | nil => cases hW
    | raw b2 t2 w2 h8 h9 h3 => injection hW with e1 _; rw [← e1] at h9; exact absurd rfl h9
    | esc b2 t2 w2 h9 h3 => injection hW with _ e2; injection e2 with e2 _; rw [← e2] at h9; exact absurd h9 (by decide)
    | ltr b2 c t2 w2 h9 h3 => injection hW with _ e2; injection e2 with e2 _; rw [← e2] at h9; exact absurd h9 (by simp)
    | hex b2 t2 w2 h3 =>
      injection hW with _ e2; injection e2 with _ e3; injection e3 with e3 e4; injection e4 with e4 e5
      have hb2 := b2.toNat_lt
      have d1 := dgt_inj (by omega) (by omega) e3
      have d2 := dgt_inj (by omega) (by omega) e4
      subst e5
      rw [ih _ h3, u8_eq (show b.toNat = b2.toNat by omega)]
theorem pl_wrd (s : ByteArray) : ∃ W, wrd s = 34 :: (W ++ [34]) ∧ Pl s.data.toList W := by
  obtain ⟨W, h1, h2⟩ := wq_wrd s
  exact ⟨W, h1, wq_pl h2⟩
theorem wrd_inj {s t : ByteArray} (h : wrd s = wrd t) : s = t := by
  obtain ⟨W, h1, h2⟩ := pl_wrd s
  obtain ⟨V, h3, h4⟩ := pl_wrd t
  rw [h1, h3] at h
  injection h with _ h
  have e : W = V := List.append_cancel_right h
  subst e
  have := pl_inj h2 _ h4
  cases s with | mk a => cases t with | mk b => simp at this; rw [this]
end Go.Proofs.YtpnacioliccglaaDoor
