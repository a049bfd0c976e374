/-
  The bytes of a clock as mathematics: written, read, each the other's way back. No walk here.
-/
import Derived.Test.YtajkenbcndmjpabClM
import Derived.Test.YtajkenbcndmjpabBack
import Derived.Test.YtajkenbcndmjpabReadsB
namespace Go.Proofs.Ytajkenbcndmjpab
open Go.RowKit
open Go.Proofs.Ytajkenbcndmjpab.W1 (enc rdAt rdAt_enc rdAt_inv rdAt_place rdAt_bd enc_le)
/-- A clock's numbers, one behind the other; none of its goroutines is below m. -/
def txt : Int → List Tk → List Int
  | _, [] => []
  | m, x :: c => enc (x.g - m).toNat ++ (enc x.t.toNat ++ txt (x.g + 1) c)
def encC (c : List Tk) : List Int := enc c.length ++ txt 0 c
/-- A number that may be 'most' at most. -/
def rdN (zs : List Int) (most at_ : Int) : Int × Int × Int :=
  if (rdAt zs at_).2.2 ≠ 0 then (0, 0, (rdAt zs at_).2.2) else if most < 0 ∨ most < (rdAt zs at_).1 then (0, 0, 170) else ((rdAt zs at_).1, (rdAt zs at_).2.1, 0)
/-- One entry. -/
def rdT (zs : List Int) (m at_ : Int) : Tk × Int × Int :=
  if (rdN zs (65535 - m) at_).2.2 ≠ 0 then (⟨0, 0⟩, 0, (rdN zs (65535 - m) at_).2.2)
  else if (rdN zs 9223372036854775807 (rdN zs (65535 - m) at_).2.1).2.2 ≠ 0 then (⟨0, 0⟩, 0, (rdN zs 9223372036854775807 (rdN zs (65535 - m) at_).2.1).2.2)
  else if (rdN zs 9223372036854775807 (rdN zs (65535 - m) at_).2.1).1 = 0 then (⟨0, 0⟩, 0, 170)
  else (⟨m + (rdN zs (65535 - m) at_).1, (rdN zs 9223372036854775807 (rdN zs (65535 - m) at_).2.1).1⟩, (rdN zs 9223372036854775807 (rdN zs (65535 - m) at_).2.1).2.1, 0)
/-- n entries. -/
def rdL (zs : List Int) : Nat → Int → Int → List Tk × Int × Int
  | 0, _, at_ => ([], at_, 0)
  | n + 1, m, at_ =>
    if (rdT zs m at_).2.2 ≠ 0 then ([], 0, (rdT zs m at_).2.2)
    else if (rdL zs n ((rdT zs m at_).1.g + 1) (rdT zs m at_).2.1).2.2 ≠ 0 then ([], 0, (rdL zs n ((rdT zs m at_).1.g + 1) (rdT zs m at_).2.1).2.2)
    else ((rdT zs m at_).1 :: (rdL zs n ((rdT zs m at_).1.g + 1) (rdT zs m at_).2.1).1, (rdL zs n ((rdT zs m at_).1.g + 1) (rdT zs m at_).2.1).2.1, 0)
/-- What comes of it, with those that were read ahead. -/
def fin (zs : List Int) (acc : List Tk) (r : List Tk × Int × Int) : List Tk × Int :=
  if r.2.2 ≠ 0 then ([], r.2.2) else if r.2.1 < (zs.length : Int) then ([], 170) else (acc ++ r.1, 0)
def decC (zs : List Int) : List Tk × Int :=
  if (rdN zs 65536 0).2.2 ≠ 0 then ([], (rdN zs 65536 0).2.2) else fin zs [] (rdL zs (rdN zs 65536 0).1.toNat 0 (rdN zs 65536 0).2.1)
theorem fin_ok {zs : List Int} {acc : List Tk} {n : Nat} {m at_ p : Int} {x : Tk} (h : rdT zs m at_ = (x, p, 0)) : fin zs acc (rdL zs (n + 1) m at_) = fin zs (acc ++ [x]) (rdL zs n (x.g + 1) p) := by
  rw [rdL, h]
  generalize rdL zs n (x.g + 1) p = r
  obtain ⟨l, q, e⟩ := r
  unfold fin
  by_cases he : e = 0
  · subst he; simp
  · simp [he]
theorem fin_bad {zs : List Int} {acc : List Tk} {n : Nat} {m at_ p e : Int} {x : Tk} (h : rdT zs m at_ = (x, p, e)) (he : e ≠ 0) : fin zs acc (rdL zs (n + 1) m at_) = ([], e) := by
  rw [rdL, h]
  unfold fin
  simp [he]
theorem fin_end {zs : List Int} {acc : List Tk} {m at_ : Int} : fin zs acc (rdL zs 0 m at_) = if at_ < (zs.length : Int) then ([], 170) else (acc, 0) := by
  rw [rdL]
  unfold fin
  simp
theorem rdN_bd (zs : List Int) (most at_ : Int) (h : ∀ i : Nat, 0 ≤ zs[i]?.getD 0 ∧ zs[i]?.getD 0 ≤ 255) : 0 ≤ (rdN zs most at_).1 ∧ ((rdN zs most at_).2.2 = 0 → (rdN zs most at_).1 ≤ most ∧ 0 ≤ most ∧ at_ < (rdN zs most at_).2.1 ∧ (rdN zs most at_).2.1 ≤ zs.length) := by
  have hb := rdAt_bd zs at_ h
  have hp := @rdAt_place zs at_
  unfold rdN
  split
  · exact ⟨Int.le_refl _, fun e => absurd e (by assumption)⟩
  · rename_i e0
    split
    · exact ⟨Int.le_refl _, fun e => by simp at e⟩
    · have := hp (by simpa using e0)
      exact ⟨hb.1, fun _ => ⟨by dsimp only; omega, by omega, this.2.1, this.2.2⟩⟩
theorem rdT_bd (zs : List Int) (m at_ : Int) (h : ∀ i : Nat, 0 ≤ zs[i]?.getD 0 ∧ zs[i]?.getD 0 ≤ 255) (he : (rdT zs m at_).2.2 = 0) : m ≤ (rdT zs m at_).1.g ∧ (rdT zs m at_).1.g < 65536 ∧ 1 ≤ (rdT zs m at_).1.t ∧ (rdT zs m at_).1.t ≤ 9223372036854775807 ∧ at_ < (rdT zs m at_).2.1 ∧ (rdT zs m at_).2.1 ≤ zs.length := by
  have b1 := rdN_bd zs (65535 - m) at_ h
  have b2 := rdN_bd zs 9223372036854775807 (rdN zs (65535 - m) at_).2.1 h
  unfold rdT at he ⊢
  generalize rdN zs (65535 - m) at_ = p at b1 b2 he ⊢
  generalize rdN zs 9223372036854775807 p.2.1 = q at b2 he ⊢
  split at he
  · exact absurd he (by assumption)
  · rename_i e1
    rw [if_neg e1]
    split at he
    · exact absurd he (by assumption)
    · rename_i e2
      rw [if_neg e2]
      split at he
      · simp at he
      · rename_i e3
        rw [if_neg e3]
        have c1 := b1.2 (by simpa using e1)
        have c2 := b2.2 (by simpa using e2)
        refine ⟨?_, ?_, ?_, ?_, ?_, ?_⟩ <;> dsimp only <;> omega
/-! ### what is written is read -/
theorem rdN_enc (pre rest : List Int) (x : Nat) (most : Int) (h : (x : Int) ≤ most) (hm : most < 18446744073709551616) : rdN (pre ++ (enc x ++ rest)) most pre.length = ((x : Int), (pre.length : Int) + (enc x).length, 0) := by
  unfold rdN
  rw [rdAt_enc pre rest x (by omega)]
  simp
  omega
theorem rdL_txt {m : Int} {c : List Tk} (h : gd m c = true) (ht : ∀ x ∈ c, x.t ≤ 9223372036854775807) (hm : 0 ≤ m) (pre rest : List Int) : rdL (pre ++ (txt m c ++ rest)) c.length m pre.length = (c, (pre.length : Int) + (txt m c).length, 0) := by
  induction c generalizing m pre with
  | nil => simp [rdL, txt]
  | cons x c ih =>
    obtain ⟨h1, h2, h3, h4⟩ := gd_cons.1 h
    have hx := ht x (by simp)
    have e0 : pre ++ (txt m (x :: c) ++ rest) = pre ++ (enc (x.g - m).toNat ++ (enc x.t.toNat ++ (txt (x.g + 1) c ++ rest))) := by simp [txt]
    have e1 : pre ++ (txt m (x :: c) ++ rest) = (pre ++ enc (x.g - m).toNat) ++ (enc x.t.toNat ++ (txt (x.g + 1) c ++ rest)) := by simp [txt]
    have e2 : pre ++ (txt m (x :: c) ++ rest) = (pre ++ enc (x.g - m).toNat ++ enc x.t.toNat) ++ (txt (x.g + 1) c ++ rest) := by simp [txt]
    have r1 := rdN_enc pre (enc x.t.toNat ++ (txt (x.g + 1) c ++ rest)) (x.g - m).toNat (65535 - m) (by omega) (by omega)
    have r2 := rdN_enc (pre ++ enc (x.g - m).toNat) (txt (x.g + 1) c ++ rest) x.t.toNat 9223372036854775807 (by omega) (by omega)
    rw [← e0] at r1
    rw [← e1] at r2
    rw [List.length_append, Int.natCast_add] at r2
    have r3 : rdT (pre ++ (txt m (x :: c) ++ rest)) m pre.length = (x, ((pre ++ enc (x.g - m).toNat ++ enc x.t.toNat).length : Int), 0) := by
      unfold rdT
      rw [r1]
      dsimp only
      rw [r2]
      dsimp only
      rw [if_neg (by simp), if_neg (by simp), if_neg (by omega)]
      have : (⟨m + ((x.g - m).toNat : Int), (x.t.toNat : Int)⟩ : Tk) = x := Tk.ext2 (by dsimp only; omega) (by dsimp only; omega)
      rw [this]
      simp
      omega
    have r4 := ih h4 (fun y hy => ht y (by simp [hy])) (by omega) (pre ++ enc (x.g - m).toNat ++ enc x.t.toNat)
    rw [← e2] at r4
    rw [List.length_cons, rdL, r3]
    dsimp only
    rw [r4]
    simp [txt]
    omega
theorem decC_enc {c : List Tk} (h : gd 0 c = true) (ht : ∀ x ∈ c, x.t ≤ 9223372036854775807) (rest : List Int) : decC (encC c ++ rest) = if rest = [] then (c, 0) else ([], 170) := by
  have hl := gd_len0 h
  have e0 : encC c ++ rest = [] ++ (enc c.length ++ (txt 0 c ++ rest)) := by simp [encC]
  have e1 : encC c ++ rest = enc c.length ++ (txt 0 c ++ rest) := by simp [encC]
  have r1 := rdN_enc [] (txt 0 c ++ rest) c.length 65536 hl (by omega)
  rw [← e0] at r1
  have r2 := rdL_txt h ht (Int.le_refl _) (enc c.length) rest
  rw [← e1] at r2
  have r1' : rdN (encC c ++ rest) 65536 0 = ((c.length : Int), ((enc c.length).length : Int), 0) := by simpa using r1
  unfold decC
  rw [r1']
  dsimp only
  rw [if_neg (by simp), Int.toNat_natCast, r2]
  unfold fin
  dsimp only
  rw [if_neg (by simp)]
  by_cases hr : rest = []
  · subst hr
    rw [if_neg (by simp [encC]), if_pos rfl, List.nil_append]
  · have : 0 < rest.length := List.length_pos_iff.2 hr
    rw [if_pos (by simp [encC]; omega), if_neg hr]
/-! ### what is read was written -/
theorem rdN_inv {zs : List Int} {most x q : Int} {t : Nat} (hu : ∀ i : Nat, 0 ≤ zs[i]?.getD 0 ∧ zs[i]?.getD 0 ≤ 255) (h : rdN zs most t = (x, q, 0)) :
    ∃ p : Nat, q = p ∧ t < p ∧ p ≤ zs.length ∧ zs.drop t = enc x.toNat ++ zs.drop p ∧ 0 ≤ x ∧ x ≤ most := by
  unfold rdN at h
  split at h
  · simp at h; omega
  · rename_i e0
    split at h
    · simp at h
    · have e1 : (rdAt zs t).2.2 = 0 := by simpa using e0
      have hr : rdAt zs t = (x, q, 0) := by
        generalize rdAt zs t = r at h e1
        obtain ⟨a, b, c⟩ := r
        simp at h e1
        rw [h.1, h.2, e1]
      have hp := rdAt_place e1
      rw [hr] at hp
      obtain ⟨e2, e3⟩ := rdAt_inv zs t x q hu hr
      obtain ⟨p, rfl⟩ := Int.eq_ofNat_of_zero_le (show 0 ≤ q by have := hp.2.1; dsimp only at this; omega)
      have h1 := hp.2.1
      have h2 := hp.2.2
      dsimp only at h1 h2
      refine ⟨p, rfl, by omega, by omega, ?_, e3, ?_⟩
      · rw [← e2, show ((p : Int) - t).toNat = p - t by omega]
        have := List.take_append_drop (p - t) (zs.drop t)
        rw [List.drop_drop, show t + (p - t) = p by omega] at this
        exact this.symm
      · rename_i e4
        rw [hr] at e4
        dsimp only at e4
        omega
theorem rdT_inv {zs : List Int} {m q : Int} {t : Nat} {x : Tk} (hu : ∀ i : Nat, 0 ≤ zs[i]?.getD 0 ∧ zs[i]?.getD 0 ≤ 255) (h : rdT zs m t = (x, q, 0)) :
    ∃ p : Nat, q = p ∧ p ≤ zs.length ∧ zs.drop t = enc (x.g - m).toNat ++ (enc x.t.toNat ++ zs.drop p) ∧ m ≤ x.g ∧ x.g < 65536 ∧ 1 ≤ x.t ∧ x.t ≤ 9223372036854775807 := by
  unfold rdT at h
  generalize hp : rdN zs (65535 - m) t = p at h
  obtain ⟨a, b, c⟩ := p
  dsimp only at h
  split at h
  · simp at h; omega
  · rename_i e0
    have e1 : c = 0 := by simpa using e0
    subst e1
    obtain ⟨b', rfl, l1, l2, d1, a0, a1⟩ := rdN_inv hu hp
    generalize hq : rdN zs 9223372036854775807 b' = r at h
    obtain ⟨a2, b2, c2⟩ := r
    dsimp only at h
    split at h
    · simp at h; omega
    · rename_i e2
      have e3 : c2 = 0 := by simpa using e2
      subst e3
      obtain ⟨b3, rfl, l3, l4, d2, a4, a5⟩ := rdN_inv hu hq
      split at h
      · simp at h
      · rename_i e5
        simp only [Prod.mk.injEq, and_true] at h
        obtain ⟨rfl, rfl⟩ := h
        refine ⟨b3, rfl, l4, ?_, by dsimp only; omega, by dsimp only; omega, by dsimp only; omega, a5⟩
        dsimp only
        rw [show m + a - m = a by omega, d1, d2]
theorem rdL_inv {zs : List Int} (hu : ∀ i : Nat, 0 ≤ zs[i]?.getD 0 ∧ zs[i]?.getD 0 ≤ 255) : ∀ (n : Nat) (m q : Int) (t : Nat) (c : List Tk), t ≤ zs.length → rdL zs n m t = (c, q, 0) →
    ∃ p : Nat, q = p ∧ p ≤ zs.length ∧ zs.drop t = txt m c ++ zs.drop p ∧ gd m c = true ∧ c.length = n
  | 0, m, q, t, c, ht, h => by
    rw [rdL] at h
    simp at h
    obtain ⟨rfl, rfl⟩ := h
    exact ⟨t, rfl, ht, by simp [txt], rfl, rfl⟩
  | n + 1, m, q, t, c, ht, h => by
    rw [rdL] at h
    generalize hp : rdT zs m t = p at h
    obtain ⟨x, b, e⟩ := p
    dsimp only at h
    split at h
    · simp at h; omega
    · rename_i e0
      have e1 : e = 0 := by simpa using e0
      subst e1
      obtain ⟨b', rfl, l1, d1, g1, g2, g3, g4⟩ := rdT_inv hu hp
      generalize hq : rdL zs n (x.g + 1) b' = r at h
      obtain ⟨c2, b2, e2⟩ := r
      dsimp only at h
      split at h
      · simp at h; omega
      · rename_i e3
        have e4 : e2 = 0 := by simpa using e3
        subst e4
        obtain ⟨p, rfl, l2, d2, g5, g6⟩ := rdL_inv hu n (x.g + 1) b2 b' c2 l1 hq
        simp only [Prod.mk.injEq, and_true] at h
        obtain ⟨rfl, rfl⟩ := h
        refine ⟨p, rfl, l2, ?_, gd_cons.2 ⟨g1, g2, g3, g5⟩, by rw [List.length_cons, g6]⟩
        rw [txt, d1, d2]
        simp
theorem decC_inv {zs : List Int} (hu : ∀ i : Nat, 0 ≤ zs[i]?.getD 0 ∧ zs[i]?.getD 0 ≤ 255) {c : List Tk} (h : decC zs = (c, 0)) : gd 0 c = true ∧ encC c = zs := by
  unfold decC at h
  have hz : ((0 : Nat) : Int) = 0 := rfl
  generalize hp : rdN zs 65536 0 = p at h
  obtain ⟨n, b, e⟩ := p
  dsimp only at h
  split at h
  · simp at h; omega
  · rename_i e0
    have e1 : e = 0 := by simpa using e0
    subst e1
    obtain ⟨b', rfl, l1, l2, d1, n0, n1⟩ := rdN_inv (t := 0) hu hp
    generalize hq : rdL zs n.toNat 0 b' = r at h
    obtain ⟨c2, b2, e2⟩ := r
    unfold fin at h
    dsimp only at h
    split at h
    · simp at h; omega
    · rename_i e3
      have e4 : e2 = 0 := by simpa using e3
      subst e4
      split at h
      · simp at h
      · rename_i e5
        obtain ⟨q, rfl, l3, d2, g5, g6⟩ := rdL_inv hu _ _ _ _ _ l2 hq
        simp at h
        subst h
        refine ⟨g5, ?_⟩
        unfold encC
        rw [g6]
        have d3 : zs.drop q = [] := List.drop_eq_nil_of_le (by omega)
        rw [d2, d3, List.append_nil] at d1
        rw [List.drop_zero] at d1
        exact d1.symm
/-- All times fit. -/
def fits (c : List Tk) : Prop := ∀ x ∈ c, -9223372036854775808 ≤ x.g ∧ x.g ≤ 9223372036854775807 ∧ -9223372036854775808 ≤ x.t ∧ x.t ≤ 9223372036854775807
theorem encC_len {c : List Tk} (h : gd 0 c = true) (ht : fits c) : (encC c).length ≤ 10 + c.length * 20 := by
  unfold encC
  have h0 : ∀ (m : Int), 0 ≤ m → gd m c = true → (txt m c).length ≤ c.length * 20 := by
    clear h
    induction c with
    | nil => intro m _ _; simp [txt]
    | cons x c ih =>
      intro m hm hg
      obtain ⟨h1, h2, h3, h4⟩ := gd_cons.1 hg
      have hx := ht x (by simp)
      have := ih (fun y hy => ht y (by simp [hy])) (x.g + 1) (by omega) h4
      have e1 := enc_le (x.g - m).toNat (by omega)
      have e2 := enc_le x.t.toNat (by omega)
      rw [txt, List.length_append, List.length_append, List.length_cons]
      omega
  have h1 := h0 0 (Int.le_refl _) h
  have h2 := gd_len0 h
  have e1 := enc_le c.length (by omega)
  rw [List.length_append]
  omega
end Go.Proofs.Ytajkenbcndmjpab
