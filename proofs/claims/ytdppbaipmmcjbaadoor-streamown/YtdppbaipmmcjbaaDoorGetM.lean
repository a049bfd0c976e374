/-
  How a record is read: plain mathematics.
-/
import Derived.Test.YtdppbaipmmcjbaaDoorDelE
namespace Go.Proofs.YtdppbaipmmcjbaaDoor
open Go.RowKit
/-- What a part answers: the record, the place, the error. -/
abbrev Ans := Rc × Int × Int
def bad (e : Int) : Ans := (Rc.zero, 0, e)
def pO (zs : List Int) (r : Rc) (p : Int) : Ans := (⟨r.stamp, r.kind, step r.obj (rdAt zs p).1, r.arg, r.stack⟩, (rdAt zs p).2.1, (rdAt zs p).2.2)
def pA (zs : List Int) (r : Rc) (p : Int) : Ans := (⟨r.stamp, r.kind, r.obj, (rdAt zs p).1, r.stack⟩, (rdAt zs p).2.1, (rdAt zs p).2.2)
abbrev farK (zs : List Int) (r : Rc) (p : Int) : Prop := (rvAt zs p).2.2 = 0 ∧ ((rvAt zs p).1 < -r.stack ∨ 262144 - r.stack < (rvAt zs p).1)
def pK (zs : List Int) (r : Rc) (p : Int) : Ans := (⟨r.stamp, r.kind, r.obj, r.arg, wrap64 (r.stack + (rvAt zs p).1)⟩, (rvAt zs p).2.1, if farK zs r p then 71 else (rvAt zs p).2.2)
/-- A part that is told. -/
def told (b : Int) (f : Rc → Int → Ans) (x : Ans) : Ans :=
  if x.2.2 ≠ 0 then x else if b = 0 then x else if (f x.1 x.2.1).2.2 ≠ 0 then bad (f x.1 x.2.1).2.2 else if (f x.1 x.2.1).1 = x.1 then bad 71 else f x.1 x.2.1
theorem told_no {f : Rc → Int → Ans} {x : Ans} : told 0 f x = x := by unfold told; split <;> simp
theorem told_err {b : Int} {f : Rc → Int → Ans} {x : Ans} (h : x.2.2 ≠ 0) : told b f x = x := by unfold told; rw [if_pos h]
theorem told_bad {b : Int} {f : Rc → Int → Ans} {r : Rc} {p e : Int} (hb : b ≠ 0) (y : Rc) (p' : Int) (hf : f r p = (y, p', e)) (he : e ≠ 0) : told b f (r, p, 0) = bad e := by
  unfold told; rw [if_neg (by simp), if_neg hb, hf, if_pos he]
theorem told_same {b : Int} {f : Rc → Int → Ans} {r : Rc} {p : Int} (hb : b ≠ 0) (y : Rc) (p' : Int) (hf : f r p = (y, p', 0)) (he : y = r) : told b f (r, p, 0) = bad 71 := by
  unfold told; rw [if_neg (by simp), if_neg hb, hf, if_neg (by simp), if_pos he]
theorem told_on {b : Int} {f : Rc → Int → Ans} {r : Rc} {p : Int} (hb : b ≠ 0) (y : Rc) (p' : Int) (hf : f r p = (y, p', 0)) (he : y ≠ r) : told b f (r, p, 0) = (y, p', 0) := by
  unfold told; rw [if_neg (by simp), if_neg hb, hf, if_neg (by simp), if_neg he]
def readG (s : St) (zs : List Int) (t : Nat) : Ans :=
  if t = zs.length then bad 10
  else if ¬ (1 ≤ zs.getD t 0 % 32 ∧ zs.getD t 0 % 32 ≤ 22) then bad 60
  else if (rdAt zs (t + 1)).2.2 ≠ 0 then bad (rdAt zs (t + 1)).2.2
  else if 1048576 - s.stamp ≤ (rdAt zs (t + 1)).1 then bad 70
  else told (zs.getD t 0 / 128 % 2) (pK zs) (told (zs.getD t 0 / 64 % 2) (pA zs) (told (zs.getD t 0 / 32 % 2) (pO zs) (⟨s.stamp + (rdAt zs (t + 1)).1, zs.getD t 0 % 32, s.obj, 0, s.stack⟩, (rdAt zs (t + 1)).2.1, 0)))
/-- What Get answers, but for the state. -/
def getG (s : St) (zs : List Int) (t : Int) : Ans :=
  if mayS s.stamp s.stack = false then bad 71 else if t < 0 ∨ (zs.length : Int) < t then bad 2 else readG s zs t.toNat
/-- The state behind. -/
def stOf (x : Ans) : St := if x.2.2 = 0 then behindS x.1 else St.zero
theorem told_zero {b : Int} {f : Rc → Int → Ans} {x : Ans} (hx : x.2.2 ≠ 0 → x.1 = Rc.zero ∧ x.2.1 = 0) : (told b f x).2.2 ≠ 0 → (told b f x).1 = Rc.zero ∧ (told b f x).2.1 = 0 := by
  unfold told
  split
  · exact hx
  · split
    · exact hx
    · split
      · intro _; exact ⟨rfl, rfl⟩
      · split
        · intro _; exact ⟨rfl, rfl⟩
        · rename_i h _; intro h2; exact absurd h2 h
theorem readG_zero (s : St) (zs : List Int) (t : Nat) : (readG s zs t).2.2 ≠ 0 → (readG s zs t).1 = Rc.zero ∧ (readG s zs t).2.1 = 0 := by
  unfold readG
  split
  · intro _; exact ⟨rfl, rfl⟩
  · split
    · intro _; exact ⟨rfl, rfl⟩
    · split
      · intro _; exact ⟨rfl, rfl⟩
      · split
        · intro _; exact ⟨rfl, rfl⟩
        · exact told_zero (told_zero (told_zero (fun h => absurd rfl h)))
/-! ### the bits of the first byte -/
set_option maxRecDepth 100000 in
theorem and_bits_nat : ∀ d : Nat, d < 256 → (d &&& 224) &&& 32 = d / 32 % 2 * 32 ∧ (d &&& 224) &&& 64 = d / 64 % 2 * 64 ∧ (d &&& 224) &&& 128 = d / 128 % 2 * 128 ∧ d &&& 224 < 256 := by decide
theorem and_u8 (d m : Nat) (hd : d < 256) (hm : m < 256) : bits .and .u8 (d : Int) (m : Int) = ((d &&& m : Nat) : Int) :=
  (bits_nat .u8 8 (by decide) wraps_u8 d m (by omega) (by omega)).1
def tellsV (c : Int) : Int := bits .and .u8 c 224
theorem tells_bits (c : Int) (h0 : 0 ≤ c) (h1 : c ≤ 255) : bits .and .u8 (tellsV c) 32 = c / 32 % 2 * 32 ∧ bits .and .u8 (tellsV c) 64 = c / 64 % 2 * 64 ∧ bits .and .u8 (tellsV c) 128 = c / 128 % 2 * 128 := by
  obtain ⟨d, rfl⟩ := Int.eq_ofNat_of_zero_le h0
  obtain ⟨a1, a2, a3, a4⟩ := and_bits_nat d (by omega)
  have e : tellsV (d : Int) = ((d &&& 224 : Nat) : Int) := and_u8 d 224 (by omega) (by omega)
  rw [e]
  have f1 := and_u8 (d &&& 224) 32 a4 (by omega)
  have f2 := and_u8 (d &&& 224) 64 a4 (by omega)
  have f3 := and_u8 (d &&& 224) 128 a4 (by omega)
  rw [a1] at f1; rw [a2] at f2; rw [a3] at f3
  exact ⟨f1, f2, f3⟩
set_option maxRecDepth 100000 in
theorem not_bits : ∀ d : Fin 256, bits .andNot .u8 ((d.val : Nat) : Int) 224 = ((d.val % 32 : Nat) : Int) := by decide
theorem kind_bits (c : Int) (h0 : 0 ≤ c) (h1 : c ≤ 255) : bits .andNot .u8 c 224 = c % 32 := by
  obtain ⟨d, rfl⟩ := Int.eq_ofNat_of_zero_le h0
  have := not_bits ⟨d, by omega⟩
  simpa using this
end Go.Proofs.YtdppbaipmmcjbaaDoor
