/-
  Name, Kind, Sync.
-/
import Derived.Test.YthekpcgebkoodaaDoorEvt
namespace Go.Proofs.YthekpcgebkoodaaDoor
open Go.RowKit Go.Maps Go.Shelf
def nameV (k : Int) : Value := if 1 ≤ k ∧ k ≤ 22 then .tuple #[.string (kname k.toNat), .int .i64 0] else .tuple #[.string ByteArray.empty, .int .i64 60]
theorem name_any (k : Int) (w : World) (h : Kn w) : Calls Tryd.prog 9 #[.int .i64 k] w fun e w' => e = .returned (nameV k) ∧ w' = w := by
  have HK : Hid _ := hide (kn_any k w)
  by_cases hk : 1 ≤ k ∧ k ≤ 22
  · have e : decide (1 ≤ k ∧ k ≤ 22) = true := decide_eq_true hk
    have HN : Hid (nameV k = .tuple #[.string (kname k.toNat), .int .i64 0]) := hide (by rw [nameV, if_pos hk])
    rw [e] at HK
    obtain ⟨m, rfl⟩ : ∃ m : Nat, k = m := ⟨k.toNat, by omega⟩
    have hm : (m : Int) < 23 := by omega
    have hc := h.name m (by omega)
    generalize nameV m = V at HN ⊢
    clear h hk e
    go_enter Tryd.func9, Tryd.ntmps9
    go_wp2_with fail
    refine HK.out.mono ?_
    rintro e w' ⟨rfl, rfl⟩
    go_wp2
    go_ret2
    exact ⟨by rw [HN.out]; rfl, rfl⟩
  · have e : decide (1 ≤ k ∧ k ≤ 22) = false := decide_eq_false hk
    have HN : Hid (nameV k = .tuple #[.string ByteArray.empty, .int .i64 60]) := hide (by rw [nameV, if_neg hk])
    rw [e] at HK
    generalize nameV k = V at HN ⊢
    clear h hk e
    go_enter Tryd.func9, Tryd.ntmps9
    go_wp2_with fail
    refine HK.out.mono ?_
    rintro e w' ⟨rfl, rfl⟩
    go_wp2
    go_ret2
    exact ⟨by rw [HN.out]; rfl, rfl⟩
/-- The first kind from k on that has the name. -/
def kfind (s : ByteArray) (k : Nat) : Nat → Int × Int
  | 0 => (0, 60)
  | f + 1 => if (kname k).toList == s.toList then ((k : Int), 0) else kfind s (k + 1) f
theorem kind_any (s : ByteArray) (w : World) (h : Kn w) : Calls Tryd.prog 11 #[.string s] w fun e w' => e = .returned (.tuple #[.int .i64 (kfind s 1 22).1, .int .i64 (kfind s 1 22).2]) ∧ w' = w := by
  have H : Hid (Kn w) := h
  obtain ⟨R, hR⟩ : ∃ R, R = kfind s 1 22 := ⟨_, rfl⟩
  rw [← hR]
  have HR : Hid _ := hide hR
  clear h hR
  go_enter Tryd.func11, Tryd.ntmps11
  go_wp2
  go_loopw [4] (fun i wr => ∃ k : Nat, 1 ≤ k ∧ k ≤ 23 ∧ i = .int .i64 k ∧ wr = w ∧ R = kfind s k (23 - k)) (fun i _ => 23 - (intOf i).toNat)
  case atStart => exact ⟨1, by omega, by omega, rfl, rfl, HR.out⟩
  case round =>
    obtain ⟨k, hk1, hk2, rfl, rfl, hr⟩ := hrel
    have HR2 : Hid _ := hide hr
    have HK : Hid _ := hide (kn_any (k : Int) wr)
    clear hr
    by_cases hk : k < 23
    · have e : decide (1 ≤ (k : Int) ∧ (k : Int) ≤ 22) = true := by simp; omega
      rw [e] at HK
      have hkI : (k : Int) < 23 := by omega
      have hc := H.out.name k hk
      clear e
      obtain ⟨t, ht⟩ : ∃ t, t = kname k := ⟨_, rfl⟩
      rw [← ht] at hc
      have HT : Hid _ := hide ht
      clear ht
      obtain ⟨f, hf⟩ : ∃ f, 23 - k = f + 1 := ⟨22 - k, by omega⟩
      cases hq : t.toList == s.toList
      · have HN : Hid (R = kfind s (k + 1) (23 - (k + 1))) := hide (by rw [HR2.out, hf, kfind, ← HT.out, hq, show 23 - (k + 1) = f by omega]; rfl)
        clear hf
        go_wp2_with fail
        refine HK.out.mono ?_
        rintro e w' ⟨rfl, rfl⟩
        go_wp2
        exact ⟨⟨k + 1, by omega, by omega, by go_num, by trivial, HN.out⟩, by simp [intOf]; omega⟩
      · have HN : Hid (R = ((k : Int), 0)) := hide (by rw [HR2.out, hf, kfind, ← HT.out, hq]; rfl)
        clear hf
        go_wp2_with fail
        refine HK.out.mono ?_
        rintro e w' ⟨rfl, rfl⟩
        go_wp2
        go_ret2
        exact ⟨by rw [HN.out]; rfl, rfl⟩
    · have e : decide (1 ≤ (k : Int) ∧ (k : Int) ≤ 22) = false := by simp; omega
      rw [e] at HK
      have HN : Hid (R = (0, 60)) := hide (by rw [HR2.out, show 23 - k = 0 by omega]; rfl)
      clear e
      go_wp2_with fail
      refine HK.out.mono ?_
      rintro e w' ⟨rfl, rfl⟩
      go_wp2
      go_ret2
      exact ⟨by rw [HN.out]; rfl, rfl⟩
def syncB (k : Int) : Bool := decide (3 ≤ k ∧ k ≤ 19 ∧ k ≠ 9)
theorem sync_any (k : Int) (w : World) : Calls Tryd.prog 13 #[.int .i64 k] w fun e w' => e = .returned (.bool (syncB k)) ∧ w' = w := by
  by_cases h1 : 3 ≤ k
  · by_cases h2 : k ≤ 19
    · by_cases h3 : k = 9
      · have e : syncB k = false := by simp [syncB]; omega
        have h3' : (k != 9) = false := by simp; omega
        rw [e]
        go_enter Tryd.func13, Tryd.ntmps13
        go_wp2
        go_ret
        exact ⟨rfl, rfl⟩
      · have e : syncB k = true := by simp [syncB]; omega
        have h3' : (k != 9) = true := by simp; omega
        rw [e]
        go_enter Tryd.func13, Tryd.ntmps13
        go_wp2
        go_ret
        exact ⟨rfl, rfl⟩
    · have e : syncB k = false := by simp [syncB]; omega
      rw [e]
      go_enter Tryd.func13, Tryd.ntmps13
      go_wp2
      go_ret
      exact ⟨rfl, rfl⟩
  · have e : syncB k = false := by simp [syncB]; omega
    rw [e]
    go_enter Tryd.func13, Tryd.ntmps13
    go_wp2
    go_ret
    exact ⟨rfl, rfl⟩
end Go.Proofs.YthekpcgebkoodaaDoor
