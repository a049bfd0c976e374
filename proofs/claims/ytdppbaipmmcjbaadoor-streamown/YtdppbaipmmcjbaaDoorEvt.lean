/-
  The table of kinds of package event; Name.
-/
import Derived.Test.YtdppbaipmmcjbaaDoorRowz
import Derived.Deep.RegionHeld3
namespace Go.Proofs.YtdppbaipmmcjbaaDoor
open Go.RowKit
theorem hide {p : Prop} (h : p) : Hid p := h
def knames : List ByteArray := [⟨#[]⟩, ⟨#[114, 101, 97, 100]⟩, ⟨#[119, 114, 105, 116, 101]⟩, ⟨#[97, 99, 113, 117, 105, 114, 101]⟩, ⟨#[114, 101, 108, 101, 97, 115, 101]⟩, ⟨#[114, 97, 99, 113, 117, 105, 114, 101]⟩, ⟨#[114, 114, 101, 108, 101, 97, 115, 101]⟩, ⟨#[102, 111, 114, 107]⟩, ⟨#[106, 111, 105, 110]⟩, ⟨#[109, 97, 107, 101]⟩, ⟨#[115, 101, 110, 100]⟩, ⟨#[97, 99, 107]⟩, ⟨#[114, 101, 99, 118]⟩, ⟨#[99, 108, 111, 115, 101]⟩, ⟨#[97, 100, 100]⟩, ⟨#[119, 97, 105, 116]⟩, ⟨#[111, 110, 99, 101]⟩, ⟨#[108, 111, 97, 100]⟩, ⟨#[115, 116, 111, 114, 101]⟩, ⟨#[115, 119, 97, 112]⟩, ⟨#[97, 108, 108, 111, 99]⟩, ⟨#[102, 114, 101, 101]⟩, ⟨#[109, 97, 114, 107]⟩]
def ksorts : List Nat := [0, 2, 2, 0, 0, 0, 0, 4, 5, 6, 0, 0, 1, 0, 7, 0, 1, 0, 0, 0, 3, 3, 8]
def kname (k : Nat) : ByteArray := knames.getD k ByteArray.empty
def ksort (k : Nat) : Nat := ksorts.getD k 0
/-- The tables lie in memory. -/
structure Kn (w : World) : Prop where
  name : ∀ k : Nat, k < 23 → w.cell? ⟨0, k * 2, none⟩ = some (.string (kname k))
  sort : ∀ k : Nat, k < 23 → w.cell? ⟨0, k * 2 + 1, none⟩ = some (.int .i64 (ksort k : Int))
theorem Kn.below {w w' : World} (h : Kn w) {B : Nat} (hb : Below B w w') (hB : 0 < B) : Kn w' :=
  ⟨fun k hk => (hb.cell (p := ⟨0, k * 2, none⟩) hB).trans (h.name k hk), fun k hk => (hb.cell (p := ⟨0, k * 2 + 1, none⟩) hB).trans (h.sort k hk)⟩
theorem kn_any (k : Int) (w : World) : Calls Tryd.prog 83 #[.int .i64 k] w fun e w' => e = .returned (.bool (decide (1 ≤ k ∧ k ≤ 22))) ∧ w' = w := by
  by_cases h1 : 1 ≤ k
  · by_cases h2 : k < 23
    · have e : decide (1 ≤ k ∧ k ≤ 22) = true := by simp; omega
      rw [e]
      go_enter Tryd.func83, Tryd.ntmps83
      go_wp2
      go_ret
      exact ⟨rfl, rfl⟩
    · have e : decide (1 ≤ k ∧ k ≤ 22) = false := by simp; omega
      rw [e]
      go_enter Tryd.func83, Tryd.ntmps83
      go_wp2
      go_ret
      exact ⟨rfl, rfl⟩
  · have e : decide (1 ≤ k ∧ k ≤ 22) = false := by simp; omega
    rw [e]
    go_enter Tryd.func83, Tryd.ntmps83
    go_wp2
    go_ret
    exact ⟨rfl, rfl⟩
def nameV (k : Int) : Value := if 1 ≤ k ∧ k ≤ 22 then .tuple #[.string (kname k.toNat), .int .i64 0] else .tuple #[.string ByteArray.empty, .int .i64 60]
theorem name_any (k : Int) (w : World) (h : Kn w) : Calls Tryd.prog 76 #[.int .i64 k] w fun e w' => e = .returned (nameV k) ∧ w' = w := by
  have HK : Hid _ := hide (kn_any k w)
  by_cases hk : 1 ≤ k ∧ k ≤ 22
  · have e : decide (1 ≤ k ∧ k ≤ 22) = true := decide_eq_true hk
    have HN : Hid (nameV k = .tuple #[.string (kname k.toNat), .int .i64 0]) := hide (by rw [nameV, if_pos hk])
    rw [e] at HK
    obtain ⟨m, rfl⟩ : ∃ m : Nat, k = m := ⟨k.toNat, by omega⟩
    have hm : (m : Int) < 23 := by omega
    have hc := h.name m (by omega)
    generalize nameV m = V at HN ⊢
    clear h hk e
    go_enter Tryd.func76, Tryd.ntmps76
    go_wp2_with fail
    refine HK.out.mono ?_
    rintro e w' ⟨rfl, rfl⟩
    go_wp2
    go_ret2
    exact ⟨by rw [HN.out]; rfl, rfl⟩
  · have e : decide (1 ≤ k ∧ k ≤ 22) = false := decide_eq_false hk
    have HN : Hid (nameV k = .tuple #[.string ByteArray.empty, .int .i64 60]) := hide (by rw [nameV, if_neg hk])
    rw [e] at HK
    generalize nameV k = V at HN ⊢
    clear h hk e
    go_enter Tryd.func76, Tryd.ntmps76
    go_wp2_with fail
    refine HK.out.mono ?_
    rintro e w' ⟨rfl, rfl⟩
    go_wp2
    go_ret2
    exact ⟨by rw [HN.out]; rfl, rfl⟩
end Go.Proofs.YtdppbaipmmcjbaaDoor
