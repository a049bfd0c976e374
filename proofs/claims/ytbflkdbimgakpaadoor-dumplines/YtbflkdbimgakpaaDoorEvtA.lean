/-
  Name, Kind, Sync.
-/
import Derived.Test.YtbflkdbimgakpaaDoorEvt
namespace Go.Proofs.YtbflkdbimgakpaaDoor.E6
open Go.RowKit Go.Maps Go.Shelf
def nameV (k : Int) : Value := if 1 ≤ k ∧ k ≤ 22 then .tuple #[.string (kname k.toNat), .int .i64 0] else .tuple #[.string ByteArray.empty, .int .i64 60]
theorem name_any (k : Int) (w : World) (h : Kn w) : Calls Tryd.prog 35 #[.int .i64 k] w fun e w' => e = .returned (nameV k) ∧ w' = w := by
  have HK : Hid _ := hide (kn_any k w)
  by_cases hk : 1 ≤ k ∧ k ≤ 22
  · have e : decide (1 ≤ k ∧ k ≤ 22) = true := decide_eq_true hk
    have HN : Hid (nameV k = .tuple #[.string (kname k.toNat), .int .i64 0]) := hide (by rw [nameV, if_pos hk])
    rw [e] at HK
    obtain ⟨m, rfl⟩ : ∃ m : Nat, k = m := ⟨k.toNat, by omega⟩
    have hm : (m : Int) < 23 := by omega
    have hc := h.name m (by omega)
    generalize nameV m = V at HN ⊢
    clear h hk e
    go_enter Tryd.func35, Tryd.ntmps35
    go_wp2_with fail
    refine HK.out.mono ?_
    rintro e w' ⟨rfl, rfl⟩
    go_wp2
    go_ret2
    exact ⟨by rw [HN.out]; rfl, rfl⟩
  · have e : decide (1 ≤ k ∧ k ≤ 22) = false := decide_eq_false hk
    have HN : Hid (nameV k = .tuple #[.string ByteArray.empty, .int .i64 60]) := hide (by rw [nameV, if_neg hk])
    rw [e] at HK
    generalize nameV k = V at HN ⊢
    clear h hk e
    go_enter Tryd.func35, Tryd.ntmps35
    go_wp2_with fail
    refine HK.out.mono ?_
    rintro e w' ⟨rfl, rfl⟩
    go_wp2
    go_ret2
    exact ⟨by rw [HN.out]; rfl, rfl⟩
end Go.Proofs.YtbflkdbimgakpaaDoor.E6
