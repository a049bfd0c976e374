/-
  An event; the tables of package event.
-/
import Derived.Test.YtbflkdbimgakpaaDoorForB
import Derived.Deep.RegionHeld3
namespace Go.Proofs.YtbflkdbimgakpaaDoor.E6
open Go.RowKit Go.Maps Go.Shelf
def knames : List ByteArray := [⟨#[]⟩, ⟨#[114, 101, 97, 100]⟩, ⟨#[119, 114, 105, 116, 101]⟩, ⟨#[97, 99, 113, 117, 105, 114, 101]⟩, ⟨#[114, 101, 108, 101, 97, 115, 101]⟩, ⟨#[114, 97, 99, 113, 117, 105, 114, 101]⟩, ⟨#[114, 114, 101, 108, 101, 97, 115, 101]⟩, ⟨#[102, 111, 114, 107]⟩, ⟨#[106, 111, 105, 110]⟩, ⟨#[109, 97, 107, 101]⟩, ⟨#[115, 101, 110, 100]⟩, ⟨#[97, 99, 107]⟩, ⟨#[114, 101, 99, 118]⟩, ⟨#[99, 108, 111, 115, 101]⟩, ⟨#[97, 100, 100]⟩, ⟨#[119, 97, 105, 116]⟩, ⟨#[111, 110, 99, 101]⟩, ⟨#[108, 111, 97, 100]⟩, ⟨#[115, 116, 111, 114, 101]⟩, ⟨#[115, 119, 97, 112]⟩, ⟨#[97, 108, 108, 111, 99]⟩, ⟨#[102, 114, 101, 101]⟩, ⟨#[109, 97, 114, 107]⟩]
def ksorts : List Nat := [0, 2, 2, 0, 0, 0, 0, 4, 5, 6, 0, 0, 1, 0, 7, 0, 1, 0, 0, 0, 3, 3, 8]
def rlos : List Int := [0, 0, 1, 1, 1, 0, 0, 0, 0]
def rhis : List Int := [0, 1, 64, 65536, 65535, 65535, 65536, 4294967294, 18446744073709551615]
def kname (k : Nat) : ByteArray := knames.getD k ByteArray.empty
def ksort (k : Nat) : Nat := ksorts.getD k 0
def rlo (s : Nat) : Int := rlos.getD s 0
def rhi (s : Nat) : Int := rhis.getD s 0
/-- The tables lie in memory. -/
structure Kn (w : World) : Prop where
  name : ∀ k : Nat, k < 23 → w.cell? ⟨1, k * 2, none⟩ = some (.string (kname k))
  sort : ∀ k : Nat, k < 23 → w.cell? ⟨1, k * 2 + 1, none⟩ = some (.int .i64 (ksort k : Int))
/-- Both of them. -/
structure Kr (w : World) : Prop extends Kn w where
  lo : ∀ s : Nat, s < 9 → w.cell? ⟨2, s * 2, none⟩ = some (.int .u64 (rlo s))
  hi : ∀ s : Nat, s < 9 → w.cell? ⟨2, s * 2 + 1, none⟩ = some (.int .u64 (rhi s))
theorem Kn.below {w w' : World} (h : Kn w) {B : Nat} (hb : Below B w w') (hB : 1 < B) : Kn w' :=
  ⟨fun k hk => (hb.cell (p := ⟨1, k * 2, none⟩) hB).trans (h.name k hk), fun k hk => (hb.cell (p := ⟨1, k * 2 + 1, none⟩) hB).trans (h.sort k hk)⟩
theorem Kr.below {w w' : World} (h : Kr w) {B : Nat} (hb : Below B w w') (hB : 2 < B) : Kr w' :=
  ⟨h.toKn.below hb (by omega), fun k hk => (hb.cell (p := ⟨2, k * 2, none⟩) hB).trans (h.lo k hk), fun k hk => (hb.cell (p := ⟨2, k * 2 + 1, none⟩) hB).trans (h.hi k hk)⟩
theorem Kr.size {w : World} (h : Kr w) : 3 ≤ w.heap.size := World.block_lt_of_cell? w _ (h.lo 0 (by omega))
theorem kn_any (k : Int) (w : World) : Calls Tryd.prog 31 #[.int .i64 k] w fun e w' => e = .returned (.bool (decide (1 ≤ k ∧ k ≤ 22))) ∧ w' = w := by
  by_cases h1 : 1 ≤ k
  · by_cases h2 : k < 23
    · have e : decide (1 ≤ k ∧ k ≤ 22) = true := by simp; omega
      rw [e]
      go_enter Tryd.func31, Tryd.ntmps31
      go_wp2
      go_ret
      exact ⟨rfl, rfl⟩
    · have e : decide (1 ≤ k ∧ k ≤ 22) = false := by simp; omega
      rw [e]
      go_enter Tryd.func31, Tryd.ntmps31
      go_wp2
      go_ret
      exact ⟨rfl, rfl⟩
  · have e : decide (1 ≤ k ∧ k ≤ 22) = false := by simp; omega
    rw [e]
    go_enter Tryd.func31, Tryd.ntmps31
    go_wp2
    go_ret
    exact ⟨rfl, rfl⟩
end Go.Proofs.YtbflkdbimgakpaaDoor.E6
