/-
  numberOf.
-/
import Derived.Test.YtnengkdddckjaaaKmB
import Derived.BigQuiet
namespace Go.Proofs.Ytnengkdddckjaaa
open Go.RowKit Go.Maps
set_option linter.unusedVariables false
theorem zero3 (w : World) : (zeroValue 3).run Try.prog w = .ok (.int .i64 0) w := by go_simp
/-- The number that is answered. -/
def nid {κ : Type} [DecidableEq κ] (L : List κ) (k : κ) : Int := (((addN L k).idxOf k : Nat) : Int) + 1
theorem nid_mem {κ : Type} [DecidableEq κ] {L : List κ} {k : κ} (h : k ∈ L) : nmb L k = some (nid L k) := by
  unfold nmb nid addN
  rw [if_pos h, if_pos h]
theorem nid_new {κ : Type} [DecidableEq κ] {L : List κ} {k : κ} (h : k ∉ L) : nid L k = (L.length : Int) + 1 := by
  unfold nid addN
  rw [if_neg h, List.idxOf_append, if_neg h]
  simp
/-- What numberOf answers. -/
def NoR {κ : Type} [DecidableEq κ] (y : KY κ) (b : Nat) (L : List κ) (k : κ) (w : World) (e : Ending) (w' : World) : Prop :=
  e = .returned (.int .i64 (nid L k)) ∧ NM y w' b (addN L k) ∧ But (fun q => q = b) w w'
set_option maxRecDepth 8000 in
set_option maxHeartbeats 2000000 in
theorem numS_any (b : Nat) (L : List ByteArray) (k : ByteArray) (w : World) (h : NM yS w b L) (hk : k.size ≤ maxLen) (hL : L.length ≤ 70368744177664) :
    Calls Try.prog 20 #[.map (some b), .string k] w (NoR yS b L k w) := by
  have hlk := h.km.lookOk (k := k) (m := 44) (e := 3) Try.underlying44 (zero3 w) hk
  have hLI : (L.length : Int) ≤ 70368744177664 := by omega
  by_cases hm : k ∈ L
  · rw [nid_mem hm] at hlk
    have hlk2 : (Instr.lookup 44 (.map (some b)) (.string k) true).run Try.prog w = .ok (.tuple #[.int .i64 (nid L k), .bool true]) w := hlk
    have HF : Hid (NM yS w b (addN L k)) := hide (by unfold addN; rw [if_pos hm]; exact h)
    unfold NoR
    generalize nid L k = N at hlk2 ⊢
    clear h hlk
    go_enter Try.func20, Try.ntmps20
    go_wp2
    go_ret
    exact ⟨rfl, HF.out, But.refl _ _⟩
  · have hn0 : nmb L k = none := by unfold nmb; rw [if_neg hm]
    rw [hn0] at hlk
    have hlk2 : (Instr.lookup 44 (.map (some b)) (.string k) true).run Try.prog w = .ok (.tuple #[.int .i64 0, .bool false]) w := hlk
    have hlen : ∀ ty, (Builtin.len_ #[44] ty #[.map (some b)]).run Try.prog w = .ok (.int .i64 (L.length : Int)) w := fun ty => h.km.len (m := 44) (e := 3) Try.underlying44 ty
    obtain ⟨w2, hput, hNM, hbut⟩ := h.put (k := k) (m := 44) (e := 3) Try.underlying44 hk (by unfold maxLen; omega) hm
    have hput2 : (Instr.mapUpdate 44 (.map (some b)) (.string k) (.int .i64 ((L.length : Int) + 1))).run Try.prog w = .ok () w2 := hput
    have HF : Hid (NM yS w2 b (addN L k) ∧ But (fun q => q = b) w w2) := hide (by unfold addN; rw [if_neg hm]; exact ⟨hNM, hbut⟩)
    unfold NoR
    rw [nid_new hm]
    clear h hlk hput hNM hbut
    go_enter Try.func20, Try.ntmps20
    go_wp2
    go_ret
    exact ⟨rfl, HF.out.1, HF.out.2⟩
set_option maxRecDepth 8000 in
set_option maxHeartbeats 2000000 in
theorem numP_any (b : Nat) (L : List (Int × Int)) (k : Int × Int) (w0 : World) (h0 : NM yP w0 b L) (hk : yP.ok k) (hL : L.length ≤ 70368744177664) :
    Calls Try.prog 16 #[.map (some b), .agg #[.int .i64 k.1, .int .i64 k.2]] w0 (NoR yP b L k w0) := by
  obtain ⟨w, hw⟩ : ∃ w, w = w0.alloc (.cells #[.int .i64 k.1, .int .i64 k.2] 51) := ⟨_, rfl⟩
  have hbw : Below w0.heap.size w0 w := by rw [hw]; exact below_alloc1 _ _
  have h : NM yP w b L := h0.below hbw
  have hc0 : w.cell? ⟨w0.heap.size, 0, none⟩ = some (.int .i64 k.1) := by rw [hw]; exact cell_at (heap_new _ _) rfl
  have hc1 : w.cell? ⟨w0.heap.size, 1, none⟩ = some (.int .i64 k.2) := by rw [hw]; exact cell_at (heap_new _ _) rfl
  have hlk := h.km.lookOk (k := k) (m := 45) (e := 3) Try.underlying45 (zero3 w) hk
  have hLI : (L.length : Int) ≤ 70368744177664 := by omega
  have HW := hide hw
  by_cases hm : k ∈ L
  · rw [nid_mem hm] at hlk
    have hlk2 : (Instr.lookup 45 (.map (some b)) (.agg #[.int .i64 k.1, .int .i64 k.2]) true).run Try.prog w = .ok (.tuple #[.int .i64 (nid L k), .bool true]) w := hlk
    have HF : Hid (NM yP w b (addN L k) ∧ But (fun q => q = b) w0 w) := hide (by unfold addN; rw [if_pos hm]; exact ⟨h, But.of_below hbw⟩)
    unfold NoR
    generalize nid L k = N at hlk2 ⊢
    clear h h0 hlk hw hbw
    go_enter Try.func16, Try.ntmps16
    go_wp2
    rw [← HW.out, hlk2]
    go_wp2
    go_ret
    exact ⟨rfl, HF.out⟩
  · have hn0 : nmb L k = none := by unfold nmb; rw [if_neg hm]
    rw [hn0] at hlk
    have hlk2 : (Instr.lookup 45 (.map (some b)) (.agg #[.int .i64 k.1, .int .i64 k.2]) true).run Try.prog w = .ok (.tuple #[.int .i64 0, .bool false]) w := hlk
    have hlen : ∀ ty, (Builtin.len_ #[45] ty #[.map (some b)]).run Try.prog w = .ok (.int .i64 (L.length : Int)) w := fun ty => h.km.len (m := 45) (e := 3) Try.underlying45 ty
    obtain ⟨w2, hput, hNM, hbut⟩ := h.put (k := k) (m := 45) (e := 3) Try.underlying45 hk (by unfold maxLen; omega) hm
    have hput2 : (Instr.mapUpdate 45 (.map (some b)) (.agg #[.int .i64 k.1, .int .i64 k.2]) (.int .i64 ((L.length : Int) + 1))).run Try.prog w = .ok () w2 := hput
    have HF : Hid (NM yP w2 b (addN L k) ∧ But (fun q => q = b) w0 w2) := hide (by unfold addN; rw [if_neg hm]; exact ⟨hNM, (But.of_below hbw).trans hbut (fun _ _ e => e)⟩)
    unfold NoR
    rw [nid_new hm]
    clear h h0 hlk hput hNM hbut hw hbw
    go_enter Try.func16, Try.ntmps16
    go_wp2
    rw [← HW.out, hlk2]
    go_wp2
    go_ret
    exact ⟨rfl, HF.out⟩
end Go.Proofs.Ytnengkdddckjaaa
