/-
  Rows of records as bytes: plain mathematics; states and records that differ.
-/
import Derived.Test.YtgecdnmgifcghaaDoorShB
namespace Go.Proofs.YtgecdnmgifcghaaDoor
open Go.RowKit
theorem neq_st (w : World) (a b c : Int) : (binOp .neq 26 (.agg #[.int .i64 a, .int .u64 b, .int .i64 c]) (.agg #[.int .i64 a, .int .u64 b, .int .i64 c])).run Tryd.prog w = .ok (.bool false) w := by
  have hu : Tryd.prog.underlying 26 = some (.struct (Tryd.prog.fieldsOf 26)) := by simp [Program.fieldsOf, Tryd.underlying26]
  have hp : Tryd.prog.stoodInHeld 26 = false := by kernel_rfl
  rw [run_neq_struct, show (10000 : Nat) = 9998 + 1 + 1 from rfl, run_equalIn_struct w _ _ _ _ hu hp]
  simp only [Program.fieldsOf, Tryd.underlying26]
  simp [Op.eqFields, go_sem, Tryd.underlying3, Tryd.underlying23]
theorem neq_rc (w : World) (a b c d e : Int) : (binOp .neq 32 (.agg #[.int .i64 a, .int .i64 b, .int .u64 c, .int .u64 d, .int .i64 e]) (.agg #[.int .i64 a, .int .i64 b, .int .u64 c, .int .u64 d, .int .i64 e])).run Tryd.prog w = .ok (.bool false) w := by
  have hu : Tryd.prog.underlying 32 = some (.struct (Tryd.prog.fieldsOf 32)) := by simp [Program.fieldsOf, Tryd.underlying32]
  have hp : Tryd.prog.stoodInHeld 32 = false := by kernel_rfl
  rw [run_neq_struct, show (10000 : Nat) = 9998 + 1 + 1 from rfl, run_equalIn_struct w _ _ _ _ hu hp]
  simp only [Program.fieldsOf, Tryd.underlying32]
  simp [Op.eqFields, go_sem, Tryd.underlying3, Tryd.underlying23]
/-- The bytes of records, one behind the other. -/
def encs : St → List Rc → List Int
  | _, [] => []
  | s, r :: l => text s r ++ encs (behindS r) l
/-- The state behind them. -/
def fin : St → List Rc → St
  | s, [] => s
  | _, r :: l => fin (behindS r) l
theorem encs_cons {s : St} {L : List Rc} {k : Nat} {r : Rc} (h : L[k]? = some r) : encs s (L.drop k) = text s r ++ encs (behindS r) (L.drop (k + 1)) := by
  rw [List.drop_eq_getElem_cons (List.getElem?_eq_some_iff.1 h).1, (List.getElem?_eq_some_iff.1 h).2]; rfl
theorem fin_cons {s : St} {L : List Rc} {k : Nat} {r : Rc} (h : L[k]? = some r) : fin s (L.drop k) = fin (behindS r) (L.drop (k + 1)) := by
  rw [List.drop_eq_getElem_cons (List.getElem?_eq_some_iff.1 h).1, (List.getElem?_eq_some_iff.1 h).2]; rfl
theorem Ups.putE {s : St} {L : List Rc} {B : Int} {k : Nat} {r : Rc} (hU : Ups s.stamp (L.drop k) B) (h : L[k]? = some r) (h0 : 0 ≤ s.stamp) (h1 : 0 ≤ s.stack) (h2 : s.stack ≤ 262144) : putE s r = 0 ∧ r.ok ∧ Ups (r.stamp + 1) (L.drop (k + 1)) B := by
  obtain ⟨⟨a1, a2, a3, a4, a5, a6⟩, a7, a8⟩ := hU.at h
  exact ⟨putE_of (by omega), a7, a8⟩
theorem encs_len : ∀ {L : List Rc} {s : St} {B : Int}, Ups s.stamp L B → 0 ≤ s.stamp → 0 ≤ s.stack → s.stack ≤ 262144 → (encs s L).length ≤ 27 * L.length
  | [], _, _, _, _, _, _ => by simp [encs]
  | r :: l, s, B, hU, h0, h1, h2 => by
    obtain ⟨a1, a2, a3, a4, a5, a6, a7, a8⟩ := hU
    have hp : putE s r = 0 := putE_of (by omega)
    have hl := text_len hp a7
    have := encs_len (s := behindS r) (L := l) (B := B) a8 (by show 0 ≤ r.stamp + 1; omega) a5 a6
    rw [encs, List.length_append, List.length_cons]; omega
theorem encs_mem : ∀ {L : List Rc} {s : St} {B : Int}, Ups s.stamp L B → 0 ≤ s.stamp → 0 ≤ s.stack → s.stack ≤ 262144 → ∀ z ∈ encs s L, 0 ≤ z ∧ z ≤ 255
  | [], _, _, _, _, _, _ => by simp [encs]
  | r :: l, s, B, hU, h0, h1, h2 => by
    obtain ⟨a1, a2, a3, a4, a5, a6, a7, a8⟩ := hU
    have hp : putE s r = 0 := putE_of (by omega)
    have ih := encs_mem (s := behindS r) (L := l) (B := B) a8 (by show 0 ≤ r.stamp + 1; omega) a5 a6
    intro z hz
    rw [encs] at hz
    rcases List.mem_append.1 hz with hz | hz
    · exact text_mem hp z hz
    · exact ih z hz
theorem text_22 : text ⟨0, 0, 0⟩ ⟨0, 22, 0, 0, 0⟩ = [22, 0] := by
  unfold text fO fA fK xO xA xK
  simp [enc_small]
/-- Get at a record that was written. -/
theorem getG_text {s : St} {r : Rc} {pre rest zs : List Int} (hp : putE s r = 0) (hr : r.ok) (hz : zs = pre ++ (text s r ++ rest)) : getG s zs (pre.length : Nat) = (r, (((pre ++ text s r).length : Nat) : Int), (0 : Int)) := by
  have hq := putE_ok hp
  have hm : mayS s.stamp s.stack = true := decide_eq_true (by omega)
  rw [getG_read hm (by rw [hz]; simp), read_text hp hr hz]
end Go.Proofs.YtgecdnmgifcghaaDoor
