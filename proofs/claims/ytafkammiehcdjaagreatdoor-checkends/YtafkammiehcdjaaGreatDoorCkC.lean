/-
  What the walks of the rules take from a checker in memory.
-/
import Derived.Test.YtafkammiehcdjaaGreatDoorCkB
namespace Go.Proofs.YtafkammiehcdjaaGreatDoor
open Go.RowKit Go.Maps
def evC (g k o a : Int) (s : Value) : Array Value := #[.int .i64 g, .int .i64 k, .int .u64 o, .int .u64 a, s]
/-- The numbers of an event that a rule is asked of. -/
structure EOk (g o a : Int) : Prop where
  g0 : 0 ≤ g
  g1 : g ≤ 65535
  o0 : 0 ≤ o
  o1 : o ≤ 18446744073709551615
  a0 : 0 ≤ a
  a1 : a ≤ 18446744073709551615
theorem zeroPG (w : World) : (zeroValue 113).run Tryz.prog w = .ok (.pointer none) w := by kernel_rfl
theorem zeroLk (w : World) : (zeroValue 126).run Tryz.prog w = .ok (.agg #[.bool false, .int .i64 0]) w := by kernel_rfl
theorem zeroPC (w : World) : (zeroValue 153).run Tryz.prog w = .ok (.pointer none) w := by kernel_rfl
theorem zeroI (w : World) : (zeroValue 2).run Tryz.prog w = .ok (.int .i64 0) w := by kernel_rfl
theorem zeroUn (w : World) : (zeroValue 156).run Tryz.prog w = .ok (.agg #[]) w := by kernel_rfl
section
variable {w w' : World} {cb : Nat} {B : Bl} {F : Nat → Option Lb} {M : CS} {N : Nat} {g k o a : Int} {s : Value}
theorem nf : ¬ False := fun e => e
theorem CkX.c0 (h : Ck w cb B F M N) : w.cell? ⟨cb, 0, none⟩ = some (.int .i64 (M.taken : Int)) := cell_at (h.blk nf) rfl
theorem CkX.c1 (h : Ck w cb B F M N) : w.cell? ⟨cb, 1, none⟩ = some (.map (some B.gm)) := cell_at (h.blk nf) rfl
theorem CkX.c2 (h : Ck w cb B F M N) : w.cell? ⟨cb, 2, none⟩ = some B.va := cell_at (h.blk nf) rfl
theorem CkX.c3 (h : Ck w cb B F M N) : w.cell? ⟨cb, 3, none⟩ = some (.map (some B.lm)) := cell_at (h.blk nf) rfl
theorem CkX.c4 (h : Ck w cb B F M N) : w.cell? ⟨cb, 4, none⟩ = some (.map (some B.cm)) := cell_at (h.blk nf) rfl
theorem CkX.c5 (h : Ck w cb B F M N) : w.cell? ⟨cb, 5, none⟩ = some (.map (some B.km)) := cell_at (h.blk nf) rfl
theorem CkX.c6 (h : Ck w cb B F M N) : w.cell? ⟨cb, 6, none⟩ = some (.map (some B.om)) := cell_at (h.blk nf) rfl
theorem CkX.c7 (h : Ck w cb B F M N) : w.cell? ⟨cb, 7, none⟩ = some B.vm := cell_at (h.blk nf) rfl
theorem CkX.clt (h : Ck w cb B F M N) : cb < w.heap.size := h.lt _ _ h.top
theorem CkX.drew (h : Ck w cb B F M N) (q : Nat) : Ck (w.drewN q) cb B F M N := h.below (below_drewN (Below.refl _ _) q)
theorem CkX.lkL (h : Ck w cb B F M N) (ho : EOk g o a) : (Instr.lookup 64 (.map (some B.lm)) (.int .u64 o) false).run Tryz.prog w = .ok (.agg #[.bool (M.toWrite o), .int .i64 (M.times o)]) w := by
  have h9 := (h.ml nf).2.look lawU Tryz.underlying64 (zeroLk w) (keyU ho.o0 ho.o1)
  have e : (fL M o).getD (.agg #[.bool false, .int .i64 0]) = .agg #[.bool (M.toWrite o), .int .i64 (M.times o)] := by
    unfold fL CS.toWrite CS.times
    cases M.locks o <;> rfl
  rw [h9, e]
theorem fldL0 (b : Bool) (n : Int) (w : World) : (Instr.field 126 (.agg #[.bool b, .int .i64 n]) 0).run Tryz.prog w = .ok (.bool b) w := by kernel_rfl
theorem fldL1 (b : Bool) (n : Int) (w : World) : (Instr.field 126 (.agg #[.bool b, .int .i64 n]) 1).run Tryz.prog w = .ok (.int .i64 n) w := by kernel_rfl
/-- Where a goroutine lies; nowhere, if there is none. -/
def gAd (B : Bl) (M : CS) (g : Int) : Value := match M.gs g with
  | none => .pointer none
  | some _ => .pointer (some ⟨B.gb g, 0, none⟩)
theorem CkX.lkG (h : Ck w cb B F M N) {x : Int} (h0 : -9223372036854775808 ≤ x) (h1 : x ≤ 9223372036854775807) : (Instr.lookup 63 (.map (some B.gm)) (.int .i64 x) false).run Tryz.prog w = .ok (gAd B M x) w := by
  have h9 := (h.mg nf).2.look lawI Tryz.underlying63 (zeroPG w) (keyI h0 h1)
  have e : (fG B M x).getD (.pointer none) = gAd B M x := by
    unfold fG gAd
    cases M.gs x <;> rfl
  rw [h9, e]
def cAd (B : Bl) (M : CS) (o : Int) : Value := match M.chans o with
  | none => .pointer none
  | some _ => .pointer (some ⟨B.cb o, 0, none⟩)
theorem CkX.lkC (h : Ck w cb B F M N) (ho : EOk g o a) : (Instr.lookup 65 (.map (some B.cm)) (.int .u64 o) false).run Tryz.prog w = .ok (cAd B M o) w := by
  have h9 := (h.mc nf).2.look lawU Tryz.underlying65 (zeroPC w) (keyU ho.o0 ho.o1)
  have e : (fC B M o).getD (.pointer none) = cAd B M o := by
    unfold fC cAd
    cases M.chans o <;> rfl
  rw [h9, e]
theorem CkX.lkK (h : Ck w cb B F M N) (ho : EOk g o a) : (Instr.lookup 66 (.map (some B.km)) (.int .u64 o) false).run Tryz.prog w = .ok (.int .i64 (M.cnt o)) w := by
  have h9 := (h.mt nf).2.look lawU Tryz.underlying66 (zeroI w) (keyU ho.o0 ho.o1)
  have e : (fK M o).getD (.int .i64 0) = .int .i64 (M.cnt o) := by
    unfold fK
    split
    · rename_i e; rw [e]; rfl
    · rfl
  rw [h9, e]
theorem CkX.lkO (h : Ck w cb B F M N) (ho : EOk g o a) : (Instr.lookup 67 (.map (some B.om)) (.int .u64 o) true).run Tryz.prog w = .ok (.tuple #[.agg #[], .bool (M.once o)]) w := by
  have h9 := (h.mo nf).2.lookOk lawU Tryz.underlying67 (zeroUn w) (keyU ho.o0 ho.o1)
  rw [h9]
  unfold fO
  cases M.once o <;> rfl
theorem evc0 {b : Nat} (h : w.heap[b]? = some (.cells (evC g k o a s) 36 (0, 0))) : w.cell? ⟨b, 0, none⟩ = some (.int .i64 g) ∧ w.cell? ⟨b, 1, none⟩ = some (.int .i64 k) ∧ w.cell? ⟨b, 2, none⟩ = some (.int .u64 o) ∧ w.cell? ⟨b, 3, none⟩ = some (.int .u64 a) ∧ w.cell? ⟨b, 4, none⟩ = some s :=
  ⟨cell_at h rfl, cell_at h rfl, cell_at h rfl, cell_at h rfl, cell_at h rfl⟩
/-- waits. -/
theorem waits_any {b : Nat} {v : Value} {r : Gor} (h : w.heap[b]? = some (.cells (gorC v r) 115 (0, 0))) : Calls Tryz.prog 60 #[.pointer (some ⟨b, 0, none⟩)] w fun e w' => e = .returned (.bool (decide (0 < r.as_))) ∧ w' = w := by
  have c2 : w.cell? ⟨b, 2, none⟩ = some (.int .i64 r.as_) := cell_at h rfl
  go_enter Tryz.func60, Tryz.ntmps60
  go_wp2
  go_ret
  exact ⟨rfl, rfl⟩
end
end Go.Proofs.YtafkammiehcdjaaGreatDoor
