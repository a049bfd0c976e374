import Derived.Test.YtafkammiehcdjaaGreatDoorZr27
/-
  What the walks of the rules take from a checker in memory.
-/
namespace Go.Proofs.YtafkammiehcdjaaGreatDoor
open Go.RowKit Go.Maps
def evC (g k o a : Int) (s : Value) : Array Value := #[.int .i64 g, .int .i64 k, .int .u64 o, .int .u64 a, s]
/-- The numbers of an event that a rule is asked of. -/
structure EOk (g o a : Int) : Prop where
  g0 : 0 ≤ g
  g1 : g ≤ 65535
  o0 : 0 ≤ o
  o1 : o ≤ 18446744073709551615
  a0 : 0 ≤ a
  a1 : a ≤ 18446744073709551615
theorem zeroPG (w : World) : (zeroValue 113).run Tryz.prog w = .ok (.pointer none) w := by kernel_rfl
theorem zeroLk (w : World) : (zeroValue 126).run Tryz.prog w = .ok (.agg #[.bool false, .int .i64 0]) w := by kernel_rfl
theorem zeroPC (w : World) : (zeroValue 153).run Tryz.prog w = .ok (.pointer none) w := by kernel_rfl
theorem zeroI (w : World) : (zeroValue 2).run Tryz.prog w = .ok (.int .i64 0) w := by kernel_rfl
theorem zeroUn (w : World) : (zeroValue 156).run Tryz.prog w = .ok (.agg #[]) w := by kernel_rfl
section
variable {w w' : World} {cb : Nat} {B : Bl} {F : Nat → Option Lb} {M : CS} {N : Nat} {g k o a : Int} {s : Value}
theorem nf : ¬ False := fun e => e
theorem CkX.c0 (h : Ck w cb B F M N) : w.cell? ⟨cb, 0, none⟩ = some (.int .i64 (M.taken : Int)) := cell_at (h.blk nf) rfl
theorem CkX.c1 (h : Ck w cb B F M N) : w.cell? ⟨cb, 1, none⟩ = some (.map (some B.gm)) := cell_at (h.blk nf) rfl
theorem CkX.c2 (h : Ck w cb B F M N) : w.cell? ⟨cb, 2, none⟩ = some B.va := cell_at (h.blk nf) rfl
theorem CkX.c3 (h : Ck w cb B F M N) : w.cell? ⟨cb, 3, none⟩ = some (.map (some B.lm)) := cell_at (h.blk nf) rfl
theorem CkX.c4 (h : Ck w cb B F M N) : w.cell? ⟨cb, 4, none⟩ = some (.map (some B.cm)) := cell_at (h.blk nf) rfl
theorem CkX.c5 (h : Ck w cb B F M N) : w.cell? ⟨cb, 5, none⟩ = some (.map (some B.km)) := cell_at (h.blk nf) rfl
theorem CkX.c6 (h : Ck w cb B F M N) : w.cell? ⟨cb, 6, none⟩ = some (.map (some B.om)) := cell_at (h.blk nf) rfl
theorem CkX.c7 (h : Ck w cb B F M N) : w.cell? ⟨cb, 7, none⟩ = some B.vm := cell_at (h.blk nf) rfl
theorem CkX.clt (h : Ck w cb B F M N) : cb < w.heap.size := h.lt _ _ h.top
theorem CkX.drew (h : Ck w cb B F M N) (q : Nat) : Ck (w.drewN q) cb B F M N := h.below (below_drewN (Below.refl _ _) q)
theorem CkX.lkL (h : Ck w cb B F M N) (ho : EOk g o a) : (Instr.lookup 64 (.map (some B.lm)) (.int .u64 o) false).run Tryz.prog w = .ok (.agg #[.bool (M.toWrite o), .int .i64 (M.times o)]) w := by
  have h9 := (h.ml nf).2.look lawU Tryz.underlying64 (zeroLk w) (keyU ho.o0 ho.o1)
  have e : (fL M o).getD (.agg #[.bool false, .int .i64 0]) = .agg #[.bool (M.toWrite o), .int .i64 (M.times o)] := by
    unfold fL CS.toWrite CS.times
    cases M.locks o <;> rfl
  rw [h9, e]
theorem fldL0 (b : Bool) (n : Int) (w : World) : (Instr.field 126 (.agg #[.bool b, .int .i64 n]) 0).run Tryz.prog w = .ok (.bool b) w := by kernel_rfl
theorem fldL1 (b : Bool) (n : Int) (w : World) : (Instr.field 126 (.agg #[.bool b, .int .i64 n]) 1).run Tryz.prog w = .ok (.int .i64 n) w := by kernel_rfl
/-- Where a goroutine lies; nowhere, if there is none. -/
def gAd (B : Bl) (M : CS) (g : Int) : Value := match M.gs g with
  | none => .pointer none
  | some _ => .pointer (some ⟨B.gb g, 0, none⟩)
theorem CkX.lkG (h : Ck w cb B F M N) {x : Int} (h0 : -9223372036854775808 ≤ x) (h1 : x ≤ 9223372036854775807) : (Instr.lookup 63 (.map (some B.gm)) (.int .i64 x) false).run Tryz.prog w = .ok (gAd B M x) w := by
  have h9 := (h.mg nf).2.look lawI Tryz.underlying63 (zeroPG w) (keyI h0 h1)
  have e : (fG B M x).getD (.pointer none) = gAd B M x := by
    unfold fG gAd
    cases M.gs x <;> rfl
  rw [h9, e]
def cAd (B : Bl) (M : CS) (o : Int) : Value := match M.chans o with
  | none => .pointer none
  | some _ => .pointer (some ⟨B.cb o, 0, none⟩)
theorem CkX.lkC (h : Ck w cb B F M N) (ho : EOk g o a) : (Instr.lookup 65 (.map (some B.cm)) (.int .u64 o) false).run Tryz.prog w = .ok (cAd B M o) w := by
  have h9 := (h.mc nf).2.look lawU Tryz.underlying65 (zeroPC w) (keyU ho.o0 ho.o1)
  have e : (fC B M o).getD (.pointer none) = cAd B M o := by
    unfold fC cAd
    cases M.chans o <;> rfl
  rw [h9, e]
theorem CkX.lkK (h : Ck w cb B F M N) (ho : EOk g o a) : (Instr.lookup 66 (.map (some B.km)) (.int .u64 o) false).run Tryz.prog w = .ok (.int .i64 (M.cnt o)) w := by
  have h9 := (h.mt nf).2.look lawU Tryz.underlying66 (zeroI w) (keyU ho.o0 ho.o1)
  have e : (fK M o).getD (.int .i64 0) = .int .i64 (M.cnt o) := by
    unfold fK
    split
    · rename_i e; rw [e]; rfl
    · rfl
  rw [h9, e]
theorem CkX.lkO (h : Ck w cb B F M N) (ho : EOk g o a) : (Instr.lookup 67 (.map (some B.om)) (.int .u64 o) true).run Tryz.prog w = .ok (.tuple #[.agg #[], .bool (M.once o)]) w := by
  have h9 := (h.mo nf).2.lookOk lawU Tryz.underlying67 (zeroUn w) (keyU ho.o0 ho.o1)
  rw [h9]
  unfold fO
  cases M.once o <;> rfl
theorem evc0 {b : Nat} (h : w.heap[b]? = some (.cells (evC g k o a s) 36 (0, 0))) : w.cell? ⟨b, 0, none⟩ = some (.int .i64 g) ∧ w.cell? ⟨b, 1, none⟩ = some (.int .i64 k) ∧ w.cell? ⟨b, 2, none⟩ = some (.int .u64 o) ∧ w.cell? ⟨b, 3, none⟩ = some (.int .u64 a) ∧ w.cell? ⟨b, 4, none⟩ = some s :=
  ⟨cell_at h rfl, cell_at h rfl, cell_at h rfl, cell_at h rfl, cell_at h rfl⟩
/-- waits. -/
theorem waits_any {b : Nat} {v : Value} {r : Gor} (h : w.heap[b]? = some (.cells (gorC v r) 115 (0, 0))) : Calls Tryz.prog 60 #[.pointer (some ⟨b, 0, none⟩)] w fun e w' => e = .returned (.bool (decide (0 < r.as_))) ∧ w' = w := by
  have c2 : w.cell? ⟨b, 2, none⟩ = some (.int .i64 r.as_) := cell_at h rfl
  go_enter Tryz.func60, Tryz.ntmps60
  go_wp2
  go_ret
  exact ⟨rfl, rfl⟩
end
end Go.Proofs.YtafkammiehcdjaaGreatDoor
/-
  The questions of locks and goroutines.
-/
namespace Go.Proofs.YtafkammiehcdjaaGreatDoor
open Go.RowKit Go.Maps
section
variable {w w' : World} {cb : Nat} {B : Bl} {F : Nat → Option Lb} {M : CS} {N : Nat} {g k o a : Int} {s : Value}
theorem mayAcquire_any (h : Ck w cb B F M N) (ho : EOk g o a) :
    Calls Tryz.prog 63 #[gPtr cb, .agg (evC g k o a s)] w fun e w' => e = .returned (.int .i64 (if 0 < M.times o then 4 else 0)) ∧ Below w.heap.size w w' := by
  obtain ⟨W, hW⟩ : ∃ W, W = w.alloc (.cells (evC g k o a s) 36) := ⟨_, rfl⟩
  have hb : Below w.heap.size w W := by rw [hW]; exact below_alloc1 w _
  have hC := h.below hb
  have hE : W.heap[w.heap.size]? = some (.cells (evC g k o a s) 36 (0, 0)) := by rw [hW]; exact heap_new _ _
  obtain ⟨p0, p1, p2, p3, p4⟩ := evc0 hE
  obtain ⟨R, hR⟩ : ∃ R : Int, R = (if 0 < M.times o then 4 else 0 : Int) := ⟨_, rfl⟩
  rw [← hR]
  have HR := hide hR
  have HB := hide hb
  have HW := hide hW
  have HC := hide hC
  have HE := hide hE
  have hlt := h.clt
  have hltW : cb < W.heap.size := hC.clt
  have hleW : w.heap.size < W.heap.size := (Array.getElem?_eq_some_iff.1 hE).1
  have HO := hide ho
  have t3 := hC.c3
  have hl := fun q => (hC.drew q).lkL ho
  have fl1 := fldL1
  clear h hC hb hW hR hE ho
  unfold gPtr evC
  unfold evC at HW
  generalize M.times o = tm at *
  generalize M.toWrite o = tw at *
  go_enter Tryz.func63, Tryz.ntmps63
  go_wp2_with fail
  rw [← HW.out]
  clear HW
  go_quiet (fail)
  by_cases hc : 0 < tm
  · have HN : Hid (R = 4) := hide (by rw [HR.out]; rw [if_pos hc])
    clear HR
    go_wp2
    go_ret
    exact ⟨by rw [HN.out]; rfl, below_drewN HB.out _⟩
  · have hd : decide (0 < tm) = false := decide_eq_false hc
    have HN : Hid (R = 0) := hide (by rw [HR.out]; rw [if_neg hc])
    clear HR
    go_wp2
    go_ret
    exact ⟨by rw [HN.out]; rfl, below_drewN HB.out _⟩
theorem mayAcquireToRead_any (h : Ck w cb B F M N) (ho : EOk g o a) :
    Calls Tryz.prog 67 #[gPtr cb, .agg (evC g k o a s)] w fun e w' => e = .returned (.int .i64 (if M.toWrite o = true then 6 else 0)) ∧ Below w.heap.size w w' := by
  obtain ⟨W, hW⟩ : ∃ W, W = w.alloc (.cells (evC g k o a s) 36) := ⟨_, rfl⟩
  have hb : Below w.heap.size w W := by rw [hW]; exact below_alloc1 w _
  have hC := h.below hb
  have hE : W.heap[w.heap.size]? = some (.cells (evC g k o a s) 36 (0, 0)) := by rw [hW]; exact heap_new _ _
  obtain ⟨p0, p1, p2, p3, p4⟩ := evc0 hE
  obtain ⟨R, hR⟩ : ∃ R : Int, R = (if M.toWrite o = true then 6 else 0 : Int) := ⟨_, rfl⟩
  rw [← hR]
  have HR := hide hR
  have HB := hide hb
  have HW := hide hW
  have HC := hide hC
  have HE := hide hE
  have hlt := h.clt
  have hltW : cb < W.heap.size := hC.clt
  have hleW : w.heap.size < W.heap.size := (Array.getElem?_eq_some_iff.1 hE).1
  have HO := hide ho
  have t3 := hC.c3
  have hl := fun q => (hC.drew q).lkL ho
  have fl0 := fldL0
  clear h hC hb hW hR hE ho
  unfold gPtr evC
  unfold evC at HW
  generalize M.times o = tm at *
  generalize M.toWrite o = tw at *
  go_enter Tryz.func67, Tryz.ntmps67
  go_wp2_with fail
  rw [← HW.out]
  clear HW
  go_quiet (fail)
  cases tw with
  | true =>
    have HN : Hid (R = 6) := hide (by rw [HR.out]; rw [if_pos rfl])
    clear HR
    go_wp2
    go_ret
    exact ⟨by rw [HN.out]; rfl, below_drewN HB.out _⟩
  | false =>
    have HN : Hid (R = 0) := hide (by rw [HR.out]; rw [if_neg (by simp)])
    clear HR
    go_wp2
    go_ret
    exact ⟨by rw [HN.out]; rfl, below_drewN HB.out _⟩
theorem mayFork_any (h : Ck w cb B F M N) (ho : EOk g o a) (ha : a ≤ 65535) :
    Calls Tryz.prog 71 #[gPtr cb, .agg (evC g k o a s)] w fun e w' => e = .returned (.int .i64 (if (M.gs a).isSome = true then 8 else 0)) ∧ Below w.heap.size w w' := by
  obtain ⟨W, hW⟩ : ∃ W, W = w.alloc (.cells (evC g k o a s) 36) := ⟨_, rfl⟩
  have hb : Below w.heap.size w W := by rw [hW]; exact below_alloc1 w _
  have hC := h.below hb
  have hE : W.heap[w.heap.size]? = some (.cells (evC g k o a s) 36 (0, 0)) := by rw [hW]; exact heap_new _ _
  obtain ⟨p0, p1, p2, p3, p4⟩ := evc0 hE
  obtain ⟨R, hR⟩ : ∃ R : Int, R = (if (M.gs a).isSome = true then 8 else 0 : Int) := ⟨_, rfl⟩
  rw [← hR]
  have HR := hide hR
  have HB := hide hb
  have HW := hide hW
  have HC := hide hC
  have HE := hide hE
  have hlt := h.clt
  have hltW : cb < W.heap.size := hC.clt
  have hleW : w.heap.size < W.heap.size := (Array.getElem?_eq_some_iff.1 hE).1
  have HO := hide ho
  have t1 := hC.c1
  have hl := fun q => (hC.drew q).lkG (x := a) (by have := ho.a0; omega) (by omega)
  have ha0 := ho.a0
  unfold gAd at hl
  clear h hC hb hW hR hE ho
  unfold gPtr evC
  unfold evC at HW
  go_enter Tryz.func71, Tryz.ntmps71
  go_wp2_with fail
  rw [← HW.out]
  clear HW
  cases hg : M.gs a with
  | none =>
    rw [hg] at hl HR
    dsimp only at hl
    go_quiet (fail)
    have HN : Hid (R = 0) := hide (by rw [HR.out]; rfl)
    clear HR
    go_wp2
    go_ret
    exact ⟨by rw [HN.out]; rfl, below_drewN HB.out _⟩
  | some r =>
    rw [hg] at hl HR
    dsimp only at hl
    go_quiet (fail)
    have HN : Hid (R = 8) := hide (by rw [HR.out]; rfl)
    clear HR
    go_wp2
    go_ret
    exact ⟨by rw [HN.out]; rfl, below_drewN HB.out _⟩
theorem mayMake_any (h : Ck w cb B F M N) (ho : EOk g o a) :
    Calls Tryz.prog 75 #[gPtr cb, .agg (evC g k o a s)] w fun e w' => e = .returned (.int .i64 (if (M.chans o).isSome = true then 13 else 0)) ∧ Below w.heap.size w w' := by
  obtain ⟨W, hW⟩ : ∃ W, W = w.alloc (.cells (evC g k o a s) 36) := ⟨_, rfl⟩
  have hb : Below w.heap.size w W := by rw [hW]; exact below_alloc1 w _
  have hC := h.below hb
  have hE : W.heap[w.heap.size]? = some (.cells (evC g k o a s) 36 (0, 0)) := by rw [hW]; exact heap_new _ _
  obtain ⟨p0, p1, p2, p3, p4⟩ := evc0 hE
  obtain ⟨R, hR⟩ : ∃ R : Int, R = (if (M.chans o).isSome = true then 13 else 0 : Int) := ⟨_, rfl⟩
  rw [← hR]
  have HR := hide hR
  have HB := hide hb
  have HW := hide hW
  have HC := hide hC
  have HE := hide hE
  have hlt := h.clt
  have hltW : cb < W.heap.size := hC.clt
  have hleW : w.heap.size < W.heap.size := (Array.getElem?_eq_some_iff.1 hE).1
  have HO := hide ho
  have t4 := hC.c4
  have hl := fun q => (hC.drew q).lkC ho
  unfold cAd at hl
  clear h hC hb hW hR hE ho
  unfold gPtr evC
  unfold evC at HW
  go_enter Tryz.func75, Tryz.ntmps75
  go_wp2_with fail
  rw [← HW.out]
  clear HW
  cases hg : M.chans o with
  | none =>
    rw [hg] at hl HR
    dsimp only at hl
    go_quiet (fail)
    have HN : Hid (R = 0) := hide (by rw [HR.out]; rfl)
    clear HR
    go_wp2
    go_ret
    exact ⟨by rw [HN.out]; rfl, below_drewN HB.out _⟩
  | some r =>
    rw [hg] at hl HR
    dsimp only at hl
    go_quiet (fail)
    have HN : Hid (R = 13) := hide (by rw [HR.out]; rfl)
    clear HR
    go_wp2
    go_ret
    exact ⟨by rw [HN.out]; rfl, below_drewN HB.out _⟩
theorem mayRelease_any (h : Ck w cb B F M N) (ho : EOk g o a) {r : Gor} (hg : M.gs g = some r) :
    Calls Tryz.prog 65 #[gPtr cb, .agg (evC g k o a s)] w fun e w' => e = .returned (.int .i64 (if M.toWrite o = true ∧ has o r.held = true then 0 else 5)) ∧ Below w.heap.size w w' := by
  obtain ⟨W, hW⟩ : ∃ W, W = w.alloc (.cells (evC g k o a s) 36) := ⟨_, rfl⟩
  have hb : Below w.heap.size w W := by rw [hW]; exact below_alloc1 w _
  have hC := h.below hb
  have hE : W.heap[w.heap.size]? = some (.cells (evC g k o a s) 36 (0, 0)) := by rw [hW]; exact heap_new _ _
  obtain ⟨p0, p1, p2, p3, p4⟩ := evc0 hE
  obtain ⟨R, hR⟩ : ∃ R : Int, R = (if M.toWrite o = true ∧ has o r.held = true then 0 else 5 : Int) := ⟨_, rfl⟩
  rw [← hR]
  have HR := hide hR
  have HB := hide hb
  have HW := hide hW
  have HC := hide hC
  have HE := hide hE
  have hlt := h.clt
  have hltW : cb < W.heap.size := hC.clt
  have hleW : w.heap.size < W.heap.size := (Array.getElem?_eq_some_iff.1 hE).1
  have HO := hide ho
  have t1 := hC.c1
  have t3 := hC.c3
  have hl := fun q => (hC.drew q).lkL ho
  have fl0 := fldL0
  have HS : Hid (∀ X, Below W.heap.size W X → X.cell? ⟨cb, 1, none⟩ = some (.map (some B.gm)) ∧ X.cell? ⟨cb, 3, none⟩ = some (.map (some B.lm)) ∧ X.cell? ⟨w.heap.size, 0, none⟩ = some (.int .i64 g) ∧ X.cell? ⟨w.heap.size, 2, none⟩ = some (.int .u64 o) ∧ (Instr.lookup 64 (.map (some B.lm)) (.int .u64 o) false).run Tryz.prog X = .ok (.agg #[.bool (M.toWrite o), .int .i64 (M.times o)]) X ∧ (Instr.lookup 63 (.map (some B.gm)) (.int .i64 g) false).run Tryz.prog X = .ok (.pointer (some ⟨B.gb g, 0, none⟩)) X) := hide (fun X hX => by
    have hCX := hC.below hX
    refine ⟨hCX.c1, hCX.c3, (hX.cell (p := ⟨w.heap.size, 0, none⟩) hleW).trans p0, (hX.cell (p := ⟨w.heap.size, 2, none⟩) hleW).trans p2, hCX.lkL ho, ?_⟩
    have h9 := hCX.lkG (x := g) (by have := ho.g0; omega) (by have := ho.g1; omega)
    unfold gAd at h9
    rw [hg] at h9
    exact h9)
  have HQ := hide (fun X (hX : Below W.heap.size W X) => rise_has (rb := B.gb g) (ro := 0) (k := o) (cell_at (v := B.gv g) (hC.below hX |>.gor g r hg nf).2 rfl) ((hC.below hX).he g r hg nf))
  have HHas : Hid (has o r.held = (look o r.held).isSome) := hide rfl
  generalize (look o r.held).isSome = hs at *
  rw [HHas.out] at HR
  clear HHas
  clear h hC hb hW hR hE ho hg
  unfold gPtr evC
  unfold evC at HW
  generalize M.times o = tm at *
  generalize M.toWrite o = tw at *
  go_enter Tryz.func65, Tryz.ntmps65
  go_wp2_with fail
  rw [← HW.out]
  clear HW
  cases tw with
  | false =>
    go_quiet (fail)
    have HN : Hid (R = 5) := hide (by rw [HR.out]; simp)
    clear HR
    go_wp2
    go_ret
    exact ⟨by rw [HN.out]; rfl, below_drewN HB.out _⟩
  | true =>
    go_region_held3 (fun X => X.cell? ⟨cb, 1, none⟩ = some (.map (some B.gm)) ∧ X.cell? ⟨cb, 3, none⟩ = some (.map (some B.lm)) ∧ X.cell? ⟨w.heap.size, 0, none⟩ = some (.int .i64 g) ∧ X.cell? ⟨w.heap.size, 2, none⟩ = some (.int .u64 o) ∧ (Instr.lookup 64 (.map (some B.lm)) (.int .u64 o) false).run Tryz.prog X = .ok (.agg #[.bool true, .int .i64 tm]) X ∧ (Instr.lookup 63 (.map (some B.gm)) (.int .i64 g) false).run Tryz.prog X = .ok (.pointer (some ⟨B.gb g, 0, none⟩)) X)
      (first | with_reducible exact HS.out _ (Below.refl _ _) | with_reducible exact HS.out _ (Below.refl _ _).drew | with_reducible exact HS.out _ HB3.out)
      (first | (go_at_call 59; go_must (refine (HQ.out _ ((Below.refl _ _).drew)).mono ?_; rintro e w3 ⟨rfl, hb3⟩; have HB3 := hide (Below.on (Below.refl W.heap.size W).drew hb3); clear hb3)))
    have HB4 := hide (Below.on HB.out HB3.out)
    clear HS HQ HB3
    cases hs with
    | true =>
      have HN : Hid (R = 0) := hide (by rw [HR.out]; simp)
      clear HR
      go_wp2
      go_ret
      exact ⟨by rw [HN.out]; rfl, HB4.out⟩
    | false =>
      have HN : Hid (R = 5) := hide (by rw [HR.out]; simp)
      clear HR
      go_wp2
      go_ret
      exact ⟨by rw [HN.out]; rfl, HB4.out⟩
theorem mayReleaseToRead_any (h : Ck w cb B F M N) (ho : EOk g o a) {r : Gor} (hg : M.gs g = some r) :
    Calls Tryz.prog 69 #[gPtr cb, .agg (evC g k o a s)] w fun e w' => e = .returned (.int .i64 (if M.toWrite o = true then 7 else if has o r.held = true then 0 else 7)) ∧ Below w.heap.size w w' := by
  obtain ⟨W, hW⟩ : ∃ W, W = w.alloc (.cells (evC g k o a s) 36) := ⟨_, rfl⟩
  have hb : Below w.heap.size w W := by rw [hW]; exact below_alloc1 w _
  have hC := h.below hb
  have hE : W.heap[w.heap.size]? = some (.cells (evC g k o a s) 36 (0, 0)) := by rw [hW]; exact heap_new _ _
  obtain ⟨p0, p1, p2, p3, p4⟩ := evc0 hE
  obtain ⟨R, hR⟩ : ∃ R : Int, R = (if M.toWrite o = true then 7 else if has o r.held = true then 0 else 7 : Int) := ⟨_, rfl⟩
  rw [← hR]
  have HR := hide hR
  have HB := hide hb
  have HW := hide hW
  have HC := hide hC
  have HE := hide hE
  have hlt := h.clt
  have hltW : cb < W.heap.size := hC.clt
  have hleW : w.heap.size < W.heap.size := (Array.getElem?_eq_some_iff.1 hE).1
  have HO := hide ho
  have t1 := hC.c1
  have t3 := hC.c3
  have hl := fun q => (hC.drew q).lkL ho
  have fl0 := fldL0
  have HS : Hid (∀ X, Below W.heap.size W X → X.cell? ⟨cb, 1, none⟩ = some (.map (some B.gm)) ∧ X.cell? ⟨cb, 3, none⟩ = some (.map (some B.lm)) ∧ X.cell? ⟨w.heap.size, 0, none⟩ = some (.int .i64 g) ∧ X.cell? ⟨w.heap.size, 2, none⟩ = some (.int .u64 o) ∧ (Instr.lookup 64 (.map (some B.lm)) (.int .u64 o) false).run Tryz.prog X = .ok (.agg #[.bool (M.toWrite o), .int .i64 (M.times o)]) X ∧ (Instr.lookup 63 (.map (some B.gm)) (.int .i64 g) false).run Tryz.prog X = .ok (.pointer (some ⟨B.gb g, 0, none⟩)) X) := hide (fun X hX => by
    have hCX := hC.below hX
    refine ⟨hCX.c1, hCX.c3, (hX.cell (p := ⟨w.heap.size, 0, none⟩) hleW).trans p0, (hX.cell (p := ⟨w.heap.size, 2, none⟩) hleW).trans p2, hCX.lkL ho, ?_⟩
    have h9 := hCX.lkG (x := g) (by have := ho.g0; omega) (by have := ho.g1; omega)
    unfold gAd at h9
    rw [hg] at h9
    exact h9)
  have HQ := hide (fun X (hX : Below W.heap.size W X) => rise_has (rb := B.gb g) (ro := 0) (k := o) (cell_at (v := B.gv g) (hC.below hX |>.gor g r hg nf).2 rfl) ((hC.below hX).he g r hg nf))
  have HHas : Hid (has o r.held = (look o r.held).isSome) := hide rfl
  generalize (look o r.held).isSome = hs at *
  rw [HHas.out] at HR
  clear HHas
  clear h hC hb hW hR hE ho hg
  unfold gPtr evC
  unfold evC at HW
  generalize M.times o = tm at *
  generalize M.toWrite o = tw at *
  go_enter Tryz.func69, Tryz.ntmps69
  go_wp2_with fail
  rw [← HW.out]
  clear HW
  cases tw with
  | true =>
    go_quiet (fail)
    have HN : Hid (R = 7) := hide (by rw [HR.out]; simp)
    clear HR
    go_wp2
    go_ret
    exact ⟨by rw [HN.out]; rfl, below_drewN HB.out _⟩
  | false =>
    go_region_held3 (fun X => X.cell? ⟨cb, 1, none⟩ = some (.map (some B.gm)) ∧ X.cell? ⟨cb, 3, none⟩ = some (.map (some B.lm)) ∧ X.cell? ⟨w.heap.size, 0, none⟩ = some (.int .i64 g) ∧ X.cell? ⟨w.heap.size, 2, none⟩ = some (.int .u64 o) ∧ (Instr.lookup 64 (.map (some B.lm)) (.int .u64 o) false).run Tryz.prog X = .ok (.agg #[.bool false, .int .i64 tm]) X ∧ (Instr.lookup 63 (.map (some B.gm)) (.int .i64 g) false).run Tryz.prog X = .ok (.pointer (some ⟨B.gb g, 0, none⟩)) X)
      (first | with_reducible exact HS.out _ (Below.refl _ _) | with_reducible exact HS.out _ (Below.refl _ _).drew | with_reducible exact HS.out _ HB3.out)
      (first | (go_at_call 59; go_must (refine (HQ.out _ ((Below.refl _ _).drew)).mono ?_; rintro e w3 ⟨rfl, hb3⟩; have HB3 := hide (Below.on (Below.refl W.heap.size W).drew hb3); clear hb3)))
    have HB4 := hide (Below.on HB.out HB3.out)
    clear HS HQ HB3
    cases hs with
    | true =>
      have HN : Hid (R = 0) := hide (by rw [HR.out]; simp)
      clear HR
      go_wp2
      go_ret
      exact ⟨by rw [HN.out]; rfl, HB4.out⟩
    | false =>
      have HN : Hid (R = 7) := hide (by rw [HR.out]; simp)
      clear HR
      go_wp2
      go_ret
      exact ⟨by rw [HN.out]; rfl, HB4.out⟩
end
end Go.Proofs.YtafkammiehcdjaaGreatDoor
