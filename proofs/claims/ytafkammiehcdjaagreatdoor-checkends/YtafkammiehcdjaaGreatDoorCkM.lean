/-
  What a Send does.
-/
import Derived.Test.YtafkammiehcdjaaGreatDoorCkL
namespace Go.Proofs.YtafkammiehcdjaaGreatDoor
open Go.RowKit Go.Maps
section
variable {w w' : World} {cb : Nat} {B : Bl} {F : Nat → Option Lb} {M : CS} {N : Nat} {g k o a : Int} {s : Value}
/-- What a Send reads while a goroutine's mark is written. -/
theorem CkX.sdRead {eb : Nat} (h : Ck w cb B F M N) {r : Gor} (hg : M.gs g = some r) {c : Chn} (hc : M.chans o = some c) (hE : w.heap[eb]? = some (.cells (evC g k o a s) 36 (0, 0))) (hFe : F eb = none) {X : World} (hX : But (fun k => k = B.gb g) w X) :
    X.cell? ⟨eb, 2, none⟩ = some (.int .u64 o) ∧ X.cell? ⟨B.cb o, 1, none⟩ = some (.int .i64 c.sends) := by
  have hgl := (h.gor g r hg nf).1
  have hcl := (h.chn o c hc nf).1
  refine ⟨cell_but (evc0 hE).2.2.1 hX (fun e => ?_), cell_but (cell_at (h.chn o c hc nf).2 rfl) hX (fun e => ?_)⟩
  · have e9 : eb = B.gb g := e
    rw [e9, hgl] at hFe; cases hFe
  · have e9 : B.cb o = B.gb g := e
    rw [e9, hgl] at hcl; cases hcl
set_option maxRecDepth 8000 in
theorem send_any (h : Ck w cb B F M N) (ho : EOk g o a) (hN : N ≤ 2000000) (hok : M.ok) {r : Gor} (hg : M.gs g = some r) {c : Chn} (hc : M.chans o = some c) :
    Calls Tryz.prog 78 #[gPtr cb, .agg (evC g k o a s)] w fun e w' => e = .returned (.tuple #[]) ∧ CkR w cb F { M with chans := setF M.chans o (some { c with sends := c.sends + 1 }), gs := if c.room = 0 then setF M.gs g (some { r with «to» := o, as_ := c.sends + 1 }) else M.gs } N w' := by
  obtain ⟨W, hW⟩ : ∃ W, W = w.alloc (.cells (evC g k o a s) 36) := ⟨_, rfl⟩
  have hb : Below w.heap.size w W := by rw [hW]; exact below_alloc1 w _
  have hC := h.below hb
  have hCd : Ck W.drew cb B F M N := hC.below (Below.refl _ _).drew
  have hE : W.heap[w.heap.size]? = some (.cells (evC g k o a s) 36 (0, 0)) := by rw [hW]; exact heap_new _ _
  obtain ⟨p0, p1, p2, p3, p4⟩ := evc0 hE
  have hmax : N < maxLen := by unfold maxLen; omega
  have HB := hide hb
  have HW := hide hW
  have HC := hide hC
  have hlt := h.clt
  have hltW : cb < W.heap.size := hC.clt
  have hleW : w.heap.size < W.heap.size := (Array.getElem?_eq_some_iff.1 hE).1
  have hFe : F w.heap.size = none := by
    cases hq : F w.heap.size with
    | none => rfl
    | some l => have := h.lt _ _ hq; omega
  have t1 := hC.c1
  have t4 := hC.c4
  have hlg := fun q => (hC.drew q).lkG1 hg ho
  have hlc := fun q => (hC.drew q).lkC1 hc ho
  have hgl := hC.goltW hg
  have hcl := hC.chltW hc
  have hcb := (hok.ch o c hc)
  have HE := hide hE
  have HFe := hide hFe
  obtain ⟨⟨hr0, hr1⟩, ⟨hs0, hs1⟩, _, _⟩ := hcb
  obtain ⟨G2, hG2⟩ : ∃ G2, G2 = (if c.room = 0 then setF M.gs g (some { r with «to» := o, as_ := c.sends + 1 }) else M.gs) := ⟨_, rfl⟩
  rw [← hG2]
  have HG2 := hide hG2
  have HO := hide ho
  clear h hb hW hmax hC hCd hE hFe ho hok hG2
  unfold gPtr evC
  unfold evC at HW
  go_enter Tryz.func78, Tryz.ntmps78
  go_wp2_with fail
  rw [← HW.out]
  clear HW
  go_quiet (fail)
  obtain ⟨W2, hW2⟩ : ∃ W2, W2 = W.drewN nq := ⟨_, rfl⟩
  rw [← hW2]
  have hb2 : Below W.heap.size W W2 := by rw [hW2]; exact below_drewN (Below.refl _ _) _
  have HB2 := hide (Below.on HB.out hb2)
  have HC2 := hide (HC.out.below hb2)
  have hE2 := (hb2.block _ hleW).trans HE.out
  have hc2 := (HC2.out.chn o c hc nf).2
  have g0 : W2.cell? ⟨B.cb o, 0, none⟩ = some (.int .i64 c.room) := cell_at hc2 rfl
  have g1 : W2.cell? ⟨B.cb o, 1, none⟩ = some (.int .i64 c.sends) := cell_at hc2 rfl
  have f1 : W2.frozen? ⟨B.cb o, 1, none⟩ = false := frz hc2 1
  have hcl2 := HC2.out.chltW hc
  have HE2 := hide hE2
  have Hc2 := hide hc2
  clear hW2 hb2 t1 t4 hlg hlc p0 p1 p2 p3 p4 hc2 hE2 hgl hcl
  obtain ⟨W3, hW3⟩ : ∃ W3, W3 = W2.setCell ⟨B.cb o, 1, none⟩ (.int .i64 (c.sends + 1)) := ⟨_, rfl⟩
  have hbu : But (fun k => k = B.cb o) W2 W3 := by rw [hW3]; exact (But.refl (fun k => k = B.cb o) W2).setCell _ (fun _ => rfl) _
  obtain ⟨k1, k2⟩ := HC2.out.setC (w' := W3) (r' := { c with sends := c.sends + 1 }) hc (by rw [hW3]; exact set1_heap _ Hc2.out) hbu
  have hle2 : w.heap.size < W2.heap.size := (Array.getElem?_eq_some_iff.1 HE2.out).1
  have hcf := (HC2.out.chn o c hc nf).1
  have hE3 : W3.heap[w.heap.size]? = some (.cells (evC g k o a s) 36 (0, 0)) := (hbu.block _ hle2 (fun e => by have e9 : w.heap.size = B.cb o := e; rw [← e9, HFe.out] at hcf; cases hcf)).trans HE2.out
  have h30 : W3.cell? ⟨B.cb o, 0, none⟩ = some (.int .i64 c.room) := cell_at (k1.chn o _ (setF_same _ _ _) nf).2 rfl
  have HK1 := hide k1
  have HK2 := hide k2
  have HE3 := hide hE3
  have HW3 := hide hW3
  clear hbu k1 k2 hE3 hW3 hcf
  by_cases hz : c.room = 0
  · have hzb : (c.room == 0) = true := by rw [beq_iff_eq]; exact hz
    have HZ := hide hz
    clear hz
    go_wp2_with fail
    rw [← HW3.out]
    have hg3 := (HK1.out.gor g r hg nf).2
    have q1 : W3.cell? ⟨B.gb g, 1, none⟩ = some (.int .u64 r.to) := cell_at hg3 rfl
    have q2 : W3.cell? ⟨B.gb g, 2, none⟩ = some (.int .i64 r.as_) := cell_at hg3 rfl
    have y1 : W3.frozen? ⟨B.gb g, 1, none⟩ = false := frz hg3 1
    have y2 : W3.frozen? ⟨B.gb g, 2, none⟩ = false := frz hg3 2
    have hgl3 := HK1.out.goltW hg
    have HSd : Hid (∀ X, But (fun k => k = B.gb g) W3 X → X.cell? ⟨w.heap.size, 2, none⟩ = some (.int .u64 o) ∧ X.cell? ⟨B.cb o, 1, none⟩ = some (.int .i64 (c.sends + 1))) := hide (fun X hX => HK1.out.sdRead hg (c := { c with sends := c.sends + 1 }) (setF_same _ _ _) HE3.out HFe.out hX)
    have Hg3 := hide hg3
    clear hg3 g0 g1 f1
    go_region_held3 (fun X => X.cell? ⟨w.heap.size, 2, none⟩ = some (.int .u64 o) ∧ X.cell? ⟨B.cb o, 1, none⟩ = some (.int .i64 (c.sends + 1)))
      (first | with_reducible exact HSd.out _ (But.refl _ _) | with_reducible exact HSd.out _ (But.refl _ _).drew | exact HSd.out _ (((But.refl (fun k => k = B.gb g) W3).setCell _ (fun _ => rfl) _).drew) | exact HSd.out _ ((((But.refl (fun k => k = B.gb g) W3).setCell _ (fun _ => rfl) _).setCell _ (fun _ => rfl) _).drew))
      (fail)
    go_wp2
    go_end0
    obtain ⟨k1, k2⟩ := HK1.out.setG (w' := ((W3.setCell ⟨B.gb g, 1, none⟩ (.int .u64 o)).setCell ⟨B.gb g, 2, none⟩ (.int .i64 (c.sends + 1))).drew) (r' := { r with «to» := o, as_ := c.sends + 1 }) hg rfl (set1_heap _ (set1_heap _ Hg3.out)) ((((But.refl (fun k => k = B.gb g) W3).setCell _ (fun _ => rfl) _).setCell _ (fun _ => rfl) _).drew)
    rw [HG2.out, if_pos HZ.out]
    exact ⟨rfl, CkR.below HB2.out (CkR.trans (FEx.refl _ _) HK2.out ⟨_, _, k1, FEx.refl _ _, k2⟩)⟩
  · have hzb : (c.room == 0) = false := by rw [beq_eq_false_iff_ne]; exact hz
    have HZ := hide hz
    clear hz
    go_wp2
    go_end0
    rw [HG2.out, if_neg HZ.out, ← HW3.out]
    exact ⟨rfl, CkR.below HB2.out ⟨_, _, HK1.out, FEx.refl _ _, HK2.out⟩⟩
end
end Go.Proofs.YtafkammiehcdjaaGreatDoor
