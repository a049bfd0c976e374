import Derived.Test.YtimgkhdgliojgaaGreatDoorOg18
set_option maxRecDepth 8000
set_option maxHeartbeats 8000000
set_option linter.unusedVariables false
namespace Go.Proofs.YtimgkhdgliojgaaGreatDoor
open Go.RowKit Go.Maps
section
variable {w w' : World} {cb : Nat} {B : Bl} {F : Nat → Option Lb} {M : CS} {N : Nat} {g k o a : Int} {s : Value}
theorem setF_map {α β:Type} (m:α→β) (f:Int→Option α) (x:Int) (v:Option α):(fun y=>(setF f x v y).map m)=setF (fun y=>(f y).map m) x (v.map m):=by
 funext y
 by_cases hy:y=x
 ·subst hy;rw [setF_same,setF_same]
 ·rw [setF_other _ _ hy,setF_other _ _ hy]
def HeS (F:Nat→Option Lb) (B:Bl) (g:Int) (k:Nat):Prop:=F k=some (.he g)∨k=B.gb g
theorem CkX.goP (h:Ck w cb B F M N) {r:Gor} (hg:M.gs g=some r):¬ (fun k=>F k=some (.he g)) (B.gb g):=by
 intro e
 have e1:F (B.gb g)=some (.he g):=e
 rw [(h.gor g r hg nf).1] at e1
 cases e1
theorem CkX.lkG1 (h:Ck w cb B F M N) {r:Gor} (hg:M.gs g=some r) (ho:EOk g o a):(Instr.lookup 108 (.map (some B.gm)) (.int .i64 g) false).run Tryz.prog w=.ok (.pointer (some ⟨B.gb g,0,none⟩)) w:=by
 have h9:=h.lkG (x:=g) (by have:=ho.g0;omega) (by have:=ho.g1;omega)
 unfold gAd at h9
 rw [hg] at h9
 exact h9
theorem CkX.heRead {eb:Nat} (h:Ck w cb B F M N) {r:Gor} (hg:M.gs g=some r) (ho:EOk g o a) (hE:w.heap[eb]?=some (.cells (evC g k o a s) 35 (0,0))) (hFe:F eb=none) {X:World} (hX:But (HeS F B g) w X) :
  X.cell? ⟨cb,1,none⟩=some (.map (some B.gm))∧X.cell? ⟨eb,0,none⟩=some (.int .i64 g)∧X.cell? ⟨eb,2,none⟩=some (.int .u64 o)∧(Instr.lookup 108 (.map (some B.gm)) (.int .i64 g) false).run Tryz.prog X=.ok (.pointer (some ⟨B.gb g,0,none⟩)) X:=by
 have hgl:=(h.gor g r hg nf).1
 obtain ⟨p0,p1,p2,p3,p4⟩:=evc0 hE
 have ne:∀ {k:Nat} {l:Lb},F k=some l→l≠.he g→l≠.go g→¬ HeS F B g k:=by
  intro k l hk h1 h2 e
  rcases e with e|e
  ·rw [hk] at e;exact h1 (Option.some.inj e)
  ·rw [e,hgl] at hk;exact h2 (Option.some.inj hk).symm
 have nee:¬ HeS F B g eb:=by
  intro e
  rcases e with e|e
  ·rw [hFe] at e;cases e
  ·rw [e,hgl] at hFe;cases hFe
 have hm:=(h.mg nf).2.but hX (ne (h.mg nf).1 (by simp) (by simp))
 refine ⟨cell_but h.c1 hX (ne h.top (by simp) (by simp)),cell_but p0 hX nee,cell_but p2 hX nee,?_⟩
 have h9:=hm.look (x:=g) lawI Tryz.underlying108 (zeroPG X) (keyI (by have:=ho.g0;omega) (by have:=ho.g1;omega))
 rw [h9]
 have e:(fG B M g).getD (.pointer none)=.pointer (some ⟨B.gb g,0,none⟩):=by unfold fG;rw [hg];rfl
 rw [e]
theorem acquire_any (h:Ck w cb B F M N) (ho:EOk g o a) (hN:N≤2000000) (hok:M.ok) {r:Gor} (hg:M.gs g=some r) :
  Calls Tryz.prog 90 #[gPtr cb,.agg (evC g k o a s)] w fun e w'=>e=.returned (.tuple #[])∧CkR w cb F { M with locks:=setF M.locks o (some (true,1)),gs:=setF M.gs g (some { r with held:=insE o 1 r.held }) } (N+1) w':=by
 obtain ⟨W,hW⟩:∃ W,W=w.alloc (.cells (evC g k o a s) 35):=⟨_,rfl⟩
 have hb:Below w.heap.size w W:=by rw [hW];exact below_alloc1 w _
 have hC:=h.below hb
 have hCd:Ck W.drew cb B F M N:=hC.below (Below.refl _ _).drew
 have hE:W.heap[w.heap.size]?=some (.cells (evC g k o a s) 35 (0,0)):=by rw [hW];exact heap_new _ _
 obtain ⟨p0,p1,p2,p3,p4⟩:=evc0 hE
 have hmax:N < maxLen:=by unfold maxLen;omega
 have HB:=hide hb
 have HW:=hide hW
 have HC:=hide hC
 have hlt:=h.clt
 have hltW:cb < W.heap.size:=hC.clt
 have hleW:w.heap.size < W.heap.size:=(Array.getElem?_eq_some_iff.1 hE).1
 have hFe:F w.heap.size=none:=by
  cases hq:F w.heap.size with
  | none=>rfl
  | some l=>have:=h.lt _ _ hq;omega
 obtain ⟨w1,hup,hm1,hb1⟩:=(hCd.ml nf).2.put lawU Tryz.underlying109 hmax (keyU ho.o0 ho.o1) (lockV ((true,1)))
 have hm1':HM w1 32 .u64 B.lm (N+1) (.agg #[.bool false,.int .i64 0]) (fun x=>(setF M.locks o (some ((true,1))) x).map lockV):=by rw [setF_map];exact hm1
 obtain ⟨hC1,hB1⟩:=hCd.setL (Nat.le_succ N) hm1' hb1
 have t3:=hC.c3
 have hFl:=(hC.ml nf).1
 have HSL:Hid (∀ X,But (fun k=>k=B.lm) W X→X.cell? ⟨cb,3,none⟩=some (.map (some B.lm))∧X.cell? ⟨w.heap.size,2,none⟩=some (.int .u64 o)):=hide (fun X hX=>⟨cell_but t3 hX (fun e=>by have e9:cb=B.lm:=e;rw [← e9,hC.top] at hFl;cases hFl),cell_but p2 hX (fun e=>by have e9:w.heap.size=B.lm:=e;rw [← e9,hFe] at hFl;cases hFl)⟩)
 have HK1:Hid (But (fun k=>k=B.lm) W w1):=hide ((But.refl (fun k=>k=B.lm) W).drew.trans hb1 (fun _ _ e=>e))
 have hE1:w1.heap[w.heap.size]?=some (.cells (evC g k o a s) 35 (0,0)):=(HK1.out.block _ hleW (fun e=>by have e9:w.heap.size=B.lm:=e;rw [← e9,hFe] at hFl;cases hFl)).trans hE
 have HBW:Hid (But (fun k=>F k≠none) W.drew w1):=hide hB1
 have hg1:({ M with locks:=setF M.locks o (some (true,1)) }:CS).gs g=some r:=hg
 have HSG:Hid (∀ X,But (HeS F B g) w1 X→X.cell? ⟨cb,1,none⟩=some (.map (some B.gm))∧X.cell? ⟨w.heap.size,0,none⟩=some (.int .i64 g)∧X.cell? ⟨w.heap.size,2,none⟩=some (.int .u64 o)∧(Instr.lookup 108 (.map (some B.gm)) (.int .i64 g) false).run Tryz.prog X=.ok (.pointer (some ⟨B.gb g,0,none⟩)) X):=hide (fun X hX=>hC1.heRead hg1 ho hE1 hFe hX)
 have hC1d:Ck w1.drew cb B F { M with locks:=setF M.locks o (some (true,1)) } (N+1):=hC1.below (Below.refl _ _).drew
 have HP:=hide (rise_put (rb:=B.gb g) (ro:=0) (k:=o) (x:=1) (hC1d.gor g r hg1 nf).2 rfl (hC1d.he g r hg1 nf) (hC1d.goP hg1) (by have:=(hok.gor g r hg).2.2.2.1;have:=hok.tk;omega))
 have HC1d:=hide hC1d
 have HG1:=hide hg1
 have hup':(Instr.mapUpdate 109 (.map (some B.lm)) (.int .u64 o) (.agg #[.bool true,.int .i64 1])).run Tryz.prog W.drew=.ok () w1:=hup
 have HO:=hide ho
 clear h hb hW hmax hC hCd hE p0 p1 p2 p3 p4 hm1 hm1' hC1 hb1 hB1 t3 hFl hFe hE1 hC1d hg1 hg hok hup ho
 unfold gPtr evC
 unfold evC at HW
 go_enter Tryz.func90,Tryz.ntmps90
 go_wp2_with fail
 rw [← HW.out]
 clear HW
 go_region_held3 (fun X=>X.cell? ⟨cb,3,none⟩=some (.map (some B.lm))∧X.cell? ⟨w.heap.size,2,none⟩=some (.int .u64 o))
  (first|with_reducible exact HSL.out _ (But.refl _ _)|with_reducible exact HSL.out _ (But.refl _ _).drew|with_reducible exact HSL.out _ HK1.out)
  (fail)
 clear HSL hup'
 go_wp2_with fail
 go_region_held3 (fun X=>X.cell? ⟨cb,1,none⟩=some (.map (some B.gm))∧X.cell? ⟨w.heap.size,0,none⟩=some (.int .i64 g)∧X.cell? ⟨w.heap.size,2,none⟩=some (.int .u64 o)∧(Instr.lookup 108 (.map (some B.gm)) (.int .i64 g) false).run Tryz.prog X=.ok (.pointer (some ⟨B.gb g,0,none⟩)) X)
  (first|with_reducible exact HSG.out _ (But.refl _ _)|with_reducible exact HSG.out _ (But.refl _ _).drew|with_reducible exact HSG.out _ HK3.out)
  (first|(go_at_call 80;go_must (refine HP.out.mono ?_;rintro e w3 ⟨rfl,hrp⟩;have HRP:=hide hrp;have HK3:Hid (But (HeS F B g) w1 w3):=hide ((But.refl (HeS F B g) w1).drew.trans hrp.choose_spec.2.2 (fun _ _ e=>e));clear hrp)))
 go_wp2
 go_end0
 exact ⟨rfl,CkR.below HB.out (CkR.below (Below.refl _ _).drew (CkR.trans (FEx.refl _ _) HBW.out (CkR.below (Below.refl _ _).drew (HC1d.out.setH HG1.out HRP.out))))⟩
end
end Go.Proofs.YtimgkhdgliojgaaGreatDoor
namespace Go.Proofs.YtimgkhdgliojgaaGreatDoor
open Go.RowKit Go.Maps
section
variable {w w' : World} {cb : Nat} {B : Bl} {F : Nat → Option Lb} {M : CS} {N : Nat} {g k o a : Int} {s : Value}
theorem release_any (h:Ck w cb B F M N) (ho:EOk g o a) (hN:N≤2000000) (hok:M.ok) {r:Gor} (hg:M.gs g=some r) {u:Int} (hl:look o r.held=some u) :
  Calls Tryz.prog 92 #[gPtr cb,.agg (evC g k o a s)] w fun e w'=>e=.returned (.tuple #[])∧CkR w cb F { M with locks:=setF M.locks o none,gs:=setF M.gs g (some { r with held:=delE o r.held }) } (N+1) w':=by
 obtain ⟨W,hW⟩:∃ W,W=w.alloc (.cells (evC g k o a s) 35):=⟨_,rfl⟩
 have hb:Below w.heap.size w W:=by rw [hW];exact below_alloc1 w _
 have hC:=h.below hb
 have hCd:Ck W.drew cb B F M N:=hC.below (Below.refl _ _).drew
 have hE:W.heap[w.heap.size]?=some (.cells (evC g k o a s) 35 (0,0)):=by rw [hW];exact heap_new _ _
 obtain ⟨p0,p1,p2,p3,p4⟩:=evc0 hE
 have hmax:N < maxLen:=by unfold maxLen;omega
 have HB:=hide hb
 have HW:=hide hW
 have HC:=hide hC
 have hlt:=h.clt
 have hltW:cb < W.heap.size:=hC.clt
 have hleW:w.heap.size < W.heap.size:=(Array.getElem?_eq_some_iff.1 hE).1
 have hFe:F w.heap.size=none:=by
  cases hq:F w.heap.size with
  | none=>rfl
  | some l=>have:=h.lt _ _ hq;omega
 obtain ⟨w1,hup,hm1,hb1⟩:=(hCd.ml nf).2.del lawU Tryz.underlying109 (keyU ho.o0 ho.o1) 0
 have hm1':HM w1 32 .u64 B.lm (N+1) (.agg #[.bool false,.int .i64 0]) (fun x=>(setF M.locks o none x).map lockV):=by rw [setF_map];exact hm1.up (Nat.le_succ N)
 obtain ⟨hC1,hB1⟩:=hCd.setL (Nat.le_succ N) hm1' hb1
 have t3:=hC.c3
 have hFl:=(hC.ml nf).1
 have HSL:Hid (∀ X,But (fun k=>k=B.lm) W X→X.cell? ⟨cb,3,none⟩=some (.map (some B.lm))∧X.cell? ⟨w.heap.size,2,none⟩=some (.int .u64 o)):=hide (fun X hX=>⟨cell_but t3 hX (fun e=>by have e9:cb=B.lm:=e;rw [← e9,hC.top] at hFl;cases hFl),cell_but p2 hX (fun e=>by have e9:w.heap.size=B.lm:=e;rw [← e9,hFe] at hFl;cases hFl)⟩)
 have HK1:Hid (But (fun k=>k=B.lm) W w1):=hide ((But.refl (fun k=>k=B.lm) W).drew.trans hb1 (fun _ _ e=>e))
 have hE1:w1.heap[w.heap.size]?=some (.cells (evC g k o a s) 35 (0,0)):=(HK1.out.block _ hleW (fun e=>by have e9:w.heap.size=B.lm:=e;rw [← e9,hFe] at hFl;cases hFl)).trans hE
 have HBW:Hid (But (fun k=>F k≠none) W.drew w1):=hide hB1
 have hg1:({ M with locks:=setF M.locks o none }:CS).gs g=some r:=hg
 have HSG:Hid (∀ X,But (HeS F B g) w1 X→X.cell? ⟨cb,1,none⟩=some (.map (some B.gm))∧X.cell? ⟨w.heap.size,0,none⟩=some (.int .i64 g)∧X.cell? ⟨w.heap.size,2,none⟩=some (.int .u64 o)∧(Instr.lookup 108 (.map (some B.gm)) (.int .i64 g) false).run Tryz.prog X=.ok (.pointer (some ⟨B.gb g,0,none⟩)) X):=hide (fun X hX=>hC1.heRead hg1 ho hE1 hFe hX)
 have hC1d:Ck w1.drew cb B F { M with locks:=setF M.locks o none } (N+1):=hC1.below (Below.refl _ _).drew
 have HC1:=hide hC1
 have HC1d:=hide hC1d
 have HG1:=hide hg1
 have HP:=hide (rise_remove (rb:=B.gb g) (ro:=0) (k:=o) (hC1d.gor g r hg1 nf).2 rfl (hC1d.he g r hg1 nf) (hC1d.goP hg1) (by have:=(hok.gor g r hg).2.2.2.1;have:=hok.tk;omega) hl)
 have HO:=hide ho
 clear h hb hW hmax hC hCd hE p0 p1 p2 p3 p4 hm1 hm1' hC1 hb1 hB1 t3 hFl hFe hE1 hC1d hg1 hg hok ho hl
 unfold gPtr evC
 unfold evC at HW
 go_enter Tryz.func92,Tryz.ntmps92
 go_wp2_with fail
 rw [← HW.out]
 clear HW
 go_region_held3 (fun X=>X.cell? ⟨cb,3,none⟩=some (.map (some B.lm))∧X.cell? ⟨w.heap.size,2,none⟩=some (.int .u64 o))
  (first|with_reducible exact HSL.out _ (But.refl _ _)|with_reducible exact HSL.out _ (But.refl _ _).drew|with_reducible exact HSL.out _ HK1.out)
  (fail)
 clear HSL hup
 go_wp2_with fail
 go_region_held3 (fun X=>X.cell? ⟨cb,1,none⟩=some (.map (some B.gm))∧X.cell? ⟨w.heap.size,0,none⟩=some (.int .i64 g)∧X.cell? ⟨w.heap.size,2,none⟩=some (.int .u64 o)∧(Instr.lookup 108 (.map (some B.gm)) (.int .i64 g) false).run Tryz.prog X=.ok (.pointer (some ⟨B.gb g,0,none⟩)) X)
  (first|with_reducible exact HSG.out _ (But.refl _ _)|with_reducible exact HSG.out _ (But.refl _ _).drew|with_reducible exact HSG.out _ HK3.out)
  (first|(go_at_call 146;go_must (refine HP.out.mono ?_;rintro e w3 ⟨rfl,hrp⟩;have HRP:=hide hrp;have HK3:Hid (But (HeS F B g) w1 w3):=hide ((But.refl (HeS F B g) w1).drew.trans hrp.choose_spec.2.2 (fun _ _ e=>e));clear hrp)))
 go_wp2
 go_end0
 exact ⟨rfl,CkR.below HB.out (CkR.below (Below.refl _ _).drew (CkR.trans (FEx.refl _ _) HBW.out (CkR.below (Below.refl _ _).drew (HC1d.out.setH HG1.out HRP.out))))⟩
end
end Go.Proofs.YtimgkhdgliojgaaGreatDoor
