import Derived.Test.YthgelfdefkbfeaaGreatDoorZu16
set_option maxRecDepth 8000
set_option maxHeartbeats 8000000
set_option linter.unusedVariables false
namespace Go.Proofs.YthgelfdefkbfeaaGreatDoor
open Go.RowKit Go.Maps
section
variable {w w' : World} {cb : Nat} {B : Bl} {F : Nat → Option Lb} {M : CS} {N : Nat} {g k o a : Int} {s : Value}
theorem mayAcquire_any (h:Ck w cb B F M N) (ho:EOk g o a) :
  Calls Tryz.prog 68 #[gPtr cb,.agg (evC g k o a s)] w fun e w'=>e=.returned (.int .i64 (if 0 < M.times o then 4 else 0))∧Below w.heap.size w w':=by
 obtain ⟨W,hW⟩:∃ W,W=w.alloc (.cells (evC g k o a s) 43):=⟨_,rfl⟩
 have hb:Below w.heap.size w W:=by rw [hW];exact below_alloc1 w _
 have hC:=h.below hb
 have hE:W.heap[w.heap.size]?=some (.cells (evC g k o a s) 43 (0,0)):=by rw [hW];exact heap_new _ _
 obtain ⟨p0,p1,p2,p3,p4⟩:=evc0 hE
 obtain ⟨R,hR⟩:∃ R:Int,R=(if 0 < M.times o then 4 else 0:Int):=⟨_,rfl⟩
 rw [← hR]
 have HR:=hide hR
 have HB:=hide hb
 have HW:=hide hW
 have HC:=hide hC
 have HE:=hide hE
 have hlt:=h.clt
 have hltW:cb < W.heap.size:=hC.clt
 have hleW:w.heap.size < W.heap.size:=(Array.getElem?_eq_some_iff.1 hE).1
 have HO:=hide ho
 have t3:=hC.c3
 have hl:=fun q=>(hC.drew q).lkL ho
 have fl1:=fldL1
 clear h hC hb hW hR hE ho
 unfold gPtr evC
 unfold evC at HW
 generalize M.times o=tm at *
 generalize M.toWrite o=tw at *
 go_enter Tryz.func68,Tryz.ntmps68
 go_wp2_with fail
 rw [← HW.out]
 clear HW
 go_quiet (fail)
 by_cases hc:0 < tm
 ·have HN:Hid (R=4):=hide (by rw [HR.out];rw [if_pos hc])
  clear HR
  go_wp2
  go_ret
  exact ⟨by rw [HN.out];rfl,below_drewN HB.out _⟩
 ·have hd:decide (0 < tm)=false:=decide_eq_false hc
  have HN:Hid (R=0):=hide (by rw [HR.out];rw [if_neg hc])
  clear HR
  go_wp2
  go_ret
  exact ⟨by rw [HN.out];rfl,below_drewN HB.out _⟩
theorem mayAcquireToRead_any (h:Ck w cb B F M N) (ho:EOk g o a) :
  Calls Tryz.prog 72 #[gPtr cb,.agg (evC g k o a s)] w fun e w'=>e=.returned (.int .i64 (if M.toWrite o=true then 6 else 0))∧Below w.heap.size w w':=by
 obtain ⟨W,hW⟩:∃ W,W=w.alloc (.cells (evC g k o a s) 43):=⟨_,rfl⟩
 have hb:Below w.heap.size w W:=by rw [hW];exact below_alloc1 w _
 have hC:=h.below hb
 have hE:W.heap[w.heap.size]?=some (.cells (evC g k o a s) 43 (0,0)):=by rw [hW];exact heap_new _ _
 obtain ⟨p0,p1,p2,p3,p4⟩:=evc0 hE
 obtain ⟨R,hR⟩:∃ R:Int,R=(if M.toWrite o=true then 6 else 0:Int):=⟨_,rfl⟩
 rw [← hR]
 have HR:=hide hR
 have HB:=hide hb
 have HW:=hide hW
 have HC:=hide hC
 have HE:=hide hE
 have hlt:=h.clt
 have hltW:cb < W.heap.size:=hC.clt
 have hleW:w.heap.size < W.heap.size:=(Array.getElem?_eq_some_iff.1 hE).1
 have HO:=hide ho
 have t3:=hC.c3
 have hl:=fun q=>(hC.drew q).lkL ho
 have fl0:=fldL0
 clear h hC hb hW hR hE ho
 unfold gPtr evC
 unfold evC at HW
 generalize M.times o=tm at *
 generalize M.toWrite o=tw at *
 go_enter Tryz.func72,Tryz.ntmps72
 go_wp2_with fail
 rw [← HW.out]
 clear HW
 go_quiet (fail)
 cases tw with
 | true =>
  have HN:Hid (R=6):=hide (by rw [HR.out];rw [if_pos rfl])
  clear HR
  go_wp2
  go_ret
  exact ⟨by rw [HN.out];rfl,below_drewN HB.out _⟩
 | false =>
  have HN:Hid (R=0):=hide (by rw [HR.out];rw [if_neg (by simp)])
  clear HR
  go_wp2
  go_ret
  exact ⟨by rw [HN.out];rfl,below_drewN HB.out _⟩
theorem mayFork_any (h:Ck w cb B F M N) (ho:EOk g o a) (ha:a≤65535) :
  Calls Tryz.prog 76 #[gPtr cb,.agg (evC g k o a s)] w fun e w'=>e=.returned (.int .i64 (if (M.gs a).isSome=true then 8 else 0))∧Below w.heap.size w w':=by
 obtain ⟨W,hW⟩:∃ W,W=w.alloc (.cells (evC g k o a s) 43):=⟨_,rfl⟩
 have hb:Below w.heap.size w W:=by rw [hW];exact below_alloc1 w _
 have hC:=h.below hb
 have hE:W.heap[w.heap.size]?=some (.cells (evC g k o a s) 43 (0,0)):=by rw [hW];exact heap_new _ _
 obtain ⟨p0,p1,p2,p3,p4⟩:=evc0 hE
 obtain ⟨R,hR⟩:∃ R:Int,R=(if (M.gs a).isSome=true then 8 else 0:Int):=⟨_,rfl⟩
 rw [← hR]
 have HR:=hide hR
 have HB:=hide hb
 have HW:=hide hW
 have HC:=hide hC
 have HE:=hide hE
 have hlt:=h.clt
 have hltW:cb < W.heap.size:=hC.clt
 have hleW:w.heap.size < W.heap.size:=(Array.getElem?_eq_some_iff.1 hE).1
 have HO:=hide ho
 have t1:=hC.c1
 have hl:=fun q=>(hC.drew q).lkG (x:=a) (by have:=ho.a0;omega) (by omega)
 have ha0:=ho.a0
 unfold gAd at hl
 clear h hC hb hW hR hE ho
 unfold gPtr evC
 unfold evC at HW
 go_enter Tryz.func76,Tryz.ntmps76
 go_wp2_with fail
 rw [← HW.out]
 clear HW
 cases hg:M.gs a with
 | none =>
  rw [hg] at hl HR
  dsimp only at hl
  go_quiet (fail)
  have HN:Hid (R=0):=hide (by rw [HR.out];rfl)
  clear HR
  go_wp2
  go_ret
  exact ⟨by rw [HN.out];rfl,below_drewN HB.out _⟩
 | some r =>
  rw [hg] at hl HR
  dsimp only at hl
  go_quiet (fail)
  have HN:Hid (R=8):=hide (by rw [HR.out];rfl)
  clear HR
  go_wp2
  go_ret
  exact ⟨by rw [HN.out];rfl,below_drewN HB.out _⟩
theorem mayMake_any (h:Ck w cb B F M N) (ho:EOk g o a) :
  Calls Tryz.prog 80 #[gPtr cb,.agg (evC g k o a s)] w fun e w'=>e=.returned (.int .i64 (if (M.chans o).isSome=true then 13 else 0))∧Below w.heap.size w w':=by
 obtain ⟨W,hW⟩:∃ W,W=w.alloc (.cells (evC g k o a s) 43):=⟨_,rfl⟩
 have hb:Below w.heap.size w W:=by rw [hW];exact below_alloc1 w _
 have hC:=h.below hb
 have hE:W.heap[w.heap.size]?=some (.cells (evC g k o a s) 43 (0,0)):=by rw [hW];exact heap_new _ _
 obtain ⟨p0,p1,p2,p3,p4⟩:=evc0 hE
 obtain ⟨R,hR⟩:∃ R:Int,R=(if (M.chans o).isSome=true then 13 else 0:Int):=⟨_,rfl⟩
 rw [← hR]
 have HR:=hide hR
 have HB:=hide hb
 have HW:=hide hW
 have HC:=hide hC
 have HE:=hide hE
 have hlt:=h.clt
 have hltW:cb < W.heap.size:=hC.clt
 have hleW:w.heap.size < W.heap.size:=(Array.getElem?_eq_some_iff.1 hE).1
 have HO:=hide ho
 have t4:=hC.c4
 have hl:=fun q=>(hC.drew q).lkC ho
 unfold cAd at hl
 clear h hC hb hW hR hE ho
 unfold gPtr evC
 unfold evC at HW
 go_enter Tryz.func80,Tryz.ntmps80
 go_wp2_with fail
 rw [← HW.out]
 clear HW
 cases hg:M.chans o with
 | none =>
  rw [hg] at hl HR
  dsimp only at hl
  go_quiet (fail)
  have HN:Hid (R=0):=hide (by rw [HR.out];rfl)
  clear HR
  go_wp2
  go_ret
  exact ⟨by rw [HN.out];rfl,below_drewN HB.out _⟩
 | some r =>
  rw [hg] at hl HR
  dsimp only at hl
  go_quiet (fail)
  have HN:Hid (R=13):=hide (by rw [HR.out];rfl)
  clear HR
  go_wp2
  go_ret
  exact ⟨by rw [HN.out];rfl,below_drewN HB.out _⟩
theorem mayRelease_any (h:Ck w cb B F M N) (ho:EOk g o a) {r:Gor} (hg:M.gs g=some r) :
  Calls Tryz.prog 70 #[gPtr cb,.agg (evC g k o a s)] w fun e w'=>e=.returned (.int .i64 (if M.toWrite o=true∧has o r.held=true then 0 else 5))∧Below w.heap.size w w':=by
 obtain ⟨W,hW⟩:∃ W,W=w.alloc (.cells (evC g k o a s) 43):=⟨_,rfl⟩
 have hb:Below w.heap.size w W:=by rw [hW];exact below_alloc1 w _
 have hC:=h.below hb
 have hE:W.heap[w.heap.size]?=some (.cells (evC g k o a s) 43 (0,0)):=by rw [hW];exact heap_new _ _
 obtain ⟨p0,p1,p2,p3,p4⟩:=evc0 hE
 obtain ⟨R,hR⟩:∃ R:Int,R=(if M.toWrite o=true∧has o r.held=true then 0 else 5:Int):=⟨_,rfl⟩
 rw [← hR]
 have HR:=hide hR
 have HB:=hide hb
 have HW:=hide hW
 have HC:=hide hC
 have HE:=hide hE
 have hlt:=h.clt
 have hltW:cb < W.heap.size:=hC.clt
 have hleW:w.heap.size < W.heap.size:=(Array.getElem?_eq_some_iff.1 hE).1
 have HO:=hide ho
 have t1:=hC.c1
 have t3:=hC.c3
 have hl:=fun q=>(hC.drew q).lkL ho
 have fl0:=fldL0
 have HS:Hid (∀ X,Below W.heap.size W X→X.cell? ⟨cb,1,none⟩=some (.map (some B.gm))∧X.cell? ⟨cb,3,none⟩=some (.map (some B.lm))∧X.cell? ⟨w.heap.size,0,none⟩=some (.int .i64 g)∧X.cell? ⟨w.heap.size,2,none⟩=some (.int .u64 o)∧(Instr.lookup 72 (.map (some B.lm)) (.int .u64 o) false).run Tryz.prog X=.ok (.agg #[.bool (M.toWrite o),.int .i64 (M.times o)]) X∧(Instr.lookup 71 (.map (some B.gm)) (.int .i64 g) false).run Tryz.prog X=.ok (.pointer (some ⟨B.gb g,0,none⟩)) X):=hide (fun X hX=>by
  have hCX:=hC.below hX
  refine ⟨hCX.c1,hCX.c3,(hX.cell (p:=⟨w.heap.size,0,none⟩) hleW).trans p0,(hX.cell (p:=⟨w.heap.size,2,none⟩) hleW).trans p2,hCX.lkL ho,?_⟩
  have h9:=hCX.lkG (x:=g) (by have:=ho.g0;omega) (by have:=ho.g1;omega)
  unfold gAd at h9
  rw [hg] at h9
  exact h9)
 have HQ:=hide (fun X (hX:Below W.heap.size W X)=>rise_has (rb:=B.gb g) (ro:=0) (k:=o) (cell_at (v:=B.gv g) (hC.below hX |>.gor g r hg nf).2 rfl) ((hC.below hX).he g r hg nf))
 have HHas:Hid (has o r.held=(look o r.held).isSome):=hide rfl
 generalize (look o r.held).isSome=hs at *
 rw [HHas.out] at HR
 clear HHas
 clear h hC hb hW hR hE ho hg
 unfold gPtr evC
 unfold evC at HW
 generalize M.times o=tm at *
 generalize M.toWrite o=tw at *
 go_enter Tryz.func70,Tryz.ntmps70
 go_wp2_with fail
 rw [← HW.out]
 clear HW
 cases tw with
 | false =>
  go_quiet (fail)
  have HN:Hid (R=5):=hide (by rw [HR.out];simp)
  clear HR
  go_wp2
  go_ret
  exact ⟨by rw [HN.out];rfl,below_drewN HB.out _⟩
 | true =>
  go_region_held3 (fun X=>X.cell? ⟨cb,1,none⟩=some (.map (some B.gm))∧X.cell? ⟨cb,3,none⟩=some (.map (some B.lm))∧X.cell? ⟨w.heap.size,0,none⟩=some (.int .i64 g)∧X.cell? ⟨w.heap.size,2,none⟩=some (.int .u64 o)∧(Instr.lookup 72 (.map (some B.lm)) (.int .u64 o) false).run Tryz.prog X=.ok (.agg #[.bool true,.int .i64 tm]) X∧(Instr.lookup 71 (.map (some B.gm)) (.int .i64 g) false).run Tryz.prog X=.ok (.pointer (some ⟨B.gb g,0,none⟩)) X)
   (first|with_reducible exact HS.out _ (Below.refl _ _)|with_reducible exact HS.out _ (Below.refl _ _).drew|with_reducible exact HS.out _ HB3.out)
   (first|(go_at_call 64;go_must (refine (HQ.out _ ((Below.refl _ _).drew)).mono ?_;rintro e w3 ⟨rfl,hb3⟩;have HB3:=hide (Below.on (Below.refl W.heap.size W).drew hb3);clear hb3)))
  have HB4:=hide (Below.on HB.out HB3.out)
  clear HS HQ HB3
  cases hs with
  | true =>
   have HN:Hid (R=0):=hide (by rw [HR.out];simp)
   clear HR
   go_wp2
   go_ret
   exact ⟨by rw [HN.out];rfl,HB4.out⟩
  | false =>
   have HN:Hid (R=5):=hide (by rw [HR.out];simp)
   clear HR
   go_wp2
   go_ret
   exact ⟨by rw [HN.out];rfl,HB4.out⟩
theorem mayReleaseToRead_any (h:Ck w cb B F M N) (ho:EOk g o a) {r:Gor} (hg:M.gs g=some r) :
  Calls Tryz.prog 74 #[gPtr cb,.agg (evC g k o a s)] w fun e w'=>e=.returned (.int .i64 (if M.toWrite o=true then 7 else if has o r.held=true then 0 else 7))∧Below w.heap.size w w':=by
 obtain ⟨W,hW⟩:∃ W,W=w.alloc (.cells (evC g k o a s) 43):=⟨_,rfl⟩
 have hb:Below w.heap.size w W:=by rw [hW];exact below_alloc1 w _
 have hC:=h.below hb
 have hE:W.heap[w.heap.size]?=some (.cells (evC g k o a s) 43 (0,0)):=by rw [hW];exact heap_new _ _
 obtain ⟨p0,p1,p2,p3,p4⟩:=evc0 hE
 obtain ⟨R,hR⟩:∃ R:Int,R=(if M.toWrite o=true then 7 else if has o r.held=true then 0 else 7:Int):=⟨_,rfl⟩
 rw [← hR]
 have HR:=hide hR
 have HB:=hide hb
 have HW:=hide hW
 have HC:=hide hC
 have HE:=hide hE
 have hlt:=h.clt
 have hltW:cb < W.heap.size:=hC.clt
 have hleW:w.heap.size < W.heap.size:=(Array.getElem?_eq_some_iff.1 hE).1
 have HO:=hide ho
 have t1:=hC.c1
 have t3:=hC.c3
 have hl:=fun q=>(hC.drew q).lkL ho
 have fl0:=fldL0
 have HS:Hid (∀ X,Below W.heap.size W X→X.cell? ⟨cb,1,none⟩=some (.map (some B.gm))∧X.cell? ⟨cb,3,none⟩=some (.map (some B.lm))∧X.cell? ⟨w.heap.size,0,none⟩=some (.int .i64 g)∧X.cell? ⟨w.heap.size,2,none⟩=some (.int .u64 o)∧(Instr.lookup 72 (.map (some B.lm)) (.int .u64 o) false).run Tryz.prog X=.ok (.agg #[.bool (M.toWrite o),.int .i64 (M.times o)]) X∧(Instr.lookup 71 (.map (some B.gm)) (.int .i64 g) false).run Tryz.prog X=.ok (.pointer (some ⟨B.gb g,0,none⟩)) X):=hide (fun X hX=>by
  have hCX:=hC.below hX
  refine ⟨hCX.c1,hCX.c3,(hX.cell (p:=⟨w.heap.size,0,none⟩) hleW).trans p0,(hX.cell (p:=⟨w.heap.size,2,none⟩) hleW).trans p2,hCX.lkL ho,?_⟩
  have h9:=hCX.lkG (x:=g) (by have:=ho.g0;omega) (by have:=ho.g1;omega)
  unfold gAd at h9
  rw [hg] at h9
  exact h9)
 have HQ:=hide (fun X (hX:Below W.heap.size W X)=>rise_has (rb:=B.gb g) (ro:=0) (k:=o) (cell_at (v:=B.gv g) (hC.below hX |>.gor g r hg nf).2 rfl) ((hC.below hX).he g r hg nf))
 have HHas:Hid (has o r.held=(look o r.held).isSome):=hide rfl
 generalize (look o r.held).isSome=hs at *
 rw [HHas.out] at HR
 clear HHas
 clear h hC hb hW hR hE ho hg
 unfold gPtr evC
 unfold evC at HW
 generalize M.times o=tm at *
 generalize M.toWrite o=tw at *
 go_enter Tryz.func74,Tryz.ntmps74
 go_wp2_with fail
 rw [← HW.out]
 clear HW
 cases tw with
 | true =>
  go_quiet (fail)
  have HN:Hid (R=7):=hide (by rw [HR.out];simp)
  clear HR
  go_wp2
  go_ret
  exact ⟨by rw [HN.out];rfl,below_drewN HB.out _⟩
 | false =>
  go_region_held3 (fun X=>X.cell? ⟨cb,1,none⟩=some (.map (some B.gm))∧X.cell? ⟨cb,3,none⟩=some (.map (some B.lm))∧X.cell? ⟨w.heap.size,0,none⟩=some (.int .i64 g)∧X.cell? ⟨w.heap.size,2,none⟩=some (.int .u64 o)∧(Instr.lookup 72 (.map (some B.lm)) (.int .u64 o) false).run Tryz.prog X=.ok (.agg #[.bool false,.int .i64 tm]) X∧(Instr.lookup 71 (.map (some B.gm)) (.int .i64 g) false).run Tryz.prog X=.ok (.pointer (some ⟨B.gb g,0,none⟩)) X)
   (first|with_reducible exact HS.out _ (Below.refl _ _)|with_reducible exact HS.out _ (Below.refl _ _).drew|with_reducible exact HS.out _ HB3.out)
   (first|(go_at_call 64;go_must (refine (HQ.out _ ((Below.refl _ _).drew)).mono ?_;rintro e w3 ⟨rfl,hb3⟩;have HB3:=hide (Below.on (Below.refl W.heap.size W).drew hb3);clear hb3)))
  have HB4:=hide (Below.on HB.out HB3.out)
  clear HS HQ HB3
  cases hs with
  | true =>
   have HN:Hid (R=0):=hide (by rw [HR.out];simp)
   clear HR
   go_wp2
   go_ret
   exact ⟨by rw [HN.out];rfl,HB4.out⟩
  | false =>
   have HN:Hid (R=7):=hide (by rw [HR.out];simp)
   clear HR
   go_wp2
   go_ret
   exact ⟨by rw [HN.out];rfl,HB4.out⟩
end
end Go.Proofs.YthgelfdefkbfeaaGreatDoor
namespace Go.Proofs.YthgelfdefkbfeaaGreatDoor
open Go.RowKit Go.Maps
section
variable {w w' : World} {cb : Nat} {B : Bl} {F : Nat → Option Lb} {M : CS} {N : Nat} {g k o a : Int} {s : Value}
theorem mayJoin_any (h:Ck w cb B F M N) (ho:EOk g o a) (ha:a≤65535) :
  Calls Tryz.prog 78 #[gPtr cb,.agg (evC g k o a s)] w fun e w'=>e=.returned (.int .i64 (match M.gs a with|none=>9|some q=>if has a M.alive=true then if a=g then 11 else if 0 < q.as_ then 12 else 0 else 10))∧Below w.heap.size w w':=by
 obtain ⟨W,hW⟩:∃ W,W=w.alloc (.cells (evC g k o a s) 43):=⟨_,rfl⟩
 have hb:Below w.heap.size w W:=by rw [hW];exact below_alloc1 w _
 have hC:=h.below hb
 have hE:W.heap[w.heap.size]?=some (.cells (evC g k o a s) 43 (0,0)):=by rw [hW];exact heap_new _ _
 obtain ⟨p0,p1,p2,p3,p4⟩:=evc0 hE
 obtain ⟨R,hR⟩:∃ R:Int,R=(match M.gs a with|none=>9|some q=>if has a M.alive=true then if a=g then 11 else if 0 < q.as_ then 12 else 0 else 10:Int):=⟨_,rfl⟩
 rw [← hR]
 have HR:=hide hR
 have HB:=hide hb
 have HW:=hide hW
 have HC:=hide hC
 have HE:=hide hE
 have hlt:=h.clt
 have hltW:cb < W.heap.size:=hC.clt
 have hleW:w.heap.size < W.heap.size:=(Array.getElem?_eq_some_iff.1 hE).1
 have HO:=hide ho
 have t1:=hC.c1
 have hl:=fun q=>(hC.drew q).lkG (x:=a) (by have:=ho.a0;omega) (by omega)
 have ha0:=ho.a0
 have hg0:=ho.g0
 have hg1:=ho.g1
 unfold gAd at hl
 clear h hC hb hW hR hE ho
 unfold gPtr evC
 unfold evC at HW
 go_enter Tryz.func78,Tryz.ntmps78
 go_wp2_with fail
 rw [← HW.out]
 clear HW
 cases hg:M.gs a with
 | none =>
  rw [hg] at hl HR
  dsimp only at hl HR
  go_quiet (fail)
  have HN:Hid (R=9):=hide (by rw [HR.out])
  clear HR
  go_wp2
  go_ret
  exact ⟨by rw [HN.out];rfl,below_drewN HB.out _⟩
 | some r =>
  rw [hg] at hl HR
  dsimp only at hl HR
  go_quiet (fail)
  obtain ⟨W2,hW2⟩:∃ W2,W2=W.drewN nq:=⟨_,rfl⟩
  rw [← hW2]
  have hb2:Below W.heap.size W W2:=by rw [hW2];exact below_drewN (Below.refl _ _) _
  have HB2:=hide hb2
  have HC2:=hide (HC.out.below hb2)
  have q0:W2.cell? ⟨w.heap.size,0,none⟩=some (.int .i64 g):=(hb2.cell (p:=⟨w.heap.size,0,none⟩) hleW).trans p0
  have q1:W2.cell? ⟨w.heap.size,1,none⟩=some (.int .i64 k):=(hb2.cell (p:=⟨w.heap.size,1,none⟩) hleW).trans p1
  have q2:W2.cell? ⟨w.heap.size,2,none⟩=some (.int .u64 o):=(hb2.cell (p:=⟨w.heap.size,2,none⟩) hleW).trans p2
  have q3:W2.cell? ⟨w.heap.size,3,none⟩=some (.int .u64 a):=(hb2.cell (p:=⟨w.heap.size,3,none⟩) hleW).trans p3
  have hle2:w.heap.size < W2.heap.size:=Nat.lt_of_lt_of_le hleW hb2.size
  clear hW2 hb2 p0 p1 p2 p3 p4
  have HQ:=hide (fun X (hX:Below W2.heap.size W2 X)=>rise_has (rb:=cb) (ro:=2) (k:=a) ((HC2.out.below hX).c2) ((HC2.out.below hX).al nf))
  have HHas:Hid (has a M.alive=(look a M.alive).isSome):=hide rfl
  generalize (look a M.alive).isSome=hs at *
  rw [HHas.out] at HR
  clear HHas hl
  have HS:Hid (∀ X,Below W2.heap.size W2 X→X.cell? ⟨w.heap.size,3,none⟩=some (.int .u64 a)):=hide (fun X hX=>(hX.cell (p:=⟨w.heap.size,3,none⟩) hle2).trans q3)
  go_wp2_with fail
  go_region_held3 (fun X=>X.cell? ⟨w.heap.size,3,none⟩=some (.int .u64 a))
   (first|with_reducible exact HS.out _ (Below.refl _ _)|with_reducible exact HS.out _ (Below.refl _ _).drew|with_reducible exact HS.out _ HB3.out)
   (first|(go_at_call 64;go_must (refine (HQ.out _ ((Below.refl _ _).drew)).mono ?_;rintro e w3 ⟨rfl,hb3⟩;have HB3:=hide (Below.on (Below.refl W2.heap.size W2).drew hb3);clear hb3)))
  have HB4:=hide (Below.on (Below.on HB.out HB2.out) HB3.out)
  cases hs with
  | false =>
   have HN:Hid (R=10):=hide (by rw [HR.out];simp)
   clear HR
   go_wp2
   go_ret
   exact ⟨by rw [HN.out];rfl,HB4.out⟩
  | true =>
   have r0:w3.cell? ⟨w.heap.size,0,none⟩=some (.int .i64 g):=(HB3.out.cell (p:=⟨w.heap.size,0,none⟩) hle2).trans q0
   have r3:w3.cell? ⟨w.heap.size,3,none⟩=some (.int .u64 a):=(HB3.out.cell (p:=⟨w.heap.size,3,none⟩) hle2).trans q3
   have HWt:=hide (waits_any ((HC2.out.below HB3.out).gor a r hg nf).2)
   clear HS HQ q0 q1 q2 q3
   by_cases he:a=g
   ·have hd:(a == g)=true:=by rw [beq_iff_eq];exact he
    have HN:Hid (R=11):=hide (by rw [HR.out];simp [he])
    clear HR
    go_wp2
    go_ret
    exact ⟨by rw [HN.out];rfl,HB4.out⟩
   ·have hd:(a == g)=false:=by rw [beq_eq_false_iff_ne];exact he
    go_wp2_with fail
    refine HWt.out.mono ?_
    rintro e w4 ⟨rfl,hw4⟩
    rw [hw4]
    clear hw4 w4 HWt
    by_cases hw:0 < r.as_
    ·rw [decide_eq_true hw]
     have HN:Hid (R=12):=hide (by rw [HR.out];simp [he,hw])
     clear HR
     go_wp2
     go_ret
     exact ⟨by rw [HN.out];rfl,HB4.out⟩
    ·rw [decide_eq_false hw]
     have HN:Hid (R=0):=hide (by rw [HR.out];simp [he,hw])
     clear HR
     go_wp2
     go_ret
     exact ⟨by rw [HN.out];rfl,HB4.out⟩
theorem mayAct_any (h:Ck w cb B F M N) (ho:EOk g o a) :
  Calls Tryz.prog 46 #[gPtr cb,.agg (evC g k o a s)] w fun e w'=>e=.returned (.int .i64 (match M.gs g with|none=>1|some r=>if has g M.alive=true then if 0 < r.as_∧(k≠11∨o≠r.to) then 3 else 0 else 2))∧Below w.heap.size w w':=by
 obtain ⟨W,hW⟩:∃ W,W=w.alloc (.cells (evC g k o a s) 43):=⟨_,rfl⟩
 have hb:Below w.heap.size w W:=by rw [hW];exact below_alloc1 w _
 have hC:=h.below hb
 have hE:W.heap[w.heap.size]?=some (.cells (evC g k o a s) 43 (0,0)):=by rw [hW];exact heap_new _ _
 obtain ⟨p0,p1,p2,p3,p4⟩:=evc0 hE
 obtain ⟨R,hR⟩:∃ R:Int,R=(match M.gs g with|none=>1|some r=>if has g M.alive=true then if 0 < r.as_∧(k≠11∨o≠r.to) then 3 else 0 else 2:Int):=⟨_,rfl⟩
 rw [← hR]
 have HR:=hide hR
 have HB:=hide hb
 have HW:=hide hW
 have HC:=hide hC
 have HE:=hide hE
 have hlt:=h.clt
 have hltW:cb < W.heap.size:=hC.clt
 have hleW:w.heap.size < W.heap.size:=(Array.getElem?_eq_some_iff.1 hE).1
 have HO:=hide ho
 have t1:=hC.c1
 have hl:=fun q=>(hC.drew q).lkG (x:=g) (by have:=ho.g0;omega) (by have:=ho.g1;omega)
 have hg0:=ho.g0
 have hg1:=ho.g1
 have hwu:IntKind.u64.wrap g=g:=by rw [IntKind.wrap_u64];omega
 unfold gAd at hl
 clear h hC hb hW hR hE ho
 unfold gPtr evC
 unfold evC at HW
 go_enter Tryz.func46,Tryz.ntmps46
 go_wp2_with fail
 rw [← HW.out]
 clear HW
 cases hg:M.gs g with
 | none =>
  rw [hg] at hl HR
  dsimp only at hl HR
  go_quiet (fail)
  have HN:Hid (R=1):=hide (by rw [HR.out])
  clear HR
  go_wp2
  go_ret
  exact ⟨by rw [HN.out];rfl,below_drewN HB.out _⟩
 | some r =>
  rw [hg] at hl HR
  dsimp only at hl HR
  go_quiet (fail)
  obtain ⟨W2,hW2⟩:∃ W2,W2=W.drewN nq:=⟨_,rfl⟩
  rw [← hW2]
  have hb2:Below W.heap.size W W2:=by rw [hW2];exact below_drewN (Below.refl _ _) _
  have HB2:=hide hb2
  have HC2:=hide (HC.out.below hb2)
  have q0:W2.cell? ⟨w.heap.size,0,none⟩=some (.int .i64 g):=(hb2.cell (p:=⟨w.heap.size,0,none⟩) hleW).trans p0
  have q1:W2.cell? ⟨w.heap.size,1,none⟩=some (.int .i64 k):=(hb2.cell (p:=⟨w.heap.size,1,none⟩) hleW).trans p1
  have q2:W2.cell? ⟨w.heap.size,2,none⟩=some (.int .u64 o):=(hb2.cell (p:=⟨w.heap.size,2,none⟩) hleW).trans p2
  have q3:W2.cell? ⟨w.heap.size,3,none⟩=some (.int .u64 a):=(hb2.cell (p:=⟨w.heap.size,3,none⟩) hleW).trans p3
  have hle2:w.heap.size < W2.heap.size:=Nat.lt_of_lt_of_le hleW hb2.size
  clear hW2 hb2 p0 p1 p2 p3 p4
  have HQ:=hide (fun X (hX:Below W2.heap.size W2 X)=>rise_has (rb:=cb) (ro:=2) (k:=g) ((HC2.out.below hX).c2) ((HC2.out.below hX).al nf))
  have HHas:Hid (has g M.alive=(look g M.alive).isSome):=hide rfl
  generalize (look g M.alive).isSome=hs at *
  rw [HHas.out] at HR
  clear HHas hl
  have HS:Hid (∀ X,Below W2.heap.size W2 X→X.cell? ⟨w.heap.size,0,none⟩=some (.int .i64 g)):=hide (fun X hX=>(hX.cell (p:=⟨w.heap.size,0,none⟩) hle2).trans q0)
  go_wp2_with fail
  go_region_held3 (fun X=>X.cell? ⟨w.heap.size,0,none⟩=some (.int .i64 g))
   (first|with_reducible exact HS.out _ (Below.refl _ _)|with_reducible exact HS.out _ (Below.refl _ _).drew|with_reducible exact HS.out _ HB3.out)
   (first|(go_at_call 64;go_must (refine (HQ.out _ ((Below.refl _ _).drew)).mono ?_;rintro e w3 ⟨rfl,hb3⟩;have HB3:=hide (Below.on (Below.refl W2.heap.size W2).drew hb3);clear hb3)))
  have HB4:=hide (Below.on (Below.on HB.out HB2.out) HB3.out)
  cases hs with
  | false =>
   have HN:Hid (R=2):=hide (by rw [HR.out];simp)
   clear HR
   go_wp2
   go_ret
   exact ⟨by rw [HN.out];rfl,HB4.out⟩
  | true =>
   have r1:w3.cell? ⟨w.heap.size,1,none⟩=some (.int .i64 k):=(HB3.out.cell (p:=⟨w.heap.size,1,none⟩) hle2).trans q1
   have r2:w3.cell? ⟨w.heap.size,2,none⟩=some (.int .u64 o):=(HB3.out.cell (p:=⟨w.heap.size,2,none⟩) hle2).trans q2
   have hgo:=((HC2.out.below HB3.out).gor g r hg nf).2
   have hgd:∀ q,(w3.drewN q).heap[B.gb g]?=some (.cells (gorC (B.gv g) r) 123 (0,0)):=fun _=>hgo
   have r5:w3.cell? ⟨B.gb g,1,none⟩=some (.int .u64 r.to):=cell_at hgo rfl
   have HWt:=hide (fun q=>waits_any (hgd q))
   clear HS HQ q0 q1 q2 q3 hgo hgd
   go_wp2_with fail
   by_cases hw:0 < r.as_
   ·rw [decide_eq_true hw] at HWt
    by_cases h11:k=11
    ·have hd1:(k != 11)=false:=by simp [h11]
     by_cases hto:o=r.to
     ·have hd2:(o != r.to)=false:=by simp [hto]
      go_quiet ((go_at_call 65;exact Calls.quiet_of_same (HWt.out _)))
      have HN:Hid (R=0):=hide (by rw [HR.out];simp [h11,hto])
      clear HR
      go_wp2
      go_ret
      exact ⟨by rw [HN.out];rfl,below_drewN HB4.out _⟩
     ·have hd2:(o != r.to)=true:=by simp [hto]
      go_quiet ((go_at_call 65;exact Calls.quiet_of_same (HWt.out _)))
      have HN:Hid (R=3):=hide (by rw [HR.out];simp [hw,hto])
      clear HR
      go_wp2
      go_ret
      exact ⟨by rw [HN.out];rfl,below_drewN HB4.out _⟩
    ·have hd1:(k != 11)=true:=by simp [h11]
     go_quiet ((go_at_call 65;exact Calls.quiet_of_same (HWt.out _)))
     have HN:Hid (R=3):=hide (by rw [HR.out];simp [hw,h11])
     clear HR
     go_wp2
     go_ret
     exact ⟨by rw [HN.out];rfl,below_drewN HB4.out _⟩
   ·rw [decide_eq_false hw] at HWt
    go_quiet ((go_at_call 65;exact Calls.quiet_of_same (HWt.out _)))
    have HN:Hid (R=0):=hide (by rw [HR.out];simp [hw])
    clear HR
    go_wp2
    go_ret
    exact ⟨by rw [HN.out];rfl,below_drewN HB4.out _⟩
end
end Go.Proofs.YthgelfdefkbfeaaGreatDoor
