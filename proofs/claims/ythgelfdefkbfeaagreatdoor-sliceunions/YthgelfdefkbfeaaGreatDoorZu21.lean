import Derived.Test.YthgelfdefkbfeaaGreatDoorZu19
set_option maxRecDepth 8000
set_option maxHeartbeats 8000000
set_option linter.unusedVariables false
namespace Go.Proofs.YthgelfdefkbfeaaGreatDoor
open Go.RowKit Go.Maps
section
variable {w w' : World} {cb : Nat} {B : Bl} {F : Nat → Option Lb} {M : CS} {N : Nat} {g k o a : Int} {s : Value}
theorem CkX.noA (h:Ck w cb B F M N):¬ (fun k=>F k=some .al) cb:=by
 intro e
 have e1:F cb=some .al:=e
 rw [h.top] at e1
 cases e1
theorem CkX.noM (h:Ck w cb B F M N):¬ (fun k=>F k=some .me) cb:=by
 intro e
 have e1:F cb=some .me:=e
 rw [h.top] at e1
 cases e1
theorem begin_any {x:Int} (h:Ck w cb B F M N) (h0:0≤x) (h1:x≤65535) (hN:N≤2000000) (hal:(M.alive.length:Int)+1≤2000000) (hg:M.gs x=none) :
  Calls Tryz.prog 44 #[gPtr cb,.int .u64 x] w fun e w'=>e=.returned (.tuple #[])∧CkR w cb F { M with gs:=setF M.gs x (some ⟨[],0,0⟩),alive:=insE x 0 M.alive } (N+1) w':=by
 obtain ⟨W,hW⟩:∃ W,W=w.alloc (.cells (gorC (.slice none 0 0) ⟨[],0,0⟩) 123):=⟨_,rfl⟩
 have hb:Below w.heap.size w W:=by rw [hW];exact below_alloc1 w _
 have hC:=h.below hb
 have hmax:N < maxLen:=by unfold maxLen;omega
 have hltW:cb < W.heap.size:=hC.clt
 have t1:=h.c1
 have hlt:=h.clt
 obtain ⟨w1,hup,hm1,hb1⟩:=(hC.mg nf).2.put lawI Tryz.underlying71 hmax (x:=x) (keyI (by omega) (by omega)) (gPtr w.heap.size)
 obtain ⟨k1,k2,k3⟩:=h.newG (Nat.le_succ N) hg hW hm1 hb1
 have HP:=hide (rise_put (rb:=cb) (ro:=2) (k:=x) (x:=0) (k1.blk nf) rfl (k1.al nf) k1.noA hal)
 have HC1:=hide k1
 have HF:=hide k2
 have HBt:=hide k3
 have hx:IntKind.i64.wrap x=x:=by rw [IntKind.wrap_i64];omega
 rw [hW] at hup
 have hup':(Instr.mapUpdate 71 (.map (some B.gm)) (.int .i64 x) (.pointer (some ⟨w.heap.size,0,none⟩))).run Tryz.prog (w.alloc (.cells #[.slice none 0 0,.int .u64 0,.int .i64 0] 123))=.ok () w1:=hup
 have hl1:cb < w1.heap.size:=HC1.out.clt
 clear hW hb hC hmax hup hm1 hb1 k1 k2 k3 hltW h
 unfold gPtr
 go_enter Tryz.func44,Tryz.ntmps44
 go_wp2_with fail
 refine HP.out.mono ?_
 rintro e w2 ⟨rfl,hrp⟩
 have HRP:=hide hrp
 clear hrp HP
 go_wp2
 go_end0
 exact ⟨rfl,CkR.trans HF.out HBt.out (HC1.out.setA HRP.out)⟩
theorem fork_any (h:Ck w cb B F M N) (ho:EOk g o a) (hN:N≤2000000) (hok:M.ok) (ha:a≤65535) (hg:M.gs a=none) :
  Calls Tryz.prog 77 #[gPtr cb,.agg (evC g k o a s)] w fun e w'=>e=.returned (.tuple #[])∧CkR w cb F { M with gs:=setF M.gs a (some ⟨[],0,0⟩),alive:=insE a 0 M.alive } (N+1) w':=by
 obtain ⟨W,hW⟩:∃ W,W=w.alloc (.cells (evC g k o a s) 43):=⟨_,rfl⟩
 have hb:Below w.heap.size w W:=by rw [hW];exact below_alloc1 w _
 have hC:=h.below hb
 have hCd:Ck W.drew cb B F M N:=hC.below (Below.refl _ _).drew
 have hE:W.heap[w.heap.size]?=some (.cells (evC g k o a s) 43 (0,0)):=by rw [hW];exact heap_new _ _
 obtain ⟨p0,p1,p2,p3,p4⟩:=evc0 hE
 have hmax:N < maxLen:=by unfold maxLen;omega
 have HB:=hide hb
 have HW:=hide hW
 have HC:=hide hC
 have hlt:=h.clt
 have hltW:cb < W.heap.size:=hC.clt
 have hleW:w.heap.size < W.heap.size:=(Array.getElem?_eq_some_iff.1 hE).1
 have hFe:F w.heap.size=none:=by
  cases hq:F w.heap.size with
  | none=>rfl
  | some l=>have:=h.lt _ _ hq;omega
 have HBg:=hide (begin_any hC ho.a0 ha hN (by have:=hok.al;have:=hok.tk;omega) hg)
 unfold gPtr at HBg
 have HO:=hide ho
 clear h hb hW hmax hC hCd hE hFe hok ho
 unfold gPtr evC
 unfold evC at HW
 go_enter Tryz.func77,Tryz.ntmps77
 go_wp2_with fail
 rw [← HW.out]
 clear HW
 refine HBg.out.mono ?_
 rintro e w2 ⟨rfl,hr⟩
 have HR:=hide hr
 clear hr
 go_wp2
 go_end0
 exact ⟨rfl,CkR.below HB.out HR.out⟩
theorem join_any (h:Ck w cb B F M N) (ho:EOk g o a) (hN:N≤2000000) (hok:M.ok) {u:Int} (hl:look a M.alive=some u) :
  Calls Tryz.prog 79 #[gPtr cb,.agg (evC g k o a s)] w fun e w'=>e=.returned (.tuple #[])∧CkR w cb F { M with alive:=delE a M.alive } N w':=by
 obtain ⟨W,hW⟩:∃ W,W=w.alloc (.cells (evC g k o a s) 43):=⟨_,rfl⟩
 have hb:Below w.heap.size w W:=by rw [hW];exact below_alloc1 w _
 have hC:=h.below hb
 have hCd:Ck W.drew cb B F M N:=hC.below (Below.refl _ _).drew
 have hE:W.heap[w.heap.size]?=some (.cells (evC g k o a s) 43 (0,0)):=by rw [hW];exact heap_new _ _
 obtain ⟨p0,p1,p2,p3,p4⟩:=evc0 hE
 have hmax:N < maxLen:=by unfold maxLen;omega
 have HB:=hide hb
 have HW:=hide hW
 have HC:=hide hC
 have hlt:=h.clt
 have hltW:cb < W.heap.size:=hC.clt
 have hleW:w.heap.size < W.heap.size:=(Array.getElem?_eq_some_iff.1 hE).1
 have hFe:F w.heap.size=none:=by
  cases hq:F w.heap.size with
  | none=>rfl
  | some l=>have:=h.lt _ _ hq;omega
 have HP:=hide (rise_remove (rb:=cb) (ro:=2) (k:=a) (hCd.blk nf) rfl (hCd.al nf) hCd.noA (by have:=hok.al;have:=hok.tk;omega) hl)
 have HCd:=hide hCd
 have HSJ:Hid (∀ X,But (fun k=>F k≠none) W X→X.cell? ⟨w.heap.size,3,none⟩=some (.int .u64 a)):=hide (fun X hX=>cell_but p3 hX (fun e=>e hFe))
 have HO:=hide ho
 clear h hb hW hmax hC hCd hE hFe hok ho p0 p1 p2 p3 p4
 unfold gPtr evC
 unfold evC at HW
 go_enter Tryz.func79,Tryz.ntmps79
 go_wp2_with fail
 rw [← HW.out]
 clear HW
 go_region_held3 (fun X=>X.cell? ⟨w.heap.size,3,none⟩=some (.int .u64 a))
  (first|with_reducible exact HSJ.out _ (But.refl _ _)|with_reducible exact HSJ.out _ (But.refl _ _).drew|with_reducible exact HSJ.out _ HK3.out)
  (first|(go_at_call 131;go_must (refine HP.out.mono ?_;rintro e w3 ⟨rfl,hrp⟩;have HRP:=hide (HCd.out.setA hrp);have HK3:Hid (But (fun k=>F k≠none) W w3):=hide ((But.refl (fun k=>F k≠none) W).drew.trans HRP.out.choose_spec.choose_spec.2.2 (fun _ _ e=>e));clear hrp)))
 go_wp2
 go_end0
 exact ⟨rfl,CkR.below HB.out (CkR.below (Below.refl _ _).drew HRP.out)⟩
theorem allocate_any (h:Ck w cb B F M N) (ho:EOk g o a) (hN:N≤2000000) (hok:M.ok) (h1:1≤a) (h2:o+(a - 1)≤18446744073709551615) :
  Calls Tryz.prog 96 #[gPtr cb,.agg (evC g k o a s)] w fun e w'=>e=.returned (.tuple #[])∧CkR w cb F { M with mem:=insE (o+(a - 1)) o M.mem } N w':=by
 obtain ⟨W,hW⟩:∃ W,W=w.alloc (.cells (evC g k o a s) 43):=⟨_,rfl⟩
 have hb:Below w.heap.size w W:=by rw [hW];exact below_alloc1 w _
 have hC:=h.below hb
 have hCd:Ck W.drew cb B F M N:=hC.below (Below.refl _ _).drew
 have hE:W.heap[w.heap.size]?=some (.cells (evC g k o a s) 43 (0,0)):=by rw [hW];exact heap_new _ _
 obtain ⟨p0,p1,p2,p3,p4⟩:=evc0 hE
 have hmax:N < maxLen:=by unfold maxLen;omega
 have HB:=hide hb
 have HW:=hide hW
 have HC:=hide hC
 have hlt:=h.clt
 have hltW:cb < W.heap.size:=hC.clt
 have hleW:w.heap.size < W.heap.size:=(Array.getElem?_eq_some_iff.1 hE).1
 have hFe:F w.heap.size=none:=by
  cases hq:F w.heap.size with
  | none=>rfl
  | some l=>have:=h.lt _ _ hq;omega
 have HBy:=hide (bytesOf_any (w:=W) (g:=g) (k:=k) (s:=s) ho.o0 h1 h2 ho.a1)
 unfold evC at HBy
 have HOk:=hide hok
 have HO:=hide ho
 clear h hb hW hmax hC hCd hE hFe hok ho p0 p1 p2 p3 p4
 unfold gPtr evC
 unfold evC at HW
 go_enter Tryz.func96,Tryz.ntmps96
 go_wp2_with fail
 rw [← HW.out]
 clear HW
 refine HBy.out.mono ?_
 rintro e w2 ⟨rfl,hb2⟩
 have HB4:=hide (Below.on HB.out hb2)
 have HC2:=hide (HC.out.below hb2)
 have HP:=hide (rise_put (rb:=cb) (ro:=7) (k:=o+(a - 1)) (x:=o) (HC2.out.blk nf) rfl (HC2.out.me nf) HC2.out.noM (by have:=HOk.out.me;have:=HOk.out.tk;omega))
 have hl2:cb < w2.heap.size:=HC2.out.clt
 clear hb2 HBy
 generalize hla:o+(a - 1)=la at *
 have HLa:=hide hla
 clear hla
 go_wp2_with fail
 refine HP.out.mono ?_
 rintro e w3 ⟨rfl,hrp⟩
 have HRP:=hide hrp
 clear hrp HP
 go_wp2
 go_end0
 rw [HLa.out]
 exact ⟨rfl,CkR.below HB4.out (HC2.out.setM HRP.out)⟩
theorem free_any (h:Ck w cb B F M N) (ho:EOk g o a) (hN:N≤2000000) (hok:M.ok) (h1:1≤a) (h2:o+(a - 1)≤18446744073709551615) {u:Int} (hl:look (o+(a - 1)) M.mem=some u) :
  Calls Tryz.prog 98 #[gPtr cb,.agg (evC g k o a s)] w fun e w'=>e=.returned (.tuple #[])∧CkR w cb F { M with mem:=delE (o+(a - 1)) M.mem } N w':=by
 obtain ⟨W,hW⟩:∃ W,W=w.alloc (.cells (evC g k o a s) 43):=⟨_,rfl⟩
 have hb:Below w.heap.size w W:=by rw [hW];exact below_alloc1 w _
 have hC:=h.below hb
 have hCd:Ck W.drew cb B F M N:=hC.below (Below.refl _ _).drew
 have hE:W.heap[w.heap.size]?=some (.cells (evC g k o a s) 43 (0,0)):=by rw [hW];exact heap_new _ _
 obtain ⟨p0,p1,p2,p3,p4⟩:=evc0 hE
 have hmax:N < maxLen:=by unfold maxLen;omega
 have HB:=hide hb
 have HW:=hide hW
 have HC:=hide hC
 have hlt:=h.clt
 have hltW:cb < W.heap.size:=hC.clt
 have hleW:w.heap.size < W.heap.size:=(Array.getElem?_eq_some_iff.1 hE).1
 have hFe:F w.heap.size=none:=by
  cases hq:F w.heap.size with
  | none=>rfl
  | some l=>have:=h.lt _ _ hq;omega
 have HBy:=hide (bytesOf_any (w:=W) (g:=g) (k:=k) (s:=s) ho.o0 h1 h2 ho.a1)
 unfold evC at HBy
 have HOk:=hide hok
 have HL:=hide hl
 have HO:=hide ho
 clear h hb hW hmax hC hCd hE hFe hok ho p0 p1 p2 p3 p4 hl
 unfold gPtr evC
 unfold evC at HW
 go_enter Tryz.func98,Tryz.ntmps98
 go_wp2_with fail
 rw [← HW.out]
 clear HW
 refine HBy.out.mono ?_
 rintro e w2 ⟨rfl,hb2⟩
 have HB4:=hide (Below.on HB.out hb2)
 have HC2:=hide (HC.out.below hb2)
 have HP:=hide (rise_remove (rb:=cb) (ro:=7) (k:=o+(a - 1)) (HC2.out.blk nf) rfl (HC2.out.me nf) HC2.out.noM (by have:=HOk.out.me;have:=HOk.out.tk;omega) HL.out)
 have hl2:cb < w2.heap.size:=HC2.out.clt
 clear hb2 HBy
 generalize hla:o+(a - 1)=la at *
 have HLa:=hide hla
 clear hla
 go_wp2_with fail
 refine HP.out.mono ?_
 rintro e w3 ⟨rfl,hrp⟩
 have HRP:=hide hrp
 clear hrp HP
 go_wp2
 go_end0
 rw [HLa.out]
 exact ⟨rfl,CkR.below HB4.out (HC2.out.setM HRP.out)⟩
end
end Go.Proofs.YthgelfdefkbfeaaGreatDoor
