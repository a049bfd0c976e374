import Derived.Test.YthgelfdefkbfeaaGreatDoorZu27
import Derived.WideKeyEntry
set_option maxRecDepth 8000
set_option maxHeartbeats 8000000
set_option linter.unusedVariables false
namespace Go.Proofs.YthgelfdefkbfeaaGreatDoor
open Go.RowKit Go.Maps
theorem unLead:Tryz.prog.underlying 89=some (.map 95 3):=Tryz.underlying89
theorem ob_eq {nb n c g mb:Nat} (hg:(Value.slice (some ⟨nb,0,none⟩) n c).ownBlock=some g) (e:g=mb):mb=nb:=by
 have e9:nb=g:=by simpa [Value.ownBlock] using hg
 rw [e9];exact e.symm
theorem setT_map (f:Th→Option Nat) (t:Th) (i:Nat):(fun u=>((setT f t (some i)) u).map nv)=setT (fun u=>(f u).map nv) t (some (.int .i64 (i:Int))):=by
 funext u
 unfold setT
 by_cases h:u=t
 ·rw [if_pos h,if_pos h];rfl
 ·rw [if_neg h,if_neg h]
section
variable {w0 w w' : World} {n lb nb mb ob km ko K i p : Nat} {M : Ls} {S : Fam} {ss : List Si} {t : Th}
theorem LK.lead (h:LK w0 w n lb nb mb ob km ko K M S ss) (hb:But (fun q=>q=mb) w w') (hm:TM w' mb (km+1) (.int .i64 0) (setT (fun u=>(M.ld u).map nv) t (some (.int .i64 (i:Int))))):LK w0 w' n lb nb mb ob (km+1) ko (K+1) (M.lead i t) S ss:=by
 obtain ⟨cur,hnb⟩:=h.rty
 have n1:mb≠lb:=tm_ne h.mL h.blk
 have n2:mb≠nb:=tm_ne h.mL hnb
 refine ⟨(hb.block lb (lt_cells h.blk) (fun e=>n1 e.symm)).trans h.blk,h.row.but hb (fun g hg e=>n2 (ob_eq hg e)),h.len,h.fam.but hb (fun q c hq e=>?_),h.sn,h.so,?_,h.mO.but hb (fun e=>h.ne e.symm),h.ne,h.gel,h.gem,h.geo,Nat.succ_le_succ h.kl,Nat.le_succ_of_le h.ko,fun j=>Nat.le_succ_of_le (h.fn j),fun u=>Nat.le_succ_of_le (h.fo u),h.bel.trans (hb.below h.bel.size (fun q e=>by have e9:q=mb:=e;rw [e9];exact h.gem))⟩
 ·have e9:q=mb:=hq
  rw [e9] at e
  exact tm_ne h.mL e rfl
 ·show TM w' mb (km+1) (.int .i64 0) (fun u=>((setT M.ld t (some i)) u).map nv)
  rw [setT_map]
  exact hm
end
def ThB (w:World) (b:Nat) (t:Th):Prop:=w.heap[b]?=some (.cells #[.int .i64 t.s,.int .i64 t.g,.int .u64 t.o,.int .u64 t.a] 95 (0,0))
theorem ThB.cs {w:World} {b:Nat} {t:Th} (h:ThB w b t):w.cell? ⟨b,0,none⟩=some (.int .i64 t.s)∧w.cell? ⟨b,1,none⟩=some (.int .i64 t.g)∧w.cell? ⟨b,2,none⟩=some (.int .u64 t.o)∧w.cell? ⟨b,3,none⟩=some (.int .u64 t.a):=⟨cell_at h rfl,cell_at h rfl,cell_at h rfl,cell_at h rfl⟩
theorem lead_any {w0 w:World} {n lb nb mb ob km ko K i:Nat} {M:Ls} {S:Fam} {ss:List Si} (t:Th) (ht:t.ok) (h:LK w0 w n lb nb mb ob km ko K M S ss) (hn:(n:Int)≤9223372036854775806) (hi:i < n) (hK:K≤1000000000) :
  Calls Tryz.prog 100 #[.pointer (some ⟨lb,0,none⟩),.int .i64 (i:Int),.agg #[.int .i64 t.s,.int .i64 t.g,.int .u64 t.o,.int .u64 t.a]] w fun r w'=>r=.returned (.tuple #[])∧Kp w w'∧LK w0 w' n lb nb mb ob (km+1) ko (K+1) (M.lead i t) S ss:=by
 obtain ⟨W,hW⟩:∃ W,W=w.alloc (.cells #[.int .i64 t.s,.int .i64 t.g,.int .u64 t.o,.int .u64 t.a] 95):=⟨_,rfl⟩
 have hb:Below w.heap.size w W:=by rw [hW];exact below_alloc1 _ _
 have hB:ThB W w.heap.size t:=by rw [hW];exact heap_new _ _
 have hL:=h.on hb
 have hLd:LK w0 W.drew n lb nb mb ob km ko K M S ss:=hL.on (Below.refl _ _).drew
 obtain ⟨w2,hput,hm,hbut⟩:=hLd.mL.put unLead ht (by have:=h.kl;unfold maxLen;omega) (.int .i64 (i:Int))
 have HF:=hide (And.intro (((Kp.bel hb).trans (Kp.bel (Below.refl _ _).drew)).trans (Kp.but hbut fun q cs T hq hT e=>by
  have e9:q=mb:=hq
  rw [e9] at e
  exact tm_ne hLd.mL e rfl)) (hLd.lead hbut hm))
 obtain ⟨_,c1,_⟩:=hL.c0
 obtain ⟨t0,t1,t2,t3⟩:=hB.cs
 have hlt:=lt_cells hL.blk
 have hbt:=lt_cells hB
 have hiI:(i:Int) < n:=by omega
 have HSx:Hid (∀ X,Below W.heap.size W X→X.cell? ⟨lb,1,none⟩=some (.map (some mb))∧X.cell? ⟨w.heap.size,0,none⟩=some (.int .i64 t.s)∧X.cell? ⟨w.heap.size,1,none⟩=some (.int .i64 t.g)∧X.cell? ⟨w.heap.size,2,none⟩=some (.int .u64 t.o)∧X.cell? ⟨w.heap.size,3,none⟩=some (.int .u64 t.a)):=hide (fun X hX=>⟨E6.cell_bel c1 hX,E6.cell_bel t0 hX,E6.cell_bel t1 hX,E6.cell_bel t2 hX,E6.cell_bel t3 hX⟩)
 have HD:=hide (Below.refl W.heap.size W).drew
 have H0:=hide (Below.refl W.heap.size W)
 have HB2:Hid (∀ x,w2.cell? ⟨lb,1,none⟩=x→True):=hide (fun _ _=>trivial)
 have HSy:Hid (w2.cell? ⟨lb,1,none⟩=some (.map (some mb))∧w2.cell? ⟨w.heap.size,0,none⟩=some (.int .i64 t.s)∧w2.cell? ⟨w.heap.size,1,none⟩=some (.int .i64 t.g)∧w2.cell? ⟨w.heap.size,2,none⟩=some (.int .u64 t.o)∧w2.cell? ⟨w.heap.size,3,none⟩=some (.int .u64 t.a)):=hide (by
  have k1:¬ lb=mb:=fun e=>tm_ne hL.mL hL.blk e.symm
  have k2:¬ w.heap.size=mb:=fun e=>tm_ne hL.mL hB e.symm
  obtain ⟨z0,z1,z2,z3,z4⟩:=HSx.out _ HD.out
  exact ⟨cell_but z0 hbut k1,cell_but z1 hbut k2,cell_but z2 hbut k2,cell_but z3 hbut k2,cell_but z4 hbut k2⟩)
 have HW:=hide hW
 clear hW hb hB hL hLd hm hbut h ht hi hK HB2
 go_enter Tryz.func100,Tryz.ntmps100
 go_wp2_with fail
 rw [← HW.out]
 clear HW
 go_region_held3 (fun X=>X.cell? ⟨lb,1,none⟩=some (.map (some mb))∧X.cell? ⟨w.heap.size,0,none⟩=some (.int .i64 t.s)∧X.cell? ⟨w.heap.size,1,none⟩=some (.int .i64 t.g)∧X.cell? ⟨w.heap.size,2,none⟩=some (.int .u64 t.o)∧X.cell? ⟨w.heap.size,3,none⟩=some (.int .u64 t.a))
  (first|with_reducible exact HSx.out _ H0.out|with_reducible exact HSx.out _ HD.out|with_reducible exact HSy.out)
  (fail)
 all_goals
  go_end0
  exact ⟨rfl,HF.out.1,HF.out.2⟩
theorem follow_any {w0 w:World} {n lb nb mb ob km ko K i:Nat} {M:Ls} {S:Fam} {ss:List Si} (t:Th) (ht:t.ok) (h:LK w0 w n lb nb mb ob km ko K M S ss) (hn:(n:Int)≤9223372036854775806) (hi:i < n) (hK:K≤1000000000) :
  Calls Tryz.prog 48 #[.pointer (some ⟨lb,0,none⟩),.int .i64 (i:Int),.agg #[.int .i64 t.s,.int .i64 t.g,.int .u64 t.o,.int .u64 t.a]] w fun r w'=>r=.returned (.tuple #[])∧Kp w w'∧∃ S' ss',LK w0 w' n lb nb mb ob km ko (K+1) (M.follow i t) S' ss':=by
 obtain ⟨W,hW⟩:∃ W,W=w.alloc (.cells #[.int .i64 t.s,.int .i64 t.g,.int .u64 t.o,.int .u64 t.a] 95):=⟨_,rfl⟩
 have hb:Below w.heap.size w W:=by rw [hW];exact below_alloc1 _ _
 have hB:ThB W w.heap.size t:=by rw [hW];exact heap_new _ _
 have hL:=h.on hb
 have HL:=hide hL
 have HBb:=hide hb
 obtain ⟨_,c1,_⟩:=hL.c0
 obtain ⟨t0,t1,t2,t3⟩:=hB.cs
 have hlt:=lt_cells hL.blk
 have hbt:=lt_cells hB
 have hiI:(i:Int) < n:=by omega
 have HW:=hide hW
 have HI:=hide hi
 have HK:=hide hK
 cases hp:M.ld t with
 | none =>
  have hlk:∀ q,(Instr.lookup 89 (.map (some mb)) (.agg #[.int .i64 t.s,.int .i64 t.g,.int .u64 t.o,.int .u64 t.a]) true).run Tryz.prog (W.drewN q)=.ok (.tuple #[.int .i64 0,.bool false]) (W.drewN q):=fun q=>by
   have h1:=(hL.on (below_drewN (Below.refl _ W) q)).mL.lookOk unLead (by kernel_rfl) ht
   rw [hp] at h1
   exact h1
  have HM:Hid (M.follow i t=M):=hide (by unfold Ls.follow;rw [hp])
  clear hW hb hB hL h ht hi hK hp
  rw [HM.out]
  go_enter Tryz.func48,Tryz.ntmps48
  go_wp2_with fail
  rw [← HW.out]
  clear HW
  go_quiet (fail)
  go_wp2
  go_end0
  exact ⟨rfl,Kp.bel (HBb.out.trans ((below_drewN (Below.refl _ _) _).mono HBb.out.size)),S,ss,(HL.out.on (below_drewN (Below.refl _ _) _)).up⟩
 | some p =>
  have hlk:∀ q,(Instr.lookup 89 (.map (some mb)) (.agg #[.int .i64 t.s,.int .i64 t.g,.int .u64 t.o,.int .u64 t.a]) true).run Tryz.prog (W.drewN q)=.ok (.tuple #[.int .i64 (p:Int),.bool true]) (W.drewN q):=fun q=>by
   have h1:=(hL.on (below_drewN (Below.refl _ W) q)).mL.lookOk unLead (by kernel_rfl) ht
   rw [hp] at h1
   exact h1
  have HM:Hid (M.follow i t=M.need i p):=hide (by unfold Ls.follow;rw [hp])
  have HNd:Hid (∀ q,Calls Tryz.prog 99 #[.pointer (some ⟨lb,0,none⟩),.int .i64 (i:Int),.slice (some ⟨W.heap.size,0,none⟩) 1 1] ((W.drewN q).alloc (.cells #[.int .i64 (p:Int)] 3)) fun r w'=>r=.returned (.tuple #[])∧Kp ((W.drewN q).alloc (.cells #[.int .i64 (p:Int)] 3)) w'∧∃ S' ss',LK w0 w' n lb nb mb ob km ko (K+1) (M.need i p) S' ss'):=hide (fun q =>
   need_any ((hL.on (below_drewN (Below.refl _ W) q)).on (below_alloc1 _ _)) hi hn hK (x:=W.heap.size) (TRow.one (y:=sI) (x:=(p:Int)) (heap_new (W.drewN q) (.cells #[.int .i64 (p:Int)] 3))))
  clear hW hb hB hL h ht hi hK hp
  rw [HM.out]
  go_enter Tryz.func48,Tryz.ntmps48
  go_wp2_with fail
  rw [← HW.out]
  clear HW
  go_quiet (fail)
  go_wp2_with fail
  refine (HNd.out _).mono ?_
  rintro r w3 ⟨rfl,hkp,hX⟩
  go_wp2
  go_end0
  exact ⟨rfl,(Kp.bel (Below.on (HBb.out.trans ((below_drewN (Below.refl _ _) _).mono HBb.out.size)) (below_alloc1 _ _))).trans hkp,hX⟩
end Go.Proofs.YthgelfdefkbfeaaGreatDoor
namespace Go.Proofs.YthgelfdefkbfeaaGreatDoor
open Go.RowKit Go.Maps
theorem kp_th {w w':World} {b:Nat} {t:Th} (h:Kp w w') (hB:ThB w b t):ThB w' b t:=h b _ 95 (.inl rfl) hB
def LW (w0 w:World) (n lb K:Nat) (M:Ls):Prop:=∃ nb mb ob km ko S ss,LK w0 w n lb nb mb ob km ko K M S ss
theorem LW.on {w0 w w':World} {n lb K:Nat} {M:Ls} (h:LW w0 w n lb K M) (hb:Below w.heap.size w w'):LW w0 w' n lb K M:=by
 obtain ⟨nb,mb,ob,km,ko,S,ss,h1⟩:=h
 exact ⟨nb,mb,ob,km,ko,S,ss,h1.on hb⟩
theorem LW.up {w0 w:World} {n lb K:Nat} {M:Ls} (h:LW w0 w n lb K M):LW w0 w n lb (K+1) M:=by
 obtain ⟨nb,mb,ob,km,ko,S,ss,h1⟩:=h
 exact ⟨nb,mb,ob,km,ko,S,ss,h1.up⟩
theorem LW.bel {w0 w:World} {n lb K:Nat} {M:Ls} (h:LW w0 w n lb K M):Below w0.heap.size w0 w:=by
 obtain ⟨nb,mb,ob,km,ko,S,ss,h1⟩:=h
 exact h1.bel
section
variable {w0 w : World} {n lb K i p : Nat} {M : Ls}
theorem need_w (h:LW w0 w n lb K M) (hi:i < n) (hn:(n:Int)≤9223372036854775806) (hK:K≤1000000000) {x c:Nat} (hr:TRow sI w (some ⟨x,0,none⟩) 1 [(p:Int)]) :
  Calls Tryz.prog 99 #[.pointer (some ⟨lb,0,none⟩),.int .i64 (i:Int),.slice (some ⟨x,0,none⟩) 1 c] w fun r w'=>r=.returned (.tuple #[])∧Kp w w'∧LW w0 w' n lb (K+1) (M.need i p):=by
 obtain ⟨nb,mb,ob,km,ko,S,ss,h1⟩:=h
 refine (need_any h1 hi hn hK hr).mono ?_
 rintro r w' ⟨h2,h3,S',ss',h4⟩
 exact ⟨h2,h3,nb,mb,ob,km,ko,S',ss',h4⟩
theorem lead_w (t:Th) (ht:t.ok) (h:LW w0 w n lb K M) (hn:(n:Int)≤9223372036854775806) (hi:i < n) (hK:K≤1000000000) :
  Calls Tryz.prog 100 #[.pointer (some ⟨lb,0,none⟩),.int .i64 (i:Int),.agg #[.int .i64 t.s,.int .i64 t.g,.int .u64 t.o,.int .u64 t.a]] w fun r w'=>r=.returned (.tuple #[])∧Kp w w'∧LW w0 w' n lb (K+1) (M.lead i t):=by
 obtain ⟨nb,mb,ob,km,ko,S,ss,h1⟩:=h
 refine (lead_any t ht h1 hn hi hK).mono ?_
 rintro r w' ⟨h2,h3,h4⟩
 exact ⟨h2,h3,nb,mb,ob,_,ko,S,ss,h4⟩
theorem follow_w (t:Th) (ht:t.ok) (h:LW w0 w n lb K M) (hn:(n:Int)≤9223372036854775806) (hi:i < n) (hK:K≤1000000000) :
  Calls Tryz.prog 48 #[.pointer (some ⟨lb,0,none⟩),.int .i64 (i:Int),.agg #[.int .i64 t.s,.int .i64 t.g,.int .u64 t.o,.int .u64 t.a]] w fun r w'=>r=.returned (.tuple #[])∧Kp w w'∧LW w0 w' n lb (K+1) (M.follow i t):=by
 obtain ⟨nb,mb,ob,km,ko,S,ss,h1⟩:=h
 refine (follow_any t ht h1 hn hi hK).mono ?_
 rintro r w' ⟨h2,h3,S',ss',h4⟩
 exact ⟨h2,h3,nb,mb,ob,km,ko,S',ss',h4⟩
end
theorem chain_w {w0 w:World} {n lb K i:Nat} {M:Ls} (t:Th) (ht:t.ok) (h:LW w0 w n lb K M) (hn:(n:Int)≤9223372036854775806) (hi:i < n) (hK:K≤900000000) :
  Calls Tryz.prog 103 #[.pointer (some ⟨lb,0,none⟩),.int .i64 (i:Int),.agg #[.int .i64 t.s,.int .i64 t.g,.int .u64 t.o,.int .u64 t.a]] w fun r w'=>r=.returned (.tuple #[])∧Kp w w'∧LW w0 w' n lb (K+2) (M.chain i t):=by
 obtain ⟨W,hW⟩:∃ W,W=w.alloc (.cells #[.int .i64 t.s,.int .i64 t.g,.int .u64 t.o,.int .u64 t.a] 95):=⟨_,rfl⟩
 have hb:Below w.heap.size w W:=by rw [hW];exact below_alloc1 _ _
 have hB:ThB W w.heap.size t:=by rw [hW];exact heap_new _ _
 have HB:=hide hB
 have HBb:=hide hb
 have HF:=hide (follow_w t ht (h.on hb) hn hi (by omega))
 have HL:Hid (∀ X M',LW w0 X n lb (K+1) M'→Calls Tryz.prog 100 #[.pointer (some ⟨lb,0,none⟩),.int .i64 (i:Int),.agg #[.int .i64 t.s,.int .i64 t.g,.int .u64 t.o,.int .u64 t.a]] X fun r w'=>r=.returned (.tuple #[])∧Kp X w'∧LW w0 w' n lb (K+2) (M'.lead i t)):=hide (fun X M' hX=>lead_w t ht hX hn hi (by omega))
 rw [hW] at HF
 have HW:=hide hW
 obtain ⟨t0,t1,t2,t3⟩:=hB.cs
 clear hW hb hB h ht hi hK
 go_enter Tryz.func103,Tryz.ntmps103
 go_wp2_with fail
 refine HF.out.mono ?_
 rintro r w2 ⟨rfl,hk2,hX2⟩
 rw [← HW.out] at hk2
 have HB2:=hide (kp_th hk2 HB.out)
 obtain ⟨s0,s1,s2,s3⟩:=HB2.out.cs
 have HK2:=hide ((Kp.bel HBb.out).trans hk2)
 have HL2:=hide (HL.out w2 _ hX2)
 clear hk2 hX2 HF HL t0 t1 t2 t3
 go_wp2_with fail
 refine HL2.out.mono ?_
 rintro r w3 ⟨rfl,hk3,hX3⟩
 go_wp2
 go_end0
 exact ⟨rfl,HK2.out.trans hk3,hX3⟩
end Go.Proofs.YthgelfdefkbfeaaGreatDoor
namespace Go.Proofs.YthgelfdefkbfeaaGreatDoor
open Go.RowKit Go.Maps
theorem lawThK:Go.WideMaps.KeyLaw Tryz.prog 95:=by
 refine deep_law_laid laidOutT (m:=2) ?_ rowTh ?_ ?_
 ·omega
 ·kernel_rfl
 ·rw [Tryz.underlying95]
section
variable {w : World} {b n : Nat} {z : Value} {f : Th → Option Value} {t : Th}
theorem entry_val {P:Program} {m k e:TypeId} {es:Array MapEntry} {clock:Nat} {key z v0:Value} {st:Nat} {W1:World} {R:Value→Option (DataW Value × List MemPlace)} {kl:Lit} (K:Go.WideMaps.KeyLaw P k) (ht:P.underlying m=some (.map k e)) (hz:∀ u:World,(zeroValue e).run P u=.ok z u) (hb:w.heap[b]?=some (.map es clock)) (F:Go.WideElems.Fit P k R es clock) (hkey:keyOf P k key=some kl)
  (run1:(Instr.mapEntry m (.map (some b)) key).run P w=.ok (.tuple #[v0,goInt st]) W1):(Instr.lookup m (.map (some b)) key false).run P w=.ok v0 w:=by
 rcases K.find w hkey es.toList F.keys with ⟨h1,h2⟩|⟨j,e0,h1,h2,h3⟩
 ·have hl:(Instr.lookup m (.map (some b)) key false).run P w=.ok z w:=by
   simp [Instr.lookup,run_underlying ht,MapKept.run_getObj_map hb,K.check w _ hkey,h1,hz,Result.andThen]
  have he:(Instr.mapEntry m (.map (some b)) key).run P w=.ok (.tuple #[z,goInt clock]) (ChangeMaps.setBlock w b (.map (es.push ⟨key,z,clock⟩) (clock+1))):=by
   simp [Instr.mapEntry,run_underlying ht,MapKept.run_getObj_map hb,K.check w false hkey,h1,hz,MapKept.run_setObj_map _ hb,Result.andThen,ChangeMaps.setBlock]
  rw [he] at run1
  simp only [Result.ok.injEq,Value.tuple.injEq] at run1
  obtain ⟨r1,_⟩:=run1
  have r2:z=v0:=by have:=congrArg (fun a:Array Value=>a[0]?) r1;simpa using this
  rw [hl,r2]
 ·have hl:(Instr.lookup m (.map (some b)) key false).run P w=.ok e0.val w:=by
   simp [Instr.lookup,run_underlying ht,MapKept.run_getObj_map hb,K.check w _ hkey,h1,Result.andThen]
  have hj:es[j]?=some e0:=by simpa using h2
  have he:∃ W2 i,(Instr.mapEntry m (.map (some b)) key).run P w=.ok (.tuple #[e0.val,i]) W2:=by
   simp [Instr.mapEntry,run_underlying ht,MapKept.run_getObj_map hb,K.check w false hkey,h1,hj,h3,K.stays w hkey,MapKept.run_setObj_map _ hb,Result.andThen]
  obtain ⟨W2,i,he⟩:=he
  rw [he] at run1
  simp only [Result.ok.injEq,Value.tuple.injEq] at run1
  obtain ⟨r1,_⟩:=run1
  have r2:e0.val=v0:=by have:=congrArg (fun a:Array Value=>a[0]?) r1;simpa using this
  rw [hl,r2]
theorem but_setBlock {w:World} {es:Array MapEntry} {cl:Nat} (hb:w.heap[b]?=some (.map es cl)) (o:Obj):But (fun q=>q=b) w (ChangeMaps.setBlock w b o) :=
 ⟨rfl,rfl,rfl,by simp [ChangeMaps.setBlock],fun i _ hi=>ChangeMaps.heap_setBlock_other hb o hi⟩
theorem TM.entry (h:TM w b n z f) {m e:TypeId} (ht:Tryz.prog.underlying m=some (.map 95 e)) (hz:∀ u:World,(zeroValue e).run Tryz.prog u=.ok z u) (hr:t.ok) (hn:n < maxLen) :
  ∃ (st:Nat) (W1:World),(Instr.mapEntry m (.map (some b)) t.val).run Tryz.prog w=.ok (.tuple #[(f t).getD z,goInt st]) W1∧But (fun q=>q=b) w W1∧W1.heap.size=w.heap.size∧(∃ es cl,W1.heap[b]?=some (.map es cl)) ∧
   ∀ (w2:World) (val:Value),w2.heap[b]?=W1.heap[b]?→∃ w3,(Instr.entryStore m (.map (some b)) (goInt st) val).run Tryz.prog w2=.ok () w3∧TM w3 b (n+1) z (setT f t (some val))∧But (fun q=>q=b) w2 w3:=by
 have hlook:=h.look ht (hz w) hr
 have hput:=fun v=>h.put ht hr hn v
 obtain ⟨D,⟨es,clock,hb,F,hs,rfl⟩,h2,h3⟩:=h
 obtain ⟨v0,st,es1,clock1,run1,_,hst⟩:=Go.WideElems.entry_then_store lawThK ht hz hb F (keyTh hr)
 have hv:=entry_val lawThK ht hz hb F (keyTh hr) run1
 rw [hlook] at hv
 simp only [Result.ok.injEq,and_true] at hv
 refine ⟨st,_,by rw [hv];exact run1,but_setBlock hb _,by simp [ChangeMaps.setBlock],⟨_,_,ChangeMaps.heap_setBlock_same hb _⟩,fun w2 val hw2=>?_⟩
 rw [ChangeMaps.heap_setBlock_same hb] at hw2
 obtain ⟨es',clock',r2,r3⟩:=hst w2 val hw2
 obtain ⟨w4,r4,hT,_⟩:=hput val
 rw [r3] at r4
 simp only [Result.ok.injEq,true_and] at r4
 subst r4
 refine ⟨_,r2,?_,but_setBlock hw2 _⟩
 obtain ⟨D',⟨es2,cl2,g1,g2⟩,g3⟩:=hT
 rw [ChangeMaps.heap_setBlock_same hb] at g1
 cases g1
 exact ⟨D',⟨es',clock',ChangeMaps.heap_setBlock_same hw2 _,g2⟩,g3⟩
end
end Go.Proofs.YthgelfdefkbfeaaGreatDoor
namespace Go.Proofs.YthgelfdefkbfeaaGreatDoor
open Go.RowKit Go.Maps
theorem unOpen:Tryz.prog.underlying 90=some (.map 95 34):=Tryz.underlying90
theorem zInts:∀ u:World,(zeroValue 34).run Tryz.prog u=.ok (.slice none 0 0) u:=fun u=>by kernel_rfl
section
variable {w0 w V w' w3 : World} {n lb nb mb ob km ko K i p : Nat} {M : Ls} {S : Fam} {ss : List Si} {t : Th}
def opV (S:Fam) (t:Th):Value:=((S (.inr t)).map fun x=>x.1.val).getD (.slice none 0 0)
theorem LK.opO (h:LK w0 w n lb nb mb ob km ko K M S ss) (t:Th):∃ a m c,opV S t=.slice a m c∧Own sI 3 w w0.heap.size (.slice a m c) (intP (M.op t)):=by
 unfold opV
 rcases h.so t with ⟨s,hs⟩|⟨hs,h0⟩
 ·rw [hs]
  exact ⟨s.a,s.n,s.c,rfl,h.fam.own _ _ _ hs⟩
 ·rw [hs,h0]
  exact ⟨none,0,0,rfl,Own.nil _ _ _ _⟩
theorem LK.touch (h:LK w0 w n lb nb mb ob km ko K M S ss) (hb:But (fun q=>q=ob) w V) (l:Nat):V.heap[lb]?=w.heap[lb]?∧Kp w V∧∀ a m c,Own sI 3 w w0.heap.size (.slice a m c) (intP (M.op t))→Own sI 3 V w0.heap.size (.slice a m c) (intP (M.op t)):=by
 have n1:ob≠lb:=tm_ne h.mO h.blk
 refine ⟨hb.block lb (lt_cells h.blk) (fun e=>n1 e.symm),Kp.but hb (fun q cs T hq hT e=>?_),fun a m c ho=>ho.but hb (fun g hg e=>?_)⟩
 ·have e9:q=ob:=hq
  rw [e9] at e
  exact tm_ne h.mO e rfl
 ·obtain ⟨c1,h1⟩:=own_ty ho hg
  have e9:g=ob:=e
  rw [e9] at h1
  exact tm_ne h.mO h1 rfl
theorem LK.push (h : LK w0 w n lb nb mb ob km ko K M S ss) {s : Si} (hb : But (fun q => q = ob) w V) (hVm : ∃ es cl, V.heap[ob]? = some (.map es cl)) (ho : Own sI 3 w' w0.heap.size s.val (intP (M.op t) ++ [(i : Int)])) (hg : V.grownBy w' (opV S t).ownBlock) (hv : s.val.ownBlock = (opV S t).ownBlock ∨ s.val.ownBlock = some V.heap.size) (hb3 : But (fun q => q = ob) w' w3) (hm : TM w3 ob (ko + 1) (.slice none 0 0) (setT (fun u => (S (.inr u)).map fun x => x.1.val) t (some s.val))) :
    LK w0 w3 n lb nb mb ob km (ko + 1) (K + 1) (M.push i t) (updF S (.inr t) (some (s, intP (M.op t) ++ [(i : Int)]))) ss := by
  obtain ⟨cur, hnb⟩ := h.rty
  have n1 : ob ≠ lb := tm_ne h.mO h.blk
  have n2 : ob ≠ nb := tm_ne h.mO hnb
  obtain ⟨oa, om, oc, hov, hoo⟩ := h.opO t
  rw [hov] at hg hv
  have noI : ∀ {X : World}, (∀ c, X.heap[ob]? ≠ some (.cells c 3 (0, 0))) → NoInt X (fun q => q = ob) := fun hX q c hq e => by
    have e9 : q = ob := hq
    rw [e9] at e
    exact hX c e
  have hmapW : ∃ es cl, w.heap[ob]? = some (.map es cl) := by obtain ⟨D, ⟨es, cl, h1, _⟩, _⟩ := h.mO; exact ⟨es, cl, h1⟩
  have f1 : FI V w0.heap.size S := h.fam.but hb (noI (fun c e => by obtain ⟨es, cl, h9⟩ := hmapW; rw [h9] at e; cases e))
  have hooV := (h.touch (t := t) hb 0).2.2 oa om oc hoo
  have b2 : But (fun q => (Value.slice oa om oc).ownBlock = some q) V w' := (But.refl _ V).grown hg (fun k _ e => e)
  have hv0 : (∃ s0 L, S (.inr t) = some (s0, L) ∧ (Value.slice oa om oc) = s0.val) ∨ (Value.slice oa om oc).ownBlock = none := by
    unfold opV at hov
    cases hS : S (.inr t) with
    | none => rw [hS] at hov; exact .inr (by rw [← hov]; rfl)
    | some x => rw [hS] at hov; exact .inl ⟨x.1, x.2, rfl, hov.symm⟩
  have f2 : FI w' w0.heap.size (updF S (.inr t) (some (s, intP (M.op t) ++ [(i : Int)]))) := f1.grow hv0 ho hg hv
  have k1 : (Value.slice oa om oc).ownBlock ≠ some ob := fun e => by
    obtain ⟨c1, h1⟩ := own_ty hoo e
    exact tm_ne h.mO h1 rfl
  have k2 : (Value.slice oa om oc).ownBlock ≠ some lb := own_ne_cells hoo h.blk (by decide)
  have k3 : (Value.slice oa om oc).ownBlock ≠ some nb := own_ne_cells hoo hnb (by decide)
  have k4 : (Value.slice oa om oc).ownBlock ≠ some mb := fun e => by
    obtain ⟨c1, h1⟩ := own_ty hoo e
    exact tm_ne h.mL h1 rfl
  obtain ⟨ves, vcl, hvm⟩ := hVm
  have hob' : w'.heap[ob]? = some (.map ves vcl) := (b2.block ob (lt_cells hvm) k1).trans hvm
  have f3 : FI w3 w0.heap.size (updF S (.inr t) (some (s, intP (M.op t) ++ [(i : Int)]))) := f2.but hb3 (noI (fun c e => by rw [hob'] at e; cases e))
  have hbel : Below w0.heap.size w0 w3 := ((h.bel.trans (hb.below h.bel.size (fun q e => by have e9 : q = ob := e; rw [e9]; exact h.geo))).trans (b2.below (Nat.le_trans h.bel.size hb.size) (fun q e => (hoo.lt q e).1))).trans (hb3.below (Nat.le_trans (Nat.le_trans h.bel.size hb.size) b2.size) (fun q e => by have e9 : q = ob := e; rw [e9]; exact h.geo))
  have go : ∀ {q : Nat} {o : Obj}, w.heap[q]? = some o → ob ≠ q → (Value.slice oa om oc).ownBlock ≠ some q → w3.heap[q]? = some o := fun {q o} hq h1 h2 => by
    have l1 := lt_cells hq
    rw [hb3.block q (Nat.lt_of_lt_of_le l1 (Nat.le_trans hb.size b2.size)) (fun e => h1 e.symm), b2.block q (Nat.lt_of_lt_of_le l1 hb.size) h2, hb.block q l1 (fun e => h1 e.symm)]
    exact hq
  have rowK : Own saS 34 w3 w0.heap.size (.slice (some ⟨nb, 0, none⟩) n n) ss := ((h.row.but hb (fun g hg e => n2 (ob_eq hg e))).but b2 (fun g hg e => k3 (by
      have e9 : nb = g := by simpa [Value.ownBlock] using hg
      rw [e9]; exact e))).but hb3 (fun g hg e => n2 (ob_eq hg e))
  refine ⟨go h.blk n1 k2, rowK, h.len, f3, fun j hj => ?_, fun u => ?_, ((h.mL.but hb h.ne).but b2 k4).but hb3 h.ne, ?_, h.ne, h.gel, h.gem, h.geo, Nat.le_succ_of_le h.kl, Nat.succ_le_succ h.ko, fun j => Nat.le_succ_of_le (h.fn j), fun u => ?_, hbel⟩
  · obtain ⟨s2, q1, q2⟩ := h.sn j hj
    exact ⟨s2, q1, by rw [updF_other S _ (fun e => by cases e)]; exact q2⟩
  · by_cases hu : u = t
    · subst hu
      refine .inl ⟨s, ?_⟩
      rw [updF_same]
      show _ = some (s, intP (if u = u then M.op u ++ [i] else M.op u))
      rw [if_pos rfl, intP_snoc]
    · rw [updF_other S _ (fun e => hu (by injection e))]
      show (∃ s1, S (.inr u) = some (s1, intP (if u = t then M.op t ++ [i] else M.op u))) ∨ (S (.inr u) = none ∧ (if u = t then M.op t ++ [i] else M.op u) = [])
      rw [if_neg hu]
      exact h.so u
  · have e9 : (fun u => (updF S (.inr t) (some (s, intP (M.op t) ++ [(i : Int)])) (.inr u)).map fun x => x.1.val) = setT (fun u => (S (.inr u)).map fun x => x.1.val) t (some s.val) := by
      funext u
      unfold setT
      by_cases hu : u = t
      · subst hu; rw [updF_same, if_pos rfl]; rfl
      · rw [updF_other S _ (fun e => hu (by injection e)), if_neg hu]
    rw [e9]
    exact hm
  · show (if u = t then M.op t ++ [i] else M.op u).length ≤ K + 1
    split
    · rw [List.length_append]; have := h.fo t; show (M.op t).length + 1 ≤ K + 1; omega
    · exact Nat.le_succ_of_le (h.fo u)
end
end Go.Proofs.YthgelfdefkbfeaaGreatDoor
namespace Go.Proofs.YthgelfdefkbfeaaGreatDoor
open Go.RowKit Go.Maps
theorem lbegin_any {w0 w : World} {n lb nb mb ob km ko K i : Nat} {M : Ls} {S : Fam} {ss : List Si} (t : Th) (ht : t.ok) (h : LK w0 w n lb nb mb ob km ko K M S ss) (hn : (n : Int) ≤ 9223372036854775806) (hi : i < n) (hK : K ≤ 900000000) :
    Calls Tryz.prog 101 #[.pointer (some ⟨lb, 0, none⟩), .int .i64 (i : Int), .agg #[.int .i64 t.s, .int .i64 t.g, .int .u64 t.o, .int .u64 t.a]] w fun r w' => r = .returned (.tuple #[]) ∧ Kp w w' ∧ LW w0 w' n lb (K + 1) (M.push i t) := by
  obtain ⟨W, hW⟩ : ∃ W, W = w.alloc (.cells #[.int .i64 t.s, .int .i64 t.g, .int .u64 t.o, .int .u64 t.a] 95) := ⟨_, rfl⟩
  have hb : Below w.heap.size w W := by rw [hW]; exact below_alloc1 _ _
  have hB : ThB W w.heap.size t := by rw [hW]; exact heap_new _ _
  have hL := h.on hb
  obtain ⟨_, _, c2⟩ := hL.c0
  obtain ⟨t0, t1, t2, t3⟩ := hB.cs
  have hlt := lt_cells hL.blk
  have hbt := lt_cells hB
  have hiI : (i : Int) < n := by omega
  have hLd : LK w0 W.drew n lb nb mb ob km ko K M S ss := hL.on (Below.refl _ _).drew
  obtain ⟨oa, om, oc, hov, hoo⟩ := hLd.opO t
  have hooW : Own sI 3 W w0.heap.size (.slice oa om oc) (intP (M.op t)) := by
    obtain ⟨oa', om', oc', hov', hoo'⟩ := hL.opO t
    rw [hov] at hov'
    cases hov'
    exact hoo'
  have hko : ko < maxLen := by have := h.ko; unfold maxLen; omega
  have HZ : Hid (∀ X, LK w0 X n lb nb mb ob km ko K M S ss → ∃ (st : Nat) (W1 : World), (Instr.mapEntry 90 (.map (some ob)) (.agg #[.int .i64 t.s, .int .i64 t.g, .int .u64 t.o, .int .u64 t.a])).run Tryz.prog X = .ok (.tuple #[.slice oa om oc, goInt st]) W1 ∧ But (fun q => q = ob) X W1 ∧ W1.heap.size = X.heap.size ∧ (∃ es cl, W1.heap[ob]? = some (.map es cl)) ∧
      ∀ (w2 : World) (val : Value), w2.heap[ob]? = W1.heap[ob]? → ∃ w3, (Instr.entryStore 90 (.map (some ob)) (goInt st) val).run Tryz.prog w2 = .ok () w3 ∧ TM w3 ob (ko + 1) (.slice none 0 0) (setT (fun u => (S (.inr u)).map fun x => x.1.val) t (some val)) ∧ But (fun q => q = ob) w2 w3) := hide (fun X hX => by
    have h1 := hX.mO.entry (t := t) unOpen zInts ht hko
    unfold opV at hov
    rw [hov] at h1
    exact h1)
  have hba : Below W.heap.size W (W.alloc (.cells #[.int .i64 (i : Int)] 3)).drew := (below_alloc1 W _).drew
  have hLa : LK w0 (W.alloc (.cells #[.int .i64 (i : Int)] 3)).drew n lb nb mb ob km ko K M S ss := hL.on hba
  obtain ⟨st1, V1, e1, b1, z1, m1, x1⟩ := HZ.out _ hLa
  have HX1 := hide x1
  have HM1 := hide m1
  have HB1 := hide b1
  have HLa := hide hLa
  have hT := hLa.touch (t := t) b1 lb
  have HOw : Hid (Own sI 3 V1 w0.heap.size (.slice oa om oc) (intP (M.op t))) := hide (hT.2.2 oa om oc (hooW.below hba))
  have HKp1 : Hid (Kp w V1) := hide ((Kp.bel (Below.on hb hba)).trans hT.2.1)
  have HRw : Hid (TRow sI V1 (some ⟨W.heap.size, 0, none⟩) 1 [(i : Int)]) := hide ((TRow.one (y := sI) (x := (i : Int)) (heap_new W (.cells #[.int .i64 (i : Int)] 3)) |>.below (Below.refl _ _).drew).but b1 (fun q off _ e e9 => by
    have e8 : q = ob := e9
    cases e
    have h8 : (W.alloc (.cells #[.int .i64 (i : Int)] 3)).drew.heap[W.heap.size]? = some (.cells #[.int .i64 (i : Int)] 3 (0, 0)) := heap_new W (.cells #[.int .i64 (i : Int)] 3)
    exact tm_ne hLa.mO h8 e8.symm))
  have HSz1 : Hid (w0.heap.size ≤ V1.heap.size) := hide (Nat.le_trans hLa.bel.size b1.size)
  have HLn : Hid (((intP (M.op t)).length + 1) * 8 ≤ 140737488355328) := hide (by rw [intP_len]; have := hLa.fo t; omega)
  have HOv : Hid (opV S t = .slice oa om oc) := hide hov
  have HPu : Hid (∀ a' c' w', Own sI 3 w' w0.heap.size (.slice a' ((intP (M.op t)).length + 1) c') (intP (M.op t) ++ [(i : Int)]) → V1.grownBy w' (Value.slice oa om oc).ownBlock → ((Value.slice a' ((intP (M.op t)).length + 1) c').ownBlock = (Value.slice oa om oc).ownBlock ∨ (Value.slice a' ((intP (M.op t)).length + 1) c').ownBlock = some V1.heap.size) →
      ∃ w3, (Instr.entryStore 90 (.map (some ob)) (.int .i64 (st1 : Int)) (.slice a' ((intP (M.op t)).length + 1) c')).run Tryz.prog w' = .ok () w3 ∧ Kp w w3 ∧ LW w0 w3 n lb (K + 1) (M.push i t)) := hide (fun a' c' w' o2 g2 l2 => by
    have k1 : (Value.slice oa om oc).ownBlock ≠ some ob := fun e => by
      obtain ⟨c1, h1⟩ := own_ty hoo e
      exact tm_ne hLd.mO h1 rfl
    have b2 : But (fun q => (Value.slice oa om oc).ownBlock = some q) V1 w' := (But.refl _ V1).grown g2 (fun k _ e => e)
    obtain ⟨es, cl, hm⟩ := HM1.out
    have hob := b2.block ob (lt_cells hm) k1
    obtain ⟨w3, r3, t3, b3⟩ := HX1.out w' (.slice a' ((intP (M.op t)).length + 1) c') hob
    refine ⟨w3, r3, ((HKp1.out.trans (Kp.but b2 fun q cs T hq hT e => ?_)).trans (Kp.but b3 fun q cs T hq hT e => ?_)), nb, mb, ob, km, ko + 1, _, ss, HLa.out.push (s := ⟨a', (intP (M.op t)).length + 1, c'⟩) HB1.out ⟨es, cl, hm⟩ o2 (by rw [HOv.out]; exact g2) (by rw [HOv.out]; exact l2) b3 t3⟩
    · obtain ⟨c1, h1⟩ := own_ty HOw.out hq
      rw [h1] at e
      simp at e
      obtain ⟨_, e9⟩ := e
      rcases hT with rfl | rfl <;> exact absurd e9 (by decide)
    · have e9 : q = ob := hq
      rw [e9, hob, hm] at e
      cases e)
  have HW := hide hW
  clear hW h hba hooW hLa hLd hoo hov hko HZ x1 m1 b1 z1 hT hL ht hi hK HX1 HM1 HB1 HLa HOv HKp1
  go_enter Tryz.func101, Tryz.ntmps101
  go_wp2_with fail
  rw [← HW.out]
  clear HW
  go_region_law (refine step_int rfl (.tmp 11) (.tmp 13) rfl w0.heap.size (.slice oa om oc) (intP (M.op t)) (by first | (simp [Act.eval]; done) | (simp [Act.eval, Act.put]; done) | rfl) HOw.out ⟨W.heap.size, 0, none⟩ 1 1 [(i : Int)] (by first | (simp [Act.eval]; done) | (simp [Act.eval, Act.put]; done) | rfl) HRw.out HLn.out HSz1.out ?_; intro a' c' w' o2 g2 l2; obtain ⟨w3, r3, hk3, hL3⟩ := HPu.out a' c' w' o2 g2 l2; have HF := hide (And.intro hk3 hL3); clear o2 g2 l2 hk3 hL3)
  all_goals
    go_end0
    exact ⟨rfl, HF.out.1, HF.out.2⟩
end Go.Proofs.YthgelfdefkbfeaaGreatDoor
