import Derived.Test.YthgelfdefkbfeaaGreatDoorZu28
set_option maxRecDepth 8000
set_option maxHeartbeats 8000000
set_option linter.unusedVariables false
namespace Go.Proofs.YthgelfdefkbfeaaGreatDoor
open Go.RowKit Go.Maps
section
variable {w0 w w3 : World} {n lb nb mb ob km ko K : Nat} {M : Ls} {S : Fam} {ss : List Si} {t : Th}
theorem LK.pop (h:LK w0 w n lb nb mb ob km ko K M S ss) {s:Si} (hs:S (.inr t)=some (s,intP (M.op t))) (hn:s.n=(M.op t).length) (hb3:But (fun q=>q=ob) w w3) (hm:TM w3 ob (ko+1) (.slice none 0 0) (setT (fun u=>(S (.inr u)).map fun x=>x.1.val) t (some (.slice s.a ((M.op t).length - 1) s.c)))) :
  LK w0 w3 n lb nb mb ob km (ko+1) (K+1) (M.pop t) (updF S (.inr t) (some (⟨s.a,(M.op t).length - 1,s.c⟩,(intP (M.op t)).take ((M.op t).length - 1)))) ss:=by
 obtain ⟨cur,hnb⟩:=h.rty
 have n1:ob≠lb:=tm_ne h.mO h.blk
 have n2:ob≠nb:=tm_ne h.mO hnb
 have f1:FI w w0.heap.size (updF S (.inr t) (some (⟨s.a,(M.op t).length - 1,s.c⟩,(intP (M.op t)).take ((M.op t).length - 1)))):=h.fam.cut (a:=s.a) (n:=s.n) (c:=s.c) hs (by omega)
 have f3:=f1.but hb3 (fun q c hq e=>by
  have e9:q=ob:=hq
  rw [e9] at e
  exact tm_ne h.mO e rfl)
 refine ⟨(hb3.block lb (lt_cells h.blk) (fun e=>n1 e.symm)).trans h.blk,h.row.but hb3 (fun g hg e=>n2 (ob_eq hg e)),h.len,f3,fun j hj=>?_,fun u=>?_,h.mL.but hb3 h.ne,?_,h.ne,h.gel,h.gem,h.geo,Nat.le_succ_of_le h.kl,Nat.succ_le_succ h.ko,fun j=>Nat.le_succ_of_le (h.fn j),fun u=>?_,h.bel.trans (hb3.below h.bel.size (fun q e=>by have e9:q=ob:=e;rw [e9];exact h.geo))⟩
 ·obtain ⟨s2,q1,q2⟩:=h.sn j hj
  exact ⟨s2,q1,by rw [updF_other S _ (fun e=>by cases e)];exact q2⟩
 ·by_cases hu:u=t
  ·subst hu
   refine .inl ⟨⟨s.a,(M.op u).length - 1,s.c⟩,?_⟩
   rw [updF_same]
   show _=some (_,intP (if u=u then (M.op u).take ((M.op u).length - 1) else M.op u))
   rw [if_pos rfl]
   unfold intP
   rw [List.map_take]
  ·rw [updF_other S _ (fun e=>hu (by injection e))]
   show (∃ s1,S (.inr u)=some (s1,intP (if u=t then (M.op t).take ((M.op t).length - 1) else M.op u)))∨(S (.inr u)=none∧(if u=t then (M.op t).take ((M.op t).length - 1) else M.op u)=[])
   rw [if_neg hu]
   exact h.so u
 ·have e9:(fun u=>(updF S (.inr t) (some ((⟨s.a,(M.op t).length - 1,s.c⟩:Si),(intP (M.op t)).take ((M.op t).length - 1))) (.inr u)).map fun x=>x.1.val)=setT (fun u=>(S (.inr u)).map fun x=>x.1.val) t (some (.slice s.a ((M.op t).length - 1) s.c)):=by
   funext u
   unfold setT
   by_cases hu:u=t
   ·subst hu;rw [updF_same,if_pos rfl];rfl
   ·rw [updF_other S _ (fun e=>hu (by injection e)),if_neg hu]
  rw [e9]
  exact hm
 ·show (if u=t then (M.op t).take ((M.op t).length - 1) else M.op u).length≤K+1
  split
  ·rw [List.length_take];have:=h.fo t;omega
  ·exact Nat.le_succ_of_le (h.fo u)
end
theorem lend_any {w0 w:World} {n lb nb mb ob km ko K i p:Nat} {L0:List Nat} {M:Ls} {S:Fam} {ss:List Si} (t:Th) (ht:t.ok) (h:LK w0 w n lb nb mb ob km ko K M S ss) (hn:(n:Int)≤9223372036854775806) (hi:i < n) (hK:K≤900000000) (hop:M.op t=L0++[p]) (hp:p < n) :
  Calls Tryz.prog 102 #[.pointer (some ⟨lb,0,none⟩),.int .i64 (i:Int),.agg #[.int .i64 t.s,.int .i64 t.g,.int .u64 t.o,.int .u64 t.a]] w fun r w'=>r=.returned (.tuple #[])∧Kp w w'∧LW w0 w' n lb (K+3) (((M.pop t).need i p).need p i):=by
 obtain ⟨W,hW⟩:∃ W,W=w.alloc (.cells #[.int .i64 t.s,.int .i64 t.g,.int .u64 t.o,.int .u64 t.a] 95):=⟨_,rfl⟩
 have hb:Below w.heap.size w W:=by rw [hW];exact below_alloc1 _ _
 have hB:ThB W w.heap.size t:=by rw [hW];exact heap_new _ _
 have hL:=h.on hb
 have hlen:(M.op t).length=L0.length+1:=by rw [hop,List.length_append];rfl
 have hfo:=h.fo t
 have hko:ko < maxLen:=by have:=h.ko;unfold maxLen;omega
 obtain ⟨s,hs⟩:∃ s,S (.inr t)=some (s,intP (M.op t)):=by
  rcases h.so t with h1|⟨_,h1⟩
  ·exact h1
  ·rw [hop] at h1;exact absurd h1 (by simp)
 obtain ⟨q,hq⟩:∃ q,q=L0.length:=⟨_,rfl⟩
 have hown:=hL.fam.own _ _ _ hs
 obtain ⟨g,c,hv,_,_,hc⟩:=hown.frm (by rw [intP_len];omega)
 rw [intP_len,hlen,← hq] at hv hc
 obtain ⟨sa,sn,sc⟩:=s
 have hv:Value.slice sa sn sc=.slice (some ⟨g,0,none⟩) (q+1) c:=hv
 cases hv
 have hcell:W.cell? ⟨g,q,none⟩=some (.int .i64 (p:Int)):=by
  have hx:(intP (M.op t))[q]?=some (p:Int):=by
   apply intP_at
   rw [hop,hq,List.getElem?_append_right (Nat.le_refl _),Nat.sub_self]
   rfl
  have h1:Own sI 3 W w0.heap.size (.slice (some ⟨g,0,none⟩) (q+1) c) (intP (M.op t)):=hown
  have h2:=h1.cell hx 0 rfl
  rw [Nat.add_zero,show q * sI.z=q from Nat.mul_one q] at h2
  exact h2
 have hl:∀ X,LK w0 X n lb nb mb ob km ko K M S ss→(Instr.lookup 90 (.map (some ob)) (.agg #[.int .i64 t.s,.int .i64 t.g,.int .u64 t.o,.int .u64 t.a]) false).run Tryz.prog X=.ok (.slice (some ⟨g,0,none⟩) (q+1) c) X:=fun X hX=>by
  have h1:=hX.mO.look (t:=t) unOpen (zInts X) ht
  rw [hs] at h1
  exact h1
 have hlN:∀ m,(Instr.lookup 90 (.map (some ob)) (.agg #[.int .i64 t.s,.int .i64 t.g,.int .u64 t.o,.int .u64 t.a]) false).run Tryz.prog (W.drewN m)=.ok (.slice (some ⟨g,0,none⟩) (q+1) c) (W.drewN m):=fun m=>hl _ (hL.on (below_drewN (Below.refl _ _) m))
 obtain ⟨_,_,c2⟩:=hL.c0
 obtain ⟨t0,t1,t2,t3⟩:=hB.cs
 have hlt:=lt_cells hL.blk
 have hbt:=lt_cells hB
 have hiI:(i:Int) < n:=by omega
 have hpI:(p:Int) < n:=by omega
 have hqI:(q:Int)≤1000000000:=by omega
 have hw1:IntKind.i64.wrap (((q+1:Nat):Int) - 1)=q:=by rw [IntKind.wrap_i64];omega
 have HW:=hide hW
 have HL:=hide hL
 have HHl:=hide hl
 have HS:=hide hs
 have HB:=hide hB
 have HBb:=hide hb
 have HOp:=hide (And.intro hop hq)
 have HI:=hide (And.intro hi (And.intro hp hK))
 have HT:=hide ht
 have HKo:=hide hko
 have hq0:(0:Int)≤q:=by omega
 have hqc:(q:Int) < ((q+1:Nat):Int):=by omega
 have hgl:g < W.heap.size:=World.block_lt_of_cell? W _ hcell
 have hqc2:q≤c:=by omega
 clear hW hL hl hs hB hb hop hq hi hp hK ht hko hown hlen hfo h hc
 go_enter Tryz.func102,Tryz.ntmps102
 go_wp2_with fail
 rw [← HW.out]
 go_quiet (fail)
 have HL2:=hide (HL.out.on (below_drewN (Below.refl _ W) nq))
 have HB2:Hid (ThB (W.drewN nq) w.heap.size t):=hide HB.out
 have HC2:Hid ((W.drewN nq).cell? ⟨g,q,none⟩=some (.int .i64 (p:Int))):=hide hcell
 have HBb2:=hide (HBb.out.trans ((below_drewN (Below.refl _ W) nq).mono HBb.out.size))
 generalize W.drewN nq=W2 at HL2 HB2 HC2 HBb2 ⊢
 clear hlN hcell c2 t0 t1 t2 t3 hlt hbt hgl HL HB HBb HW
 obtain ⟨_,_,c2⟩:=HL2.out.c0
 obtain ⟨t0,t1,t2,t3⟩:=HB2.out.cs
 have hcell:=HC2.out
 have hlt:=lt_cells HL2.out.blk
 have hbt:=lt_cells HB2.out
 have hgl:g < W2.heap.size:=World.block_lt_of_cell? W2 _ hcell
 have hlN:∀ m,(Instr.lookup 90 (.map (some ob)) (.agg #[.int .i64 t.s,.int .i64 t.g,.int .u64 t.o,.int .u64 t.a]) false).run Tryz.prog (W2.drewN m)=.ok (.slice (some ⟨g,0,none⟩) (q+1) c) (W2.drewN m):=fun m=>HHl.out _ (HL2.out.on (below_drewN (Below.refl _ W2) m))
 go_wp2_with fail
 go_quiet (fail)
 have HL3:=hide (HL2.out.on (below_drewN (Below.refl _ W2) nq))
 have HB3:Hid (ThB (W2.drewN nq) w.heap.size t):=hide HB2.out
 have HBb3:=hide (HBb2.out.trans ((below_drewN (Below.refl _ W2) nq).mono HBb2.out.size))
 generalize W2.drewN nq=W3 at HL3 HB3 HBb3 ⊢
 clear hlN hcell c2 t0 t1 t2 t3 hlt hbt hgl HL2 HB2 HBb2 HC2
 obtain ⟨_,_,c2⟩:=HL3.out.c0
 obtain ⟨t0,t1,t2,t3⟩:=HB3.out.cs
 have hlt:=lt_cells HL3.out.blk
 have hbt:=lt_cells HB3.out
 have hld:LK w0 W3.drew n lb nb mb ob km ko K M S ss:=HL3.out.on (Below.refl _ _).drew
 have hlk:=HHl.out _ hld
 obtain ⟨w4,hput,hm4,hb4⟩:=hld.mO.put unOpen HT.out HKo.out (.slice (some ⟨g,0,none⟩) q c)
 have HPop:Hid (LK w0 w4 n lb nb mb ob km (ko+1) (K+1) (M.pop t) (updF S (.inr t) (some (⟨some ⟨g,0,none⟩,(M.op t).length - 1,c⟩,(intP (M.op t)).take ((M.op t).length - 1)))) ss):=hide (by
  have e1:(M.op t).length=q+1:=by rw [HOp.out.1,HOp.out.2,List.length_append];rfl
  refine hld.pop (s:=⟨some ⟨g,0,none⟩,q+1,c⟩) HS.out e1.symm hb4 ?_
  rw [e1]
  exact hm4)
 have HKp4:Hid (Kp w w4):=hide ((Kp.bel (HBb3.out.trans ((Below.refl W3.heap.size W3).drew.mono HBb3.out.size))).trans (Kp.but hb4 fun q cs T hq hT e=>by
  have e9:q=ob:=hq
  rw [e9] at e
  exact tm_ne hld.mO e rfl))
 clear hld hm4 hb4
 go_wp2_with fail
 go_region
 have HLW:Hid (LW w0 w4 n lb (K+1) (M.pop t)):=hide ⟨nb,mb,ob,km,ko+1,_,ss,HPop.out⟩
 have HN1:=hide (need_w (p:=p) (HLW.out.on (below_alloc1 w4 (.cells #[.int .i64 (p:Int)] 3))) HI.out.1 hn (by have:=HI.out.2.2;omega) (x:=w4.heap.size) (c:=1) (TRow.one (y:=sI) (x:=(p:Int)) (heap_new w4 (.cells #[.int .i64 (p:Int)] 3))))
 have HN2:Hid (∀ X,LW w0 X n lb (K+2) ((M.pop t).need i p)→Calls Tryz.prog 99 #[.pointer (some ⟨lb,0,none⟩),.int .i64 (p:Int),.slice (some ⟨X.heap.size,0,none⟩) 1 1] (X.alloc (.cells #[.int .i64 (i:Int)] 3)) fun r w'=>r=.returned (.tuple #[])∧Kp (X.alloc (.cells #[.int .i64 (i:Int)] 3)) w'∧LW w0 w' n lb (K+3) (((M.pop t).need i p).need p i)):=hide (fun X hX=>need_w (p:=i) (hX.on (below_alloc1 X (.cells #[.int .i64 (i:Int)] 3))) HI.out.2.1 hn (by have:=HI.out.2.2;omega) (x:=X.heap.size) (c:=1) (TRow.one (y:=sI) (x:=(i:Int)) (heap_new X (.cells #[.int .i64 (i:Int)] 3))))
 clear c2 t0 t1 t2 t3 hlt hbt hlk hput HL3 HB3 HBb3 HPop HLW HHl HS
 go_wp2_with fail
 refine HN1.out.mono ?_
 rintro r w5 ⟨rfl,hk5,hX5⟩
 have HK5:=hide ((HKp4.out.trans (Kp.bel (below_alloc1 w4 (.cells #[.int .i64 (p:Int)] 3)))).trans hk5)
 have HN3:=hide (HN2.out w5 hX5)
 clear hk5 hX5 HN1 HN2 HKp4
 go_wp2_with fail
 refine HN3.out.mono ?_
 rintro r w6 ⟨rfl,hk6,hX6⟩
 go_wp2
 go_end0
 exact ⟨rfl,(HK5.out.trans (Kp.bel (below_alloc1 w5 (.cells #[.int .i64 (i:Int)] 3)))).trans hk6,hX6⟩
end Go.Proofs.YthgelfdefkbfeaaGreatDoor
namespace Go.Proofs.YthgelfdefkbfeaaGreatDoor
open Go.RowKit Go.Maps
section
variable {w0 w : World} {n lb K i p : Nat} {M : Ls}
theorem lbegin_w (t:Th) (ht:t.ok) (h:LW w0 w n lb K M) (hn:(n:Int)≤9223372036854775806) (hi:i < n) (hK:K≤900000000) :
  Calls Tryz.prog 101 #[.pointer (some ⟨lb,0,none⟩),.int .i64 (i:Int),.agg #[.int .i64 t.s,.int .i64 t.g,.int .u64 t.o,.int .u64 t.a]] w fun r w'=>r=.returned (.tuple #[])∧Kp w w'∧LW w0 w' n lb (K+1) (M.push i t):=by
 obtain ⟨nb,mb,ob,km,ko,S,ss,h1⟩:=h
 exact lbegin_any t ht h1 hn hi hK
theorem lend_w {L0:List Nat} (t:Th) (ht:t.ok) (h:LW w0 w n lb K M) (hn:(n:Int)≤9223372036854775806) (hi:i < n) (hK:K≤900000000) (hop:M.op t=L0++[p]) (hp:p < n) :
  Calls Tryz.prog 102 #[.pointer (some ⟨lb,0,none⟩),.int .i64 (i:Int),.agg #[.int .i64 t.s,.int .i64 t.g,.int .u64 t.o,.int .u64 t.a]] w fun r w'=>r=.returned (.tuple #[])∧Kp w w'∧LW w0 w' n lb (K+3) (((M.pop t).need i p).need p i):=by
 obtain ⟨nb,mb,ob,km,ko,S,ss,h1⟩:=h
 exact lend_any t ht h1 hn hi hK hop hp
theorem LW.upn (h:LW w0 w n lb K M):∀ d,LW w0 w n lb (K+d) M
 | 0=>h
 | d+1=>(LW.upn h d).up
end
def Ls.fin (M:Ls) (i:Nat) (t:Th):Ls:=match (M.op t).getLast? with
 | none=>M
 | some p=>((M.pop t).need i p).need p i
def thG (g:Int):Th:=⟨0,g,0,0⟩
def thL (g o:Int):Th:=⟨1,g,o,0⟩
def thS (g o:Int):Th:=⟨2,g,o,0⟩
def thC (o:Int):Th:=⟨2,0,o,0⟩
def thW (o:Int):Th:=⟨3,0,o,0⟩
def thO (o:Int):Th:=⟨4,0,o,0⟩
def thM (o a:Int):Th:=⟨5,0,o,a⟩
structure Eb4 (g o a:Int):Prop where
 g0:-9223372036854775808≤g
 g1:g≤9223372036854775807
 o0:0≤o
 o1:o≤18446744073709551615
 a0:0≤a
 a1:a≤18446744073709551615
section
variable {g o a : Int}
theorem thG_ok (hb:Eb4 g o a) (hf:a≤9223372036854775807):(thG a).ok:=by have:=hb.a0;constructor <;> simp only [thG] <;> omega
theorem thL_ok (hb:Eb4 g o a):(thL g o).ok:=by have:=hb.g0;have:=hb.g1;have:=hb.o0;have:=hb.o1;constructor <;> simp only [thL] <;> omega
theorem thS_ok (hb:Eb4 g o a):(thS g o).ok:=by have:=hb.g0;have:=hb.g1;have:=hb.o0;have:=hb.o1;constructor <;> simp only [thS] <;> omega
theorem thC_ok (hb:Eb4 g o a):(thC o).ok:=by have:=hb.o0;have:=hb.o1;constructor <;> simp only [thC] <;> omega
theorem thW_ok (hb:Eb4 g o a):(thW o).ok:=by have:=hb.o0;have:=hb.o1;constructor <;> simp only [thW] <;> omega
theorem thO_ok (hb:Eb4 g o a):(thO o).ok:=by have:=hb.o0;have:=hb.o1;constructor <;> simp only [thO] <;> omega
theorem thM_ok (hb:Eb4 g o a):(thM o a).ok:=by have:=hb.o0;have:=hb.o1;have:=hb.a0;have:=hb.a1;constructor <;> simp only [thM] <;> omega
end
theorem take_3 {w0 w:World} {n lb K i:Nat} {M:Ls} (g o a:Int) (sa:Option Addr) (sn sc:Nat) (hb:Eb4 g o a) (h:LW w0 w n lb K M) (hn:(n:Int)≤9223372036854775806) (hi:i < n) (hK:K≤800000000) :
  Calls Tryz.prog 49 #[.pointer (some ⟨lb,0,none⟩),.int .i64 (i:Int),.agg #[.int .i64 g,.int .i64 3,.int .u64 o,.int .u64 a,.slice sa sn sc]] w fun r w'=>r=.returned (.tuple #[])∧Kp w w'∧LW w0 w' n lb (K+5) (M.push i (thL g o)):=by
 obtain ⟨W,hW⟩:∃ W,W=w.alloc (.cells #[.int .i64 g,.int .i64 3,.int .u64 o,.int .u64 a,.slice sa sn sc] 43):=⟨_,rfl⟩
 have hbW:Below w.heap.size w W:=by rw [hW];exact below_alloc1 _ _
 have hB:W.heap[w.heap.size]?=some (.cells #[.int .i64 g,.int .i64 3,.int .u64 o,.int .u64 a,.slice sa sn sc] 43 (0,0)):=by rw [hW];exact heap_new _ _
 have HBx:=hide hB
 have HKp:=hide (Kp.bel hbW)
 have hL:=h.on hbW
 have HC0:=hide (lbegin_w (thL g o) (thL_ok hb) hL hn hi (by omega))
 unfold thL at HC0
 dsimp only at HC0
 rw [hW] at HC0
 have HW:=hide hW
 clear hW hbW hB hL h hb
 go_enter Tryz.func49,Tryz.ntmps49
 go_wp2_with fail
 refine HC0.out.mono ?_
 rintro r w2 ⟨rfl,hk2,hX2⟩
 rw [← HW.out] at hk2
 go_wp2
 go_end0
 exact ⟨rfl,HKp.out.trans hk2,hX2.upn 4⟩
theorem take_4 {w0 w:World} {n lb K i:Nat} {M:Ls} (g o a:Int) (sa:Option Addr) (sn sc:Nat) (hb:Eb4 g o a) (h:LW w0 w n lb K M) (hn:(n:Int)≤9223372036854775806) (hi:i < n) (hK:K≤800000000) (hop:∃ L0 p,M.op (thL g o)=L0++[p]∧p < n) :
  Calls Tryz.prog 49 #[.pointer (some ⟨lb,0,none⟩),.int .i64 (i:Int),.agg #[.int .i64 g,.int .i64 4,.int .u64 o,.int .u64 a,.slice sa sn sc]] w fun r w'=>r=.returned (.tuple #[])∧Kp w w'∧LW w0 w' n lb (K+5) (M.fin i (thL g o)):=by
 obtain ⟨W,hW⟩:∃ W,W=w.alloc (.cells #[.int .i64 g,.int .i64 4,.int .u64 o,.int .u64 a,.slice sa sn sc] 43):=⟨_,rfl⟩
 have hbW:Below w.heap.size w W:=by rw [hW];exact below_alloc1 _ _
 have hB:W.heap[w.heap.size]?=some (.cells #[.int .i64 g,.int .i64 4,.int .u64 o,.int .u64 a,.slice sa sn sc] 43 (0,0)):=by rw [hW];exact heap_new _ _
 have HBx:=hide hB
 have HKp:=hide (Kp.bel hbW)
 have hL:=h.on hbW
 obtain ⟨L0,p,hop,hp⟩:=hop
 have HM0:Hid (M.fin i (thL g o)=((M.pop (thL g o)).need i p).need p i):=hide (by unfold Ls.fin;rw [hop,List.getLast?_concat])
 have HC0:=hide (lend_w (p:=p) (thL g o) (thL_ok hb) hL hn hi (by omega) hop hp)
 rw [← HM0.out] at HC0
 dsimp only [thL] at HC0
 rw [hW] at HC0
 have HW:=hide hW
 clear hW hbW hB hL h hb hop
 go_enter Tryz.func49,Tryz.ntmps49
 go_wp2_with fail
 refine HC0.out.mono ?_
 rintro r w2 ⟨rfl,hk2,hX2⟩
 rw [← HW.out] at hk2
 go_wp2
 go_end0
 exact ⟨rfl,HKp.out.trans hk2,hX2.upn 2⟩
theorem take_5 {w0 w:World} {n lb K i:Nat} {M:Ls} (g o a:Int) (sa:Option Addr) (sn sc:Nat) (hb:Eb4 g o a) (h:LW w0 w n lb K M) (hn:(n:Int)≤9223372036854775806) (hi:i < n) (hK:K≤800000000) :
  Calls Tryz.prog 49 #[.pointer (some ⟨lb,0,none⟩),.int .i64 (i:Int),.agg #[.int .i64 g,.int .i64 5,.int .u64 o,.int .u64 a,.slice sa sn sc]] w fun r w'=>r=.returned (.tuple #[])∧Kp w w'∧LW w0 w' n lb (K+5) (M.push i (thL g o)):=by
 obtain ⟨W,hW⟩:∃ W,W=w.alloc (.cells #[.int .i64 g,.int .i64 5,.int .u64 o,.int .u64 a,.slice sa sn sc] 43):=⟨_,rfl⟩
 have hbW:Below w.heap.size w W:=by rw [hW];exact below_alloc1 _ _
 have hB:W.heap[w.heap.size]?=some (.cells #[.int .i64 g,.int .i64 5,.int .u64 o,.int .u64 a,.slice sa sn sc] 43 (0,0)):=by rw [hW];exact heap_new _ _
 have HBx:=hide hB
 have HKp:=hide (Kp.bel hbW)
 have hL:=h.on hbW
 have HC0:=hide (lbegin_w (thL g o) (thL_ok hb) hL hn hi (by omega))
 unfold thL at HC0
 dsimp only at HC0
 rw [hW] at HC0
 have HW:=hide hW
 clear hW hbW hB hL h hb
 go_enter Tryz.func49,Tryz.ntmps49
 go_wp2_with fail
 refine HC0.out.mono ?_
 rintro r w2 ⟨rfl,hk2,hX2⟩
 rw [← HW.out] at hk2
 go_wp2
 go_end0
 exact ⟨rfl,HKp.out.trans hk2,hX2.upn 4⟩
theorem take_6 {w0 w:World} {n lb K i:Nat} {M:Ls} (g o a:Int) (sa:Option Addr) (sn sc:Nat) (hb:Eb4 g o a) (h:LW w0 w n lb K M) (hn:(n:Int)≤9223372036854775806) (hi:i < n) (hK:K≤800000000) (hop:∃ L0 p,M.op (thL g o)=L0++[p]∧p < n) :
  Calls Tryz.prog 49 #[.pointer (some ⟨lb,0,none⟩),.int .i64 (i:Int),.agg #[.int .i64 g,.int .i64 6,.int .u64 o,.int .u64 a,.slice sa sn sc]] w fun r w'=>r=.returned (.tuple #[])∧Kp w w'∧LW w0 w' n lb (K+5) (M.fin i (thL g o)):=by
 obtain ⟨W,hW⟩:∃ W,W=w.alloc (.cells #[.int .i64 g,.int .i64 6,.int .u64 o,.int .u64 a,.slice sa sn sc] 43):=⟨_,rfl⟩
 have hbW:Below w.heap.size w W:=by rw [hW];exact below_alloc1 _ _
 have hB:W.heap[w.heap.size]?=some (.cells #[.int .i64 g,.int .i64 6,.int .u64 o,.int .u64 a,.slice sa sn sc] 43 (0,0)):=by rw [hW];exact heap_new _ _
 have HBx:=hide hB
 have HKp:=hide (Kp.bel hbW)
 have hL:=h.on hbW
 obtain ⟨L0,p,hop,hp⟩:=hop
 have HM0:Hid (M.fin i (thL g o)=((M.pop (thL g o)).need i p).need p i):=hide (by unfold Ls.fin;rw [hop,List.getLast?_concat])
 have HC0:=hide (lend_w (p:=p) (thL g o) (thL_ok hb) hL hn hi (by omega) hop hp)
 rw [← HM0.out] at HC0
 dsimp only [thL] at HC0
 rw [hW] at HC0
 have HW:=hide hW
 clear hW hbW hB hL h hb hop
 go_enter Tryz.func49,Tryz.ntmps49
 go_wp2_with fail
 refine HC0.out.mono ?_
 rintro r w2 ⟨rfl,hk2,hX2⟩
 rw [← HW.out] at hk2
 go_wp2
 go_end0
 exact ⟨rfl,HKp.out.trans hk2,hX2.upn 2⟩
theorem take_7 {w0 w:World} {n lb K i:Nat} {M:Ls} (g o a:Int) (sa:Option Addr) (sn sc:Nat) (hb:Eb4 g o a) (hf:a≤9223372036854775807) (h:LW w0 w n lb K M) (hn:(n:Int)≤9223372036854775806) (hi:i < n) (hK:K≤800000000) :
  Calls Tryz.prog 49 #[.pointer (some ⟨lb,0,none⟩),.int .i64 (i:Int),.agg #[.int .i64 g,.int .i64 7,.int .u64 o,.int .u64 a,.slice sa sn sc]] w fun r w'=>r=.returned (.tuple #[])∧Kp w w'∧LW w0 w' n lb (K+5) (M.lead i (thG a)):=by
 obtain ⟨W,hW⟩:∃ W,W=w.alloc (.cells #[.int .i64 g,.int .i64 7,.int .u64 o,.int .u64 a,.slice sa sn sc] 43):=⟨_,rfl⟩
 have hbW:Below w.heap.size w W:=by rw [hW];exact below_alloc1 _ _
 have hB:W.heap[w.heap.size]?=some (.cells #[.int .i64 g,.int .i64 7,.int .u64 o,.int .u64 a,.slice sa sn sc] 43 (0,0)):=by rw [hW];exact heap_new _ _
 have HBx:=hide hB
 have HKp:=hide (Kp.bel hbW)
 have hL:=h.on hbW
 have hwa:IntKind.i64.wrap a=a:=by rw [IntKind.wrap_i64];have:=hb.a0;omega
 have HC0:=hide (lead_w (thG a) (thG_ok hb hf) hL hn hi (by omega))
 unfold thG at HC0
 dsimp only at HC0
 rw [hW] at HC0
 have HW:=hide hW
 clear hW hbW hB hL h hb
 go_enter Tryz.func49,Tryz.ntmps49
 go_wp2_with fail
 refine HC0.out.mono ?_
 rintro r w2 ⟨rfl,hk2,hX2⟩
 rw [← HW.out] at hk2
 go_wp2
 go_end0
 exact ⟨rfl,HKp.out.trans hk2,hX2.upn 4⟩
theorem take_8 {w0 w:World} {n lb K i:Nat} {M:Ls} (g o a:Int) (sa:Option Addr) (sn sc:Nat) (hb:Eb4 g o a) (hf:a≤9223372036854775807) (h:LW w0 w n lb K M) (hn:(n:Int)≤9223372036854775806) (hi:i < n) (hK:K≤800000000) :
  Calls Tryz.prog 49 #[.pointer (some ⟨lb,0,none⟩),.int .i64 (i:Int),.agg #[.int .i64 g,.int .i64 8,.int .u64 o,.int .u64 a,.slice sa sn sc]] w fun r w'=>r=.returned (.tuple #[])∧Kp w w'∧LW w0 w' n lb (K+5) (M.follow i (thG a)):=by
 obtain ⟨W,hW⟩:∃ W,W=w.alloc (.cells #[.int .i64 g,.int .i64 8,.int .u64 o,.int .u64 a,.slice sa sn sc] 43):=⟨_,rfl⟩
 have hbW:Below w.heap.size w W:=by rw [hW];exact below_alloc1 _ _
 have hB:W.heap[w.heap.size]?=some (.cells #[.int .i64 g,.int .i64 8,.int .u64 o,.int .u64 a,.slice sa sn sc] 43 (0,0)):=by rw [hW];exact heap_new _ _
 have HBx:=hide hB
 have HKp:=hide (Kp.bel hbW)
 have hL:=h.on hbW
 have hwa:IntKind.i64.wrap a=a:=by rw [IntKind.wrap_i64];have:=hb.a0;omega
 have HC0:=hide (follow_w (thG a) (thG_ok hb hf) hL hn hi (by omega))
 unfold thG at HC0
 dsimp only at HC0
 rw [hW] at HC0
 have HW:=hide hW
 clear hW hbW hB hL h hb
 go_enter Tryz.func49,Tryz.ntmps49
 go_wp2_with fail
 refine HC0.out.mono ?_
 rintro r w2 ⟨rfl,hk2,hX2⟩
 rw [← HW.out] at hk2
 go_wp2
 go_end0
 exact ⟨rfl,HKp.out.trans hk2,hX2.upn 4⟩
theorem take_9 {w0 w:World} {n lb K i:Nat} {M:Ls} (g o a:Int) (sa:Option Addr) (sn sc:Nat) (hb:Eb4 g o a) (h:LW w0 w n lb K M) (hn:(n:Int)≤9223372036854775806) (hi:i < n) (hK:K≤800000000) :
  Calls Tryz.prog 49 #[.pointer (some ⟨lb,0,none⟩),.int .i64 (i:Int),.agg #[.int .i64 g,.int .i64 9,.int .u64 o,.int .u64 a,.slice sa sn sc]] w fun r w'=>r=.returned (.tuple #[])∧Kp w w'∧LW w0 w' n lb (K+5) (M.chain i (thC o)):=by
 obtain ⟨W,hW⟩:∃ W,W=w.alloc (.cells #[.int .i64 g,.int .i64 9,.int .u64 o,.int .u64 a,.slice sa sn sc] 43):=⟨_,rfl⟩
 have hbW:Below w.heap.size w W:=by rw [hW];exact below_alloc1 _ _
 have hB:W.heap[w.heap.size]?=some (.cells #[.int .i64 g,.int .i64 9,.int .u64 o,.int .u64 a,.slice sa sn sc] 43 (0,0)):=by rw [hW];exact heap_new _ _
 have HBx:=hide hB
 have HKp:=hide (Kp.bel hbW)
 have hL:=h.on hbW
 have HC0:=hide (chain_w (thC o) (thC_ok hb) hL hn hi (by omega))
 unfold thC at HC0
 dsimp only at HC0
 rw [hW] at HC0
 have HW:=hide hW
 clear hW hbW hB hL h hb
 go_enter Tryz.func49,Tryz.ntmps49
 go_wp2_with fail
 refine HC0.out.mono ?_
 rintro r w2 ⟨rfl,hk2,hX2⟩
 rw [← HW.out] at hk2
 go_wp2
 go_end0
 exact ⟨rfl,HKp.out.trans hk2,hX2.upn 3⟩
theorem take_10 {w0 w:World} {n lb K i:Nat} {M:Ls} (g o a:Int) (sa:Option Addr) (sn sc:Nat) (hb:Eb4 g o a) (h:LW w0 w n lb K M) (hn:(n:Int)≤9223372036854775806) (hi:i < n) (hK:K≤800000000) :
  Calls Tryz.prog 49 #[.pointer (some ⟨lb,0,none⟩),.int .i64 (i:Int),.agg #[.int .i64 g,.int .i64 10,.int .u64 o,.int .u64 a,.slice sa sn sc]] w fun r w'=>r=.returned (.tuple #[])∧Kp w w'∧LW w0 w' n lb (K+5) ((M.push i (thS g o)).chain i (thC o)):=by
 obtain ⟨W,hW⟩:∃ W,W=w.alloc (.cells #[.int .i64 g,.int .i64 10,.int .u64 o,.int .u64 a,.slice sa sn sc] 43):=⟨_,rfl⟩
 have hbW:Below w.heap.size w W:=by rw [hW];exact below_alloc1 _ _
 have hB:W.heap[w.heap.size]?=some (.cells #[.int .i64 g,.int .i64 10,.int .u64 o,.int .u64 a,.slice sa sn sc] 43 (0,0)):=by rw [hW];exact heap_new _ _
 have HBx:=hide hB
 have HKp:=hide (Kp.bel hbW)
 have hL:=h.on hbW
 have HC0:=hide (lbegin_w (thS g o) (thS_ok hb) hL hn hi (by omega))
 unfold thS at HC0
 dsimp only at HC0
 have HC1:=hide (fun X M' (hX:LW w0 X n lb (K+1) M')=>chain_w (thC o) (thC_ok hb) hX hn hi (by omega))
 unfold thC at HC1
 dsimp only at HC1
 rw [hW] at HC0
 have HW:=hide hW
 clear hW hbW hB hL h hb
 go_enter Tryz.func49,Tryz.ntmps49
 go_wp2_with fail
 refine HC0.out.mono ?_
 rintro r w2 ⟨rfl,hk2,hX2⟩
 rw [← HW.out] at hk2
 have hB2:=hk2 _ _ 43 (.inr rfl) HBx.out
 have q0:w2.cell? ⟨w.heap.size,0,none⟩=some (.int .i64 g):=cell_at hB2 rfl
 have q1:w2.cell? ⟨w.heap.size,1,none⟩=some (.int .i64 10):=cell_at hB2 rfl
 have q2:w2.cell? ⟨w.heap.size,2,none⟩=some (.int .u64 o):=cell_at hB2 rfl
 have HK2:=hide (HKp.out.trans hk2)
 have HC3:=hide (HC1.out w2 _ hX2)
 clear hk2 hX2 HC0 HC1 hB2
 go_wp2_with fail
 refine HC3.out.mono ?_
 rintro r w3 ⟨rfl,hk3,hX3⟩
 go_wp2
 go_end0
 exact ⟨rfl,HK2.out.trans hk3,hX3.upn 2⟩
theorem take_11 {w0 w:World} {n lb K i:Nat} {M:Ls} (g o a:Int) (sa:Option Addr) (sn sc:Nat) (hb:Eb4 g o a) (h:LW w0 w n lb K M) (hn:(n:Int)≤9223372036854775806) (hi:i < n) (hK:K≤800000000) (hop:∃ L0 p,M.op (thS g o)=L0++[p]∧p < n) :
  Calls Tryz.prog 49 #[.pointer (some ⟨lb,0,none⟩),.int .i64 (i:Int),.agg #[.int .i64 g,.int .i64 11,.int .u64 o,.int .u64 a,.slice sa sn sc]] w fun r w'=>r=.returned (.tuple #[])∧Kp w w'∧LW w0 w' n lb (K+5) ((M.fin i (thS g o)).chain i (thC o)):=by
 obtain ⟨W,hW⟩:∃ W,W=w.alloc (.cells #[.int .i64 g,.int .i64 11,.int .u64 o,.int .u64 a,.slice sa sn sc] 43):=⟨_,rfl⟩
 have hbW:Below w.heap.size w W:=by rw [hW];exact below_alloc1 _ _
 have hB:W.heap[w.heap.size]?=some (.cells #[.int .i64 g,.int .i64 11,.int .u64 o,.int .u64 a,.slice sa sn sc] 43 (0,0)):=by rw [hW];exact heap_new _ _
 have HBx:=hide hB
 have HKp:=hide (Kp.bel hbW)
 have hL:=h.on hbW
 obtain ⟨L0,p,hop,hp⟩:=hop
 have HM0:Hid (M.fin i (thS g o)=((M.pop (thS g o)).need i p).need p i):=hide (by unfold Ls.fin;rw [hop,List.getLast?_concat])
 have HC0:=hide (lend_w (p:=p) (thS g o) (thS_ok hb) hL hn hi (by omega) hop hp)
 rw [← HM0.out] at HC0
 dsimp only [thS] at HC0
 have HC1:=hide (fun X M' (hX:LW w0 X n lb (K+3) M')=>chain_w (thC o) (thC_ok hb) hX hn hi (by omega))
 unfold thC at HC1
 dsimp only at HC1
 rw [hW] at HC0
 have HW:=hide hW
 clear hW hbW hB hL h hb hop
 go_enter Tryz.func49,Tryz.ntmps49
 go_wp2_with fail
 refine HC0.out.mono ?_
 rintro r w2 ⟨rfl,hk2,hX2⟩
 rw [← HW.out] at hk2
 have hB2:=hk2 _ _ 43 (.inr rfl) HBx.out
 have q0:w2.cell? ⟨w.heap.size,0,none⟩=some (.int .i64 g):=cell_at hB2 rfl
 have q1:w2.cell? ⟨w.heap.size,1,none⟩=some (.int .i64 11):=cell_at hB2 rfl
 have q2:w2.cell? ⟨w.heap.size,2,none⟩=some (.int .u64 o):=cell_at hB2 rfl
 have HK2:=hide (HKp.out.trans hk2)
 have HC3:=hide (HC1.out w2 _ hX2)
 clear hk2 hX2 HC0 HC1 hB2
 go_wp2_with fail
 refine HC3.out.mono ?_
 rintro r w3 ⟨rfl,hk3,hX3⟩
 go_wp2
 go_end0
 exact ⟨rfl,HK2.out.trans hk3,hX3.upn 0⟩
theorem take_12 {w0 w:World} {n lb K i:Nat} {M:Ls} (g o a:Int) (sa:Option Addr) (sn sc:Nat) (hb:Eb4 g o a) (h:LW w0 w n lb K M) (hn:(n:Int)≤9223372036854775806) (hi:i < n) (hK:K≤800000000) :
  Calls Tryz.prog 49 #[.pointer (some ⟨lb,0,none⟩),.int .i64 (i:Int),.agg #[.int .i64 g,.int .i64 12,.int .u64 o,.int .u64 a,.slice sa sn sc]] w fun r w'=>r=.returned (.tuple #[])∧Kp w w'∧LW w0 w' n lb (K+5) (M.chain i (thC o)):=by
 obtain ⟨W,hW⟩:∃ W,W=w.alloc (.cells #[.int .i64 g,.int .i64 12,.int .u64 o,.int .u64 a,.slice sa sn sc] 43):=⟨_,rfl⟩
 have hbW:Below w.heap.size w W:=by rw [hW];exact below_alloc1 _ _
 have hB:W.heap[w.heap.size]?=some (.cells #[.int .i64 g,.int .i64 12,.int .u64 o,.int .u64 a,.slice sa sn sc] 43 (0,0)):=by rw [hW];exact heap_new _ _
 have HBx:=hide hB
 have HKp:=hide (Kp.bel hbW)
 have hL:=h.on hbW
 have HC0:=hide (chain_w (thC o) (thC_ok hb) hL hn hi (by omega))
 unfold thC at HC0
 dsimp only at HC0
 rw [hW] at HC0
 have HW:=hide hW
 clear hW hbW hB hL h hb
 go_enter Tryz.func49,Tryz.ntmps49
 go_wp2_with fail
 refine HC0.out.mono ?_
 rintro r w2 ⟨rfl,hk2,hX2⟩
 rw [← HW.out] at hk2
 go_wp2
 go_end0
 exact ⟨rfl,HKp.out.trans hk2,hX2.upn 3⟩
theorem take_13 {w0 w:World} {n lb K i:Nat} {M:Ls} (g o a:Int) (sa:Option Addr) (sn sc:Nat) (hb:Eb4 g o a) (h:LW w0 w n lb K M) (hn:(n:Int)≤9223372036854775806) (hi:i < n) (hK:K≤800000000) :
  Calls Tryz.prog 49 #[.pointer (some ⟨lb,0,none⟩),.int .i64 (i:Int),.agg #[.int .i64 g,.int .i64 13,.int .u64 o,.int .u64 a,.slice sa sn sc]] w fun r w'=>r=.returned (.tuple #[])∧Kp w w'∧LW w0 w' n lb (K+5) (M.chain i (thC o)):=by
 obtain ⟨W,hW⟩:∃ W,W=w.alloc (.cells #[.int .i64 g,.int .i64 13,.int .u64 o,.int .u64 a,.slice sa sn sc] 43):=⟨_,rfl⟩
 have hbW:Below w.heap.size w W:=by rw [hW];exact below_alloc1 _ _
 have hB:W.heap[w.heap.size]?=some (.cells #[.int .i64 g,.int .i64 13,.int .u64 o,.int .u64 a,.slice sa sn sc] 43 (0,0)):=by rw [hW];exact heap_new _ _
 have HBx:=hide hB
 have HKp:=hide (Kp.bel hbW)
 have hL:=h.on hbW
 have HC0:=hide (chain_w (thC o) (thC_ok hb) hL hn hi (by omega))
 unfold thC at HC0
 dsimp only at HC0
 rw [hW] at HC0
 have HW:=hide hW
 clear hW hbW hB hL h hb
 go_enter Tryz.func49,Tryz.ntmps49
 go_wp2_with fail
 refine HC0.out.mono ?_
 rintro r w2 ⟨rfl,hk2,hX2⟩
 rw [← HW.out] at hk2
 go_wp2
 go_end0
 exact ⟨rfl,HKp.out.trans hk2,hX2.upn 3⟩
theorem take_14 {w0 w:World} {n lb K i:Nat} {M:Ls} (g o a:Int) (sa:Option Addr) (sn sc:Nat) (hb:Eb4 g o a) (h:LW w0 w n lb K M) (hn:(n:Int)≤9223372036854775806) (hi:i < n) (hK:K≤800000000) :
  Calls Tryz.prog 49 #[.pointer (some ⟨lb,0,none⟩),.int .i64 (i:Int),.agg #[.int .i64 g,.int .i64 14,.int .u64 o,.int .u64 a,.slice sa sn sc]] w fun r w'=>r=.returned (.tuple #[])∧Kp w w'∧LW w0 w' n lb (K+5) (M.chain i (thW o)):=by
 obtain ⟨W,hW⟩:∃ W,W=w.alloc (.cells #[.int .i64 g,.int .i64 14,.int .u64 o,.int .u64 a,.slice sa sn sc] 43):=⟨_,rfl⟩
 have hbW:Below w.heap.size w W:=by rw [hW];exact below_alloc1 _ _
 have hB:W.heap[w.heap.size]?=some (.cells #[.int .i64 g,.int .i64 14,.int .u64 o,.int .u64 a,.slice sa sn sc] 43 (0,0)):=by rw [hW];exact heap_new _ _
 have HBx:=hide hB
 have HKp:=hide (Kp.bel hbW)
 have hL:=h.on hbW
 have HC0:=hide (chain_w (thW o) (thW_ok hb) hL hn hi (by omega))
 unfold thW at HC0
 dsimp only at HC0
 rw [hW] at HC0
 have HW:=hide hW
 clear hW hbW hB hL h hb
 go_enter Tryz.func49,Tryz.ntmps49
 go_wp2_with fail
 refine HC0.out.mono ?_
 rintro r w2 ⟨rfl,hk2,hX2⟩
 rw [← HW.out] at hk2
 go_wp2
 go_end0
 exact ⟨rfl,HKp.out.trans hk2,hX2.upn 3⟩
theorem take_15 {w0 w:World} {n lb K i:Nat} {M:Ls} (g o a:Int) (sa:Option Addr) (sn sc:Nat) (hb:Eb4 g o a) (h:LW w0 w n lb K M) (hn:(n:Int)≤9223372036854775806) (hi:i < n) (hK:K≤800000000) :
  Calls Tryz.prog 49 #[.pointer (some ⟨lb,0,none⟩),.int .i64 (i:Int),.agg #[.int .i64 g,.int .i64 15,.int .u64 o,.int .u64 a,.slice sa sn sc]] w fun r w'=>r=.returned (.tuple #[])∧Kp w w'∧LW w0 w' n lb (K+5) (M.follow i (thW o)):=by
 obtain ⟨W,hW⟩:∃ W,W=w.alloc (.cells #[.int .i64 g,.int .i64 15,.int .u64 o,.int .u64 a,.slice sa sn sc] 43):=⟨_,rfl⟩
 have hbW:Below w.heap.size w W:=by rw [hW];exact below_alloc1 _ _
 have hB:W.heap[w.heap.size]?=some (.cells #[.int .i64 g,.int .i64 15,.int .u64 o,.int .u64 a,.slice sa sn sc] 43 (0,0)):=by rw [hW];exact heap_new _ _
 have HBx:=hide hB
 have HKp:=hide (Kp.bel hbW)
 have hL:=h.on hbW
 have HC0:=hide (follow_w (thW o) (thW_ok hb) hL hn hi (by omega))
 unfold thW at HC0
 dsimp only at HC0
 rw [hW] at HC0
 have HW:=hide hW
 clear hW hbW hB hL h hb
 go_enter Tryz.func49,Tryz.ntmps49
 go_wp2_with fail
 refine HC0.out.mono ?_
 rintro r w2 ⟨rfl,hk2,hX2⟩
 rw [← HW.out] at hk2
 go_wp2
 go_end0
 exact ⟨rfl,HKp.out.trans hk2,hX2.upn 4⟩
theorem take_20 {w0 w:World} {n lb K i:Nat} {M:Ls} (g o a:Int) (sa:Option Addr) (sn sc:Nat) (hb:Eb4 g o a) (h:LW w0 w n lb K M) (hn:(n:Int)≤9223372036854775806) (hi:i < n) (hK:K≤800000000) :
  Calls Tryz.prog 49 #[.pointer (some ⟨lb,0,none⟩),.int .i64 (i:Int),.agg #[.int .i64 g,.int .i64 20,.int .u64 o,.int .u64 a,.slice sa sn sc]] w fun r w'=>r=.returned (.tuple #[])∧Kp w w'∧LW w0 w' n lb (K+5) (M.push i (thM o a)):=by
 obtain ⟨W,hW⟩:∃ W,W=w.alloc (.cells #[.int .i64 g,.int .i64 20,.int .u64 o,.int .u64 a,.slice sa sn sc] 43):=⟨_,rfl⟩
 have hbW:Below w.heap.size w W:=by rw [hW];exact below_alloc1 _ _
 have hB:W.heap[w.heap.size]?=some (.cells #[.int .i64 g,.int .i64 20,.int .u64 o,.int .u64 a,.slice sa sn sc] 43 (0,0)):=by rw [hW];exact heap_new _ _
 have HBx:=hide hB
 have HKp:=hide (Kp.bel hbW)
 have hL:=h.on hbW
 have HC0:=hide (lbegin_w (thM o a) (thM_ok hb) hL hn hi (by omega))
 unfold thM at HC0
 dsimp only at HC0
 rw [hW] at HC0
 have HW:=hide hW
 clear hW hbW hB hL h hb
 go_enter Tryz.func49,Tryz.ntmps49
 go_wp2_with fail
 refine HC0.out.mono ?_
 rintro r w2 ⟨rfl,hk2,hX2⟩
 rw [← HW.out] at hk2
 go_wp2
 go_end0
 exact ⟨rfl,HKp.out.trans hk2,hX2.upn 4⟩
theorem take_21 {w0 w:World} {n lb K i:Nat} {M:Ls} (g o a:Int) (sa:Option Addr) (sn sc:Nat) (hb:Eb4 g o a) (h:LW w0 w n lb K M) (hn:(n:Int)≤9223372036854775806) (hi:i < n) (hK:K≤800000000) (hop:∃ L0 p,M.op (thM o a)=L0++[p]∧p < n) :
  Calls Tryz.prog 49 #[.pointer (some ⟨lb,0,none⟩),.int .i64 (i:Int),.agg #[.int .i64 g,.int .i64 21,.int .u64 o,.int .u64 a,.slice sa sn sc]] w fun r w'=>r=.returned (.tuple #[])∧Kp w w'∧LW w0 w' n lb (K+5) (M.fin i (thM o a)):=by
 obtain ⟨W,hW⟩:∃ W,W=w.alloc (.cells #[.int .i64 g,.int .i64 21,.int .u64 o,.int .u64 a,.slice sa sn sc] 43):=⟨_,rfl⟩
 have hbW:Below w.heap.size w W:=by rw [hW];exact below_alloc1 _ _
 have hB:W.heap[w.heap.size]?=some (.cells #[.int .i64 g,.int .i64 21,.int .u64 o,.int .u64 a,.slice sa sn sc] 43 (0,0)):=by rw [hW];exact heap_new _ _
 have HBx:=hide hB
 have HKp:=hide (Kp.bel hbW)
 have hL:=h.on hbW
 obtain ⟨L0,p,hop,hp⟩:=hop
 have HM0:Hid (M.fin i (thM o a)=((M.pop (thM o a)).need i p).need p i):=hide (by unfold Ls.fin;rw [hop,List.getLast?_concat])
 have HC0:=hide (lend_w (p:=p) (thM o a) (thM_ok hb) hL hn hi (by omega) hop hp)
 rw [← HM0.out] at HC0
 dsimp only [thM] at HC0
 rw [hW] at HC0
 have HW:=hide hW
 clear hW hbW hB hL h hb hop
 go_enter Tryz.func49,Tryz.ntmps49
 go_wp2_with fail
 refine HC0.out.mono ?_
 rintro r w2 ⟨rfl,hk2,hX2⟩
 rw [← HW.out] at hk2
 go_wp2
 go_end0
 exact ⟨rfl,HKp.out.trans hk2,hX2.upn 2⟩
end Go.Proofs.YthgelfdefkbfeaaGreatDoor
