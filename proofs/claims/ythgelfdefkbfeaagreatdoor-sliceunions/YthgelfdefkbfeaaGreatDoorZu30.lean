import Derived.Test.YthgelfdefkbfeaaGreatDoorZu29
import Derived.Test.YthgelfdefkbfeaaGreatDoorZu26
set_option maxRecDepth 8000
set_option maxHeartbeats 8000000
set_option linter.unusedVariables false
namespace Go.Proofs.YthgelfdefkbfeaaGreatDoor
open Go.RowKit Go.Maps
theorem take_16a {w0 w:World} {n lb K i:Nat} {M:Ls} (g o:Int) (sa:Option Addr) (sn sc:Nat) (hb:Eb4 g o 1) (h:LW w0 w n lb K M) (hn:(n:Int)≤9223372036854775806) (hi:i < n) (hK:K≤800000000) :
  Calls Tryz.prog 49 #[.pointer (some ⟨lb,0,none⟩),.int .i64 (i:Int),.agg #[.int .i64 g,.int .i64 16,.int .u64 o,.int .u64 1,.slice sa sn sc]] w fun r w'=>r=.returned (.tuple #[])∧Kp w w'∧LW w0 w' n lb (K+5) (M.lead i (thO o)):=by
 obtain ⟨W,hW⟩:∃ W,W=w.alloc (.cells #[.int .i64 g,.int .i64 16,.int .u64 o,.int .u64 1,.slice sa sn sc] 43):=⟨_,rfl⟩
 have hbW:Below w.heap.size w W:=by rw [hW];exact below_alloc1 _ _
 have HKp:=hide (Kp.bel hbW)
 have hL:=h.on hbW
 have HC0:=hide (lead_w (thO o) (thO_ok hb) hL hn hi (by omega))
 unfold thO at HC0
 dsimp only at HC0
 rw [hW] at HC0
 have HW:=hide hW
 clear hW hbW hL h hb
 go_enter Tryz.func49,Tryz.ntmps49
 go_wp2_with fail
 refine HC0.out.mono ?_
 rintro r w2 ⟨rfl,hk2,hX2⟩
 rw [← HW.out] at hk2
 go_wp2
 go_end0
 exact ⟨rfl,HKp.out.trans hk2,hX2.upn 4⟩
theorem take_16b {w0 w:World} {n lb K i:Nat} {M:Ls} (g o a:Int) (sa:Option Addr) (sn sc:Nat) (hb:Eb4 g o a) (ha:a≠1) (h:LW w0 w n lb K M) (hn:(n:Int)≤9223372036854775806) (hi:i < n) (hK:K≤800000000) :
  Calls Tryz.prog 49 #[.pointer (some ⟨lb,0,none⟩),.int .i64 (i:Int),.agg #[.int .i64 g,.int .i64 16,.int .u64 o,.int .u64 a,.slice sa sn sc]] w fun r w'=>r=.returned (.tuple #[])∧Kp w w'∧LW w0 w' n lb (K+5) (M.follow i (thO o)):=by
 obtain ⟨W,hW⟩:∃ W,W=w.alloc (.cells #[.int .i64 g,.int .i64 16,.int .u64 o,.int .u64 a,.slice sa sn sc] 43):=⟨_,rfl⟩
 have hbW:Below w.heap.size w W:=by rw [hW];exact below_alloc1 _ _
 have HKp:=hide (Kp.bel hbW)
 have hL:=h.on hbW
 have HC0:=hide (follow_w (thO o) (thO_ok hb) hL hn hi (by omega))
 unfold thO at HC0
 dsimp only at HC0
 rw [hW] at HC0
 have HW:=hide hW
 have b1:(a == 1)=false:=by rw [beq_eq_false_iff_ne];exact ha
 clear hW hbW hL h hb ha
 go_enter Tryz.func49,Tryz.ntmps49
 go_wp2_with fail
 refine HC0.out.mono ?_
 rintro r w2 ⟨rfl,hk2,hX2⟩
 rw [← HW.out] at hk2
 go_wp2
 go_end0
 exact ⟨rfl,HKp.out.trans hk2,hX2.upn 4⟩
theorem take_rest {w0 w:World} {n lb K i:Nat} {M:Ls} (g k o a:Int) (sa:Option Addr) (sn sc:Nat) (hk:k=1∨k=2∨k=17∨k=18∨k=19∨k=22) (h:LW w0 w n lb K M) :
  Calls Tryz.prog 49 #[.pointer (some ⟨lb,0,none⟩),.int .i64 (i:Int),.agg #[.int .i64 g,.int .i64 k,.int .u64 o,.int .u64 a,.slice sa sn sc]] w fun r w'=>r=.returned (.tuple #[])∧Kp w w'∧LW w0 w' n lb (K+5) M:=by
 have hbW:Below w.heap.size w (w.alloc (.cells #[.int .i64 g,.int .i64 k,.int .u64 o,.int .u64 a,.slice sa sn sc] 43)):=below_alloc1 _ _
 have HKp:=hide (Kp.bel hbW)
 have HL:=hide (h.on hbW)
 clear hbW h
 rcases hk with rfl|rfl|rfl|rfl|rfl|rfl
 all_goals
  go_enter Tryz.func49,Tryz.ntmps49
  go_wp2
  go_end0
  exact ⟨rfl,HKp.out,HL.out.upn 5⟩
end Go.Proofs.YthgelfdefkbfeaaGreatDoor
namespace Go.Proofs.YthgelfdefkbfeaaGreatDoor
open Go.RowKit Go.Maps
def pushO (O:Th→List Nat) (i:Nat) (t:Th):Th→List Nat:=fun u=>if u=t then O t++[i] else O u
def popO (O:Th→List Nat) (t:Th):Th→List Nat:=fun u=>if u=t then (O t).take ((O t).length - 1) else O u
def opN (O:Th→List Nat) (i:Nat) (e:Me):Th→List Nat :=
 if e.k=3∨e.k=5 then pushO O i (thL e.g e.o)
 else if e.k=4∨e.k=6 then popO O (thL e.g e.o)
 else if e.k=10 then pushO O i (thS e.g e.o)
 else if e.k=11 then popO O (thS e.g e.o)
 else if e.k=20 then pushO O i (thM e.o e.a)
 else if e.k=21 then popO O (thM e.o e.a)
 else O
structure OpI (T:List Me) (O:Th→List Nat) (i:Nat):Prop where
 lk:∀ g o,((O (thL g o)).length:Int)=wT T g o+rT T g o
 sd:∀ g o n,dueT T g=some (o,n)→O (thS g o)≠[]
 me:∀ o a,lvT T o a=true→O (thM o a)≠[]
 lt:∀ t p,p ∈ O t→p < i
section
variable {T : List Me} {M : CS} {e : Me} {r : Gor} {O : Th → List Nat} {i : Nat} {g g' o o' a a' : Int}
theorem thL_inj:thL g o=thL g' o' ↔ g=g'∧o=o':=by simp [thL]
theorem thS_inj:thS g o=thS g' o' ↔ g=g'∧o=o':=by simp [thS]
theorem thM_inj:thM o a=thM o' a' ↔ o=o'∧a=a':=by simp [thM]
theorem thLS:thL g o≠thS g' o':=by simp [thL,thS]
theorem thLM:thL g o≠thM o' a':=by simp [thL,thM]
theorem thSL:thS g o≠thL g' o':=by simp [thL,thS]
theorem thSM:thS g o≠thM o' a':=by simp [thS,thM]
theorem thML:thM o a≠thL g' o':=by simp [thL,thM]
theorem thMS:thM o a≠thS g' o':=by simp [thS,thM]
theorem pushO_same (t:Th):pushO O i t t=O t++[i]:=if_pos rfl
theorem pushO_other {t u:Th} (h:u≠t):pushO O i t u=O u:=if_neg h
theorem popO_same (t:Th):popO O t t=(O t).take ((O t).length - 1):=if_pos rfl
theorem popO_other {t u:Th} (h:u≠t):popO O t u=O u:=if_neg h
theorem OpI.new:OpI [] (fun _=>[]) 0 :=
 ⟨fun g o=>rfl,fun g o n h=>(by cases h),fun o a h=>(by cases h),fun t p h=>(by cases h)⟩
theorem OpI.lock (h:OpI T O i) (hL:LkL T M) (hc:Can M e r) (hk:e.k=4∨e.k=6):1≤(O (thL e.g e.o)).length:=by
 have ha:=ask_lock hc.ask
 have h1:has e.o r.held=true:=by
  rcases hk with hk|hk
  ·exact (ha.a4 hk).2
  ·exact (ha.a6 hk).2
 have h2:=hv_has hL hc.gs h1
 have h3:=hL.eq e.g e.o
 have h4:=h.lk e.g e.o
 omega
theorem OpI.ack (h:OpI T O i) (hD:LkD T M) (hc:Can M e r) (hk:e.k=11):O (thS e.g e.o)≠[]:=by
 have h1:=hc.ask
 have h0:0 < r.as_:=by
  unfold CS.ask CS.askChan at h1
  simp [hk] at h1
  cases hch:M.chans e.o with
  | none=>rw [hch] at h1;simp at h1
  | some c =>
   rw [hch] at h1
   simp at h1
   by_cases h2:0 < r.as_
   ·exact h2
   ·rw [if_neg h2] at h1;simp at h1
 have h2:=(hc.du h0).2
 have h3:=hD.du e.g r hc.gs
 rw [if_pos h0,← h2] at h3
 exact h.sd e.g e.o _ h3
theorem OpI.free (h:OpI T O i) (hA:LkA T M) (hc:Can M e r) (hk:e.k=21):O (thM e.o e.a)≠[] :=
 h.me e.o e.a ((hA.free e.o e.a).1 (ask_free hc.ask hk))
theorem wr_snoc:wT (T++[e]) g o+rT (T++[e]) g o=wT T g o+rT T g o+(if e.g=g∧e.o=o then dl e else 0):=by
 rw [wT_snoc,rT_snoc]
 unfold dl
 by_cases hq:e.g=g∧e.o=o
 ·simp only [if_pos hq]
  by_cases h3:e.k=3
  ·simp [h3];omega
  ·by_cases h4:e.k=4
   ·simp [h4];omega
   ·simp [h3,h4];omega
 ·simp only [if_neg hq];omega
theorem dl_up (h:e.k=3∨e.k=5):dl e=1:=by unfold dl;rcases h with h|h <;> simp [h]
theorem dl_down (h:e.k=4∨e.k=6):dl e=-1:=by unfold dl;rcases h with h|h <;> simp [h]
theorem OpI.step (h:OpI T O i) (hL:LkL T M) (hc:Can M e r):OpI (T++[e]) (opN O i e) (i+1):=by
 have hlk:=h.lock hL hc
 unfold opN
 by_cases h3:e.k=3∨e.k=5
 ·rw [if_pos h3]
  refine ⟨fun g o=>?_,fun g o n hd=>?_,fun o a hl=>?_,fun t p hp=>?_⟩
  ·rw [wr_snoc]
   by_cases hq:e.g=g∧e.o=o
   ·rw [if_pos hq,dl_up h3]
    obtain ⟨rfl,rfl⟩:=hq
    have h1:=h.lk e.g e.o
    rw [pushO_same,List.length_append]
    show (((O (thL e.g e.o)).length+1:Nat):Int)=_
    omega
   ·rw [pushO_other (fun e9=>hq (by rw [thL_inj] at e9;exact ⟨e9.1.symm,e9.2.symm⟩)),if_neg hq]
    have:=h.lk g o
    omega
  ·rw [dueT_snoc] at hd
   rw [pushO_other thSL]
   by_cases hg:e.g=g
   ·rw [if_pos hg,if_neg (by omega)] at hd;cases hd
   ·rw [if_neg hg] at hd;exact h.sd g o n hd
  ·rw [lvT_snoc,if_neg (by omega),if_neg (by omega)] at hl
   rw [pushO_other thML]
   exact h.me o a hl
  ·unfold pushO at hp
   split at hp
   ·rcases List.mem_append.1 hp with hp|hp
    ·have:=h.lt _ p hp;omega
    ·have:p=i:=by simpa using hp
     omega
   ·have:=h.lt t p hp;omega
 rw [if_neg h3]
 by_cases h4:e.k=4∨e.k=6
 ·rw [if_pos h4]
  have hne:=hlk h4
  refine ⟨fun g o=>?_,fun g o n hd=>?_,fun o a hl=>?_,fun t p hp=>?_⟩
  ·rw [wr_snoc]
   by_cases hq:e.g=g∧e.o=o
   ·rw [if_pos hq,dl_down h4]
    obtain ⟨rfl,rfl⟩:=hq
    have h1:=h.lk e.g e.o
    rw [popO_same,List.length_take]
    omega
   ·rw [popO_other (fun e9=>hq (by rw [thL_inj] at e9;exact ⟨e9.1.symm,e9.2.symm⟩)),if_neg hq]
    have:=h.lk g o
    omega
  ·rw [dueT_snoc] at hd
   rw [popO_other thSL]
   by_cases hg:e.g=g
   ·rw [if_pos hg,if_neg (by omega)] at hd;cases hd
   ·rw [if_neg hg] at hd;exact h.sd g o n hd
  ·rw [lvT_snoc,if_neg (by omega),if_neg (by omega)] at hl
   rw [popO_other thML]
   exact h.me o a hl
  ·unfold popO at hp
   split at hp
   ·have:=h.lt _ p (List.mem_of_mem_take hp);omega
   ·have:=h.lt t p hp;omega
 rw [if_neg h4]
 have hn:e.k≠3∧e.k≠4∧e.k≠5∧e.k≠6:=by omega
 have hlk2:∀ g o,wT (T++[e]) g o+rT (T++[e]) g o=wT T g o+rT T g o:=fun g o=>by
  rw [wr_snoc]
  have h0:dl e=0:=by unfold dl;rw [if_neg hn.1,if_neg hn.2.1,if_neg hn.2.2.1,if_neg hn.2.2.2]
  rw [h0]
  split <;> omega
 have lt1:∀ {t u:Th} {p:Nat},p ∈ pushO O i t u→p < i+1:=fun {t u p} hp=>by
  unfold pushO at hp
  split at hp
  ·rcases List.mem_append.1 hp with hp|hp
   ·have:=h.lt _ p hp;omega
   ·have:p=i:=by simpa using hp
    omega
  ·have:=h.lt u p hp;omega
 have lt2:∀ {t u:Th} {p:Nat},p ∈ popO O t u→p < i+1:=fun {t u p} hp=>by
  unfold popO at hp
  split at hp
  ·have:=h.lt _ p (List.mem_of_mem_take hp);omega
  ·have:=h.lt u p hp;omega
 have due:∀ g o n,e.k≠10→dueT (T++[e]) g=some (o,n)→e.g≠g∧dueT T g=some (o,n):=fun g o n hk hd=>by
  rw [dueT_snoc] at hd
  by_cases hg:e.g=g
  ·rw [if_pos hg,if_neg (by omega)] at hd;cases hd
  ·rw [if_neg hg] at hd;exact ⟨hg,hd⟩
 have lvs:∀ o a,e.k≠20→e.k≠21→lvT (T++[e]) o a=true→lvT T o a=true:=fun o a h1 h2 hl=>by
  rw [lvT_snoc,if_neg (by omega),if_neg (by omega)] at hl;exact hl
 by_cases h10:e.k=10
 ·rw [if_pos h10]
  refine ⟨fun g o=>by rw [pushO_other thLS,hlk2];exact h.lk g o,fun g o n hd=>?_,fun o a hl=>by rw [pushO_other thMS];exact h.me o a (lvs o a (by omega) (by omega) hl),fun t p hp=>lt1 hp⟩
  by_cases hq:thS g o=thS e.g e.o
  ·rw [hq,pushO_same];simp
  ·rw [pushO_other hq]
   rw [dueT_snoc] at hd
   by_cases hg:e.g=g
   ·rw [if_pos hg] at hd
    split at hd
    ·cases hd;exact absurd (by rw [hg]) hq
    ·cases hd
   ·rw [if_neg hg] at hd;exact h.sd g o n hd
 rw [if_neg h10]
 by_cases h11:e.k=11
 ·rw [if_pos h11]
  refine ⟨fun g o=>by rw [popO_other thLS,hlk2];exact h.lk g o,fun g o n hd=>?_,fun o a hl=>by rw [popO_other thMS];exact h.me o a (lvs o a (by omega) (by omega) hl),fun t p hp=>lt2 hp⟩
  obtain ⟨hg,hd⟩:=due g o n h10 hd
  rw [popO_other (fun e9=>hg (by rw [thS_inj] at e9;exact e9.1.symm))]
  exact h.sd g o n hd
 rw [if_neg h11]
 by_cases h20:e.k=20
 ·rw [if_pos h20]
  refine ⟨fun g o=>by rw [pushO_other thLM,hlk2];exact h.lk g o,fun g o n hd=>by rw [pushO_other thSM];exact h.sd g o n (due g o n h10 hd).2,fun o a hl=>?_,fun t p hp=>lt1 hp⟩
  by_cases hq:thM o a=thM e.o e.a
  ·rw [hq,pushO_same];simp
  ·rw [pushO_other hq]
   rw [lvT_snoc,if_neg (fun e9=>hq (by rw [e9.2.1,e9.2.2])),if_neg (by omega)] at hl
   exact h.me o a hl
 rw [if_neg h20]
 by_cases h21:e.k=21
 ·rw [if_pos h21]
  refine ⟨fun g o=>by rw [popO_other thLM,hlk2];exact h.lk g o,fun g o n hd=>by rw [popO_other thSM];exact h.sd g o n (due g o n h10 hd).2,fun o a hl=>?_,fun t p hp=>lt2 hp⟩
  by_cases hq:thM o a=thM e.o e.a
  ·rw [thM_inj] at hq
   rw [lvT_snoc,if_neg (by omega),if_pos ⟨h21,hq.1.symm,hq.2.symm⟩] at hl
   cases hl
  ·rw [popO_other hq]
   rw [lvT_snoc,if_neg (by omega)] at hl
   split at hl
   ·cases hl
   ·exact h.me o a hl
 rw [if_neg h21]
 exact ⟨fun g o=>by rw [hlk2];exact h.lk g o,fun g o n hd=>h.sd g o n (due g o n h10 hd).2,fun o a hl=>h.me o a (lvs o a h20 h21 hl),fun t p hp=>by have:=h.lt t p hp;omega⟩
end
end Go.Proofs.YthgelfdefkbfeaaGreatDoor
namespace Go.Proofs.YthgelfdefkbfeaaGreatDoor
open Go.RowKit Go.Maps
def Ls.take (M:Ls) (i:Nat) (e:Me):Ls :=
 if e.k=7 then M.lead i (thG e.a)
 else if e.k=8 then M.follow i (thG e.a)
 else if e.k=3∨e.k=5 then M.push i (thL e.g e.o)
 else if e.k=4∨e.k=6 then M.fin i (thL e.g e.o)
 else if e.k=10 then (M.push i (thS e.g e.o)).chain i (thC e.o)
 else if e.k=11 then (M.fin i (thS e.g e.o)).chain i (thC e.o)
 else if e.k=9∨e.k=12∨e.k=13 then M.chain i (thC e.o)
 else if e.k=14 then M.chain i (thW e.o)
 else if e.k=15 then M.follow i (thW e.o)
 else if e.k=16 then (if e.a=1 then M.lead i (thO e.o) else M.follow i (thO e.o))
 else if e.k=20 then M.push i (thM e.o e.a)
 else if e.k=21 then M.fin i (thM e.o e.a)
 else M
section
variable {M : Ls} {i p : Nat} {t : Th} {e : Me}
theorem follow_op:(M.follow i t).op=M.op:=by
 unfold Ls.follow
 split <;> rfl
theorem chain_op:(M.chain i t).op=M.op:=by
 unfold Ls.chain Ls.lead
 exact follow_op
theorem fin_op:(M.fin i t).op=popO M.op t:=by
 unfold Ls.fin
 cases h:(M.op t).getLast? with
 | none =>
  have h0:M.op t=[]:=List.getLast?_eq_none_iff.1 h
  funext u
  unfold popO
  show M.op u=_
  split
  ·rename_i hu;rw [hu,h0];rfl
  ·rfl
 | some p=>rfl
theorem take_op:(M.take i e).op=opN M.op i e:=by
 unfold Ls.take opN
 by_cases h7:e.k=7
 ·rw [if_pos h7,if_neg (by omega),if_neg (by omega),if_neg (by omega),if_neg (by omega),if_neg (by omega),if_neg (by omega)];rfl
 rw [if_neg h7]
 by_cases h8:e.k=8
 ·rw [if_pos h8,if_neg (by omega),if_neg (by omega),if_neg (by omega),if_neg (by omega),if_neg (by omega),if_neg (by omega)];exact follow_op
 rw [if_neg h8]
 by_cases h3:e.k=3∨e.k=5
 ·rw [if_pos h3,if_pos h3];rfl
 rw [if_neg h3,if_neg h3]
 by_cases h4:e.k=4∨e.k=6
 ·rw [if_pos h4,if_pos h4];exact fin_op
 rw [if_neg h4,if_neg h4]
 by_cases h10:e.k=10
 ·rw [if_pos h10,if_pos h10,chain_op];rfl
 rw [if_neg h10,if_neg h10]
 by_cases h11:e.k=11
 ·rw [if_pos h11,if_pos h11,chain_op];exact fin_op
 rw [if_neg h11,if_neg h11]
 by_cases h9:e.k=9∨e.k=12∨e.k=13
 ·rw [if_pos h9,if_neg (by omega),if_neg (by omega)];exact chain_op
 rw [if_neg h9]
 by_cases h14:e.k=14
 ·rw [if_pos h14,if_neg (by omega),if_neg (by omega)];exact chain_op
 rw [if_neg h14]
 by_cases h15:e.k=15
 ·rw [if_pos h15,if_neg (by omega),if_neg (by omega)];exact follow_op
 rw [if_neg h15]
 by_cases h16:e.k=16
 ·by_cases ha:e.a=1
  ·rw [if_pos h16,if_pos ha,if_neg (by omega),if_neg (by omega)];rfl
  ·rw [if_pos h16,if_neg ha,if_neg (by omega),if_neg (by omega)];exact follow_op
 rw [if_neg h16]
 by_cases h20:e.k=20
 ·rw [if_pos h20,if_pos h20];rfl
 rw [if_neg h20,if_neg h20]
 by_cases h21:e.k=21
 ·rw [if_pos h21,if_pos h21];exact fin_op
 rw [if_neg h21,if_neg h21]
theorem last_split {L:List Nat} (h:L≠[]):∃ L0 p,L=L0++[p]:=⟨L.dropLast,L.getLast h,(List.dropLast_concat_getLast h).symm⟩
end
structure FinOk (O:Th→List Nat) (n:Nat) (e:Me):Prop where
 lk:e.k=4∨e.k=6→O (thL e.g e.o)≠[]
 ac:e.k=11→O (thS e.g e.o)≠[]
 fr:e.k=21→O (thM e.o e.a)≠[]
 lt:∀ t p,p ∈ O t→p < n
theorem FinOk.of {O:Th→List Nat} {n:Nat} {e:Me} (h:FinOk O n e) {t:Th} (ht:O t≠[]):∃ L0 p,O t=L0++[p]∧p < n:=by
 obtain ⟨L0,p,h1⟩:=last_split ht
 exact ⟨L0,p,h1,h.lt t p (by rw [h1];simp)⟩
theorem take_ev {w0 w:World} {n lb K i:Nat} {M:Ls} (g k o a:Int) (sa:Option Addr) (sn sc:Nat) (hb:Eb g k o a) (h:LW w0 w n lb K M) (hn:(n:Int)≤9223372036854775806) (hi:i < n) (hK:K≤800000000) (hf:FinOk M.op n ⟨g,k,o,a⟩) :
  Calls Tryz.prog 49 #[.pointer (some ⟨lb,0,none⟩),.int .i64 (i:Int),.agg #[.int .i64 g,.int .i64 k,.int .u64 o,.int .u64 a,.slice sa sn sc]] w fun r w'=>r=.returned (.tuple #[])∧Kp w w'∧LW w0 w' n lb (K+5) (M.take i ⟨g,k,o,a⟩):=by
 have h4:Eb4 g o a:=⟨by have:=hb.ok.g0;omega,by have:=hb.ok.g1;omega,hb.ok.o0,hb.ok.o1,hb.ok.a0,hb.ok.a1⟩
 rcases kcases hb.k1 hb.k2 with rfl|rfl|rfl|rfl|rfl|rfl|rfl|rfl|rfl|rfl|rfl|rfl|rfl|rfl|rfl|rfl|rfl|rfl|rfl|rfl|rfl|rfl
 ·exact take_rest g 1 o a sa sn sc (by omega) h
 ·exact take_rest g 2 o a sa sn sc (by omega) h
 ·exact take_3 g o a sa sn sc h4 h hn hi hK
 ·exact take_4 g o a sa sn sc h4 h hn hi hK (hf.of (hf.lk (.inl rfl)))
 ·exact take_5 g o a sa sn sc h4 h hn hi hK
 ·exact take_6 g o a sa sn sc h4 h hn hi hK (hf.of (hf.lk (.inr rfl)))
 ·exact take_7 g o a sa sn sc h4 (by have:=hb.fj (.inl rfl);omega) h hn hi hK
 ·exact take_8 g o a sa sn sc h4 (by have:=hb.fj (.inr rfl);omega) h hn hi hK
 ·exact take_9 g o a sa sn sc h4 h hn hi hK
 ·exact take_10 g o a sa sn sc h4 h hn hi hK
 ·exact take_11 g o a sa sn sc h4 h hn hi hK (hf.of (hf.ac rfl))
 ·exact take_12 g o a sa sn sc h4 h hn hi hK
 ·exact take_13 g o a sa sn sc h4 h hn hi hK
 ·exact take_14 g o a sa sn sc h4 h hn hi hK
 ·exact take_15 g o a sa sn sc h4 h hn hi hK
 ·by_cases ha:a=1
  ·subst ha
   exact take_16a g o sa sn sc h4 h hn hi hK
  ·have h9:=take_16b g o a sa sn sc h4 ha h hn hi hK
   have e9:M.take i ⟨g,16,o,a⟩=M.follow i (thO o):=by
    unfold Ls.take
    simp [ha]
   rw [e9]
   exact h9
 ·exact take_rest g 17 o a sa sn sc (by omega) h
 ·exact take_rest g 18 o a sa sn sc (by omega) h
 ·exact take_rest g 19 o a sa sn sc (by omega) h
 ·exact take_20 g o a sa sn sc h4 h hn hi hK
 ·exact take_21 g o a sa sn sc h4 h hn hi hK (hf.of (hf.fr rfl))
 ·exact take_rest g 22 o a sa sn sc (by omega) h
end Go.Proofs.YthgelfdefkbfeaaGreatDoor
namespace Go.Proofs.YthgelfdefkbfeaaGreatDoor
open Go.RowKit Go.Maps Go.Shelf
theorem zInfoI:(Tryz.prog.info? 34).map (fun i=>(i.zero,i.size,i.bytes))=some (some (.slice none 0 0),1,24):=by kernel_rfl
theorem made_iss (w:World) (base n:Nat) (hb:base≤w.heap.size) (hn:n * 24≤140737488355328):∃ w',(Instr.makeSlice 59 (.int .i64 (n:Int)) (.int .i64 (n:Int))).run Tryz.prog w=.ok (.slice (some ⟨w.heap.size,0,none⟩) n n) w'∧Own saS 34 w' base (.slice (some ⟨w.heap.size,0,none⟩) n n) (List.replicate n (⟨none,0,0⟩:Si))∧w.grownBy w' none:=by
 obtain ⟨i0,hi,hz0,hz1,hz2⟩:=info_parts zInfoI
 obtain ⟨w',h1,h2,h3⟩:=run_make_full (P:=Tryz.prog) w base 59 34 i0 (.slice none 0 0) 1 Tryz.underlying59 hi hz0 hz1 .i64 .i64 n (by rw [hz2];omega) (by unfold maxLen;omega) hb
 refine ⟨w',h1,?_,h3⟩
 unfold Own
 have e:(madeCells (Value.slice none 0 0).cells (n * 1)).toList=saS.fl (List.replicate n (⟨none,0,0⟩:Si)):=by
  rw [Nat.mul_one,show (Value.slice none 0 0).cells=#[Value.slice none 0 0] from rfl,toList_madeCells_one]
  clear h1 h2 hn
  induction n with
  | zero=>rfl
  | succ n ih=>rw [List.replicate_succ,List.replicate_succ,saS.fl_cons,ih];rfl
 rw [e] at h2
 rw [List.length_replicate]
 exact h2
def Ls.new:Ls:=⟨fun _=>[],fun _=>none,fun _=>[]⟩
def fam0 (n:Nat):Fam:=fun l=>match l with
 | .inl i=>if i < n then some (⟨none,0,0⟩,[]) else none
 | .inr _=>none
theorem fam0_eq {n:Nat} {l:Lbl} {s:Si} {L:List Int} (h:fam0 n l=some (s,L)):s=⟨none,0,0⟩∧L=[]:=by
 cases l with
 | inl i =>
  unfold fam0 at h
  simp only at h
  split at h
  ·cases h;exact ⟨rfl,rfl⟩
  ·cases h
 | inr t=>cases h
theorem fam0_fi (w:World) (b n:Nat):FI w b (fam0 n):=⟨fun l s L e=>by
  obtain ⟨rfl,rfl⟩:=fam0_eq e
  exact Own.nil _ _ _ _,fun l k s L s' L' e e' hne q hq=>by
  obtain ⟨rfl,rfl⟩:=fam0_eq e
  cases hq⟩
theorem lk_new {w0 w:World} {n nb:Nat} (hb:Below w0.heap.size w0 w) (ho:Own saS 34 w w0.heap.size (.slice (some ⟨nb,0,none⟩) n n) (List.replicate n (⟨none,0,0⟩:Si))) :
  LK w0 (((w.alloc (.map #[] 0)).alloc (.map #[] 0)).alloc (.cells #[.slice (some ⟨nb,0,none⟩) n n,.map (some w.heap.size),.map (some (w.heap.size+1))] 92)) n (w.heap.size+2) nb w.heap.size (w.heap.size+1) 0 0 0 Ls.new (fam0 n) (List.replicate n (⟨none,0,0⟩:Si)):=by
 have h1:=below_alloc1 w (.map #[] 0)
 have h2:=below_alloc1 (w.alloc (.map #[] 0)) (.map #[] 0)
 have h3:=below_alloc1 ((w.alloc (.map #[] 0)).alloc (.map #[] 0)) (.cells #[.slice (some ⟨nb,0,none⟩) n n,.map (some w.heap.size),.map (some (w.heap.size+1))] 92)
 have s1:(w.alloc (.map #[] 0)).heap.size=w.heap.size+1:=World.size_alloc _ _
 have s2:((w.alloc (.map #[] 0)).alloc (.map #[] 0)).heap.size=w.heap.size+2:=by rw [World.size_alloc,s1]
 have hB:=h1.trans (h2.mono (by omega))
 have hB3:=hB.trans (h3.mono (by omega))
 have hbb:=hb.trans (hB3.mono hb.size)
 have hs:=hb.size
 refine ⟨?_,ho.below hB3,List.length_replicate,fam0_fi _ _ _,fun i hi=>⟨⟨none,0,0⟩,?_,?_⟩,fun t=>.inr ⟨rfl,rfl⟩,?_,?_,by omega,by omega,by omega,by omega,Nat.le_refl _,Nat.le_refl _,fun i=>Nat.le_refl _,fun t=>Nat.le_refl _,hbb⟩
 ·have:=heap_alloc_new ((w.alloc (.map #[] 0)).alloc (.map #[] 0)) (.cells #[.slice (some ⟨nb,0,none⟩) n n,.map (some w.heap.size),.map (some (w.heap.size+1))] 92 (0,0))
  rw [s2] at this
  exact this
 ·rw [List.getElem?_replicate,if_pos hi]
 ·show (if i < n then some ((⟨none,0,0⟩:Si),([]:List Int)) else none)=_
  rw [if_pos hi];rfl
 ·have h:=TM.made w (.int .i64 0)
  exact (h.below h2).below (by rw [s1] at *;exact h3)
 ·have h:=TM.made (w.alloc (.map #[] 0)) (.slice none 0 0)
  rw [s1] at h
  exact h.below h3
def Ls.ev (M:Ls) (i:Nat) (e:Me):Ls:=(M.follow i (thG e.g)).take i e
def lsAt (es:List Me):Nat→Ls
 | 0=>Ls.new
 | j+1=>match es[j]? with
  | some e=>(lsAt es j).ev j e
  | none=>lsAt es j
theorem lsAt_succ {es:List Me} {j:Nat} {e:Me} (h:es[j]?=some e):lsAt es (j+1)=(lsAt es j).ev j e:=by
 rw [lsAt,h]
end Go.Proofs.YthgelfdefkbfeaaGreatDoor
namespace Go.Proofs.YthgelfdefkbfeaaGreatDoor
open Go.RowKit Go.Maps Go.Shelf
theorem needs_any (ad:Option Addr) (n c:Nat) (es:List E6.Ev) (w:World) (hr:E6.ERow w ad n es) (hn:n≤1048576) (hE:∀ e ∈ es,Eb e.g e.k e.o e.a) (hF:∀ j e,es[j]?=some e→FinOk (lsAt (es.map me) j).op n (me e)) :
  Calls Tryz.prog 31 #[.slice ad n c] w fun r w'=>∃ nb lb mb ob km ko S ss,r=.returned (.slice (some ⟨nb,0,none⟩) n n)∧LK w w' n lb nb mb ob km ko (6 * n) (lsAt (es.map me) n) S ss:=by
 have hnI:(n:Int)≤9223372036854775806:=by omega
 have HR:=hide hr
 have HE:=hide hE
 have HF:=hide hF
 have HN:=hide hn
 obtain ⟨w2,hmk,hown,hgr⟩:=made_iss w w.heap.size n (Nat.le_refl _) (by omega)
 have hb2:Below w.heap.size w w2:=⟨hgr.os,hgr.tape,hgr.output,hgr.size,fun q hq=>hgr.block q hq (by simp)⟩
 have HL0:Hid (LW w _ n (w2.heap.size+1+1) (6 * 0) (lsAt (es.map me) 0)):=hide ⟨_,_,_,_,_,_,_,lk_new hb2 hown⟩
 have hmm:=@run_makeMap Tryz.prog
 clear hr hE hF hn hown hgr hb2
 go_enter Tryz.func31,Tryz.ntmps31
 go_wp2
 generalize hlb:w2.heap.size+1+1=lb at HL0 ⊢
 go_loopw [15] (fun s wr=>∃ j:Nat,j≤n∧s=.int .i64 j∧Hid (LW w wr n lb (6 * j) (lsAt (es.map me) j))) (fun s _=>n - (intOf s).toNat)
 case atStart=>exact ⟨0,Nat.zero_le _,rfl,HL0⟩
 case round =>
  clear HL0 hmk hmm
  obtain ⟨j,hj,rfl,HJ⟩:=hrel
  by_cases hlt:j < n
  ·have hjI:(j:Int) < n:=by omega
   have hj0:(0:Int)≤j:=by omega
   have hn:=HN.out
   obtain ⟨b0,off,e,ha,hej,c0,c1,c2,c3,c4,hs⟩:=(HR.out.bel HJ.out.bel).at hlt
   have heb:=HE.out e (List.mem_of_getElem? hej)
   have hfo:=HF.out j e hej
   have htg:(thG e.g).ok:=by have:=heb.ok.g0;have:=heb.ok.g1;constructor <;> simp only [thG] <;> omega
   obtain ⟨W,hW⟩:∃ W,W=wr.alloc (.cells #[.int .i64 e.g,.int .i64 e.k,.int .u64 e.o,.int .u64 e.a,.slice e.sa e.ls.length e.sc] 43):=⟨_,rfl⟩
   have hbW:Below wr.heap.size wr W:=by rw [hW];exact below_alloc1 _ _
   have hB:W.heap[wr.heap.size]?=some (.cells #[.int .i64 e.g,.int .i64 e.k,.int .u64 e.o,.int .u64 e.a,.slice e.sa e.ls.length e.sc] 43 (0,0)):=by rw [hW];exact heap_new _ _
   have HB:=hide hB
   have HFo:=hide (follow_w (thG e.g) htg (HJ.out.on hbW) hnI hlt (by omega))
   have HT:=hide (fun X (hX:LW w X n lb (6 * j+1) ((lsAt (es.map me) j).follow j (thG e.g)))=>take_ev e.g e.k e.o e.a e.sa e.ls.length e.sc heb hX hnI hlt (by omega) (by rw [follow_op];exact hfo))
   have HS:=hide (lsAt_succ (es:=es.map me) (j:=j) (e:=me e) (by rw [List.getElem?_map,hej];rfl))
   unfold thG at HFo
   dsimp only at HFo
   rw [hW] at HFo
   have HW:=hide hW
   subst ha
   clear hs heb hfo htg hej hbW hW hB hn
   go_wp2_with fail
   refine HFo.out.mono ?_
   rintro r w3 ⟨rfl,hk3,hX3⟩
   rw [← HW.out] at hk3
   have HB3:=hide (hk3 _ _ _ (.inr rfl) HB.out)
   have d0:=cell_at HB3.out (i:=0) rfl
   have d1:=cell_at HB3.out (i:=1) rfl
   have d2:=cell_at HB3.out (i:=2) rfl
   have d3:=cell_at HB3.out (i:=3) rfl
   have d4:=cell_at HB3.out (i:=4) rfl
   have HT3:=hide (HT.out w3 hX3)
   clear hk3 hX3 HFo HT c0 c1 c2 c3 c4
   go_wp2_with fail
   refine HT3.out.mono ?_
   rintro r w4 ⟨rfl,hk4,hX4⟩
   have HJ4:Hid (LW w w4 n lb (6 * (j+1)) (lsAt (es.map me) (j+1))):=hide (by rw [HS.out];exact hX4)
   clear hk4 hX4
   go_wp2
   exact ⟨⟨j+1,by omega,by go_num,HJ4⟩,by simp [intOf];omega⟩
  ·have h9:j=n:=by omega
   subst h9
   have hjI:¬ (j:Int) < j:=by omega
   obtain ⟨nb,mb,ob,km,ko,S,ss,h1⟩:=HJ.out
   obtain ⟨c0,_,_⟩:=h1.c0
   have H1:=hide h1
   clear h1 hlt
   go_wp2
   go_ret
   exact ⟨nb,rfl,lb,mb,ob,km,ko,S,ss,H1.out⟩
end Go.Proofs.YthgelfdefkbfeaaGreatDoor
namespace Go.Proofs.YthgelfdefkbfeaaGreatDoor
open Go.RowKit Go.Maps Go.Shelf
theorem Rch.pre2 {T:List Me} {M:CS} (h:Rch T M):∀ P x S,T=P++x :: S→∃ M',Rch P M'∧Gdm x∧M'.why x=0:=by
 induction h with
 | new=>intro P x S h;exact absurd h (by simp)
 | @step T M e h0 hg hw ih =>
  intro P x S he
  rcases List.eq_nil_or_concat S with rfl|⟨S',y,rfl⟩
  ·have h1:=List.append_inj' he rfl
   obtain ⟨rfl,h2⟩:=h1
   cases h2
   exact ⟨M,h0,hg,hw⟩
  ·have h1:T++[e]=(P++x :: S')++[y]:=by rw [he];simp
   have h2:=List.append_inj' h1 rfl
   exact ih P x S' h2.1
theorem lsAt_app {T S:List Me}:∀ {j:Nat},j≤T.length→lsAt (T++S) j=lsAt T j
 | 0,_=>rfl
 | j+1,h=>by
  have h1:T[j]?=some (T[j]'h):=List.getElem?_eq_getElem h
  have h2:(T++S)[j]?=some (T[j]'h):=by rw [List.getElem?_append_left h];exact h1
  rw [lsAt_succ h1,lsAt_succ h2,lsAt_app (Nat.le_of_succ_le h)]
theorem ev_op {M:Ls} {i:Nat} {e:Me}:(M.ev i e).op=opN M.op i e:=by
 unfold Ls.ev
 rw [take_op,follow_op]
theorem op_at {T:List Me} {M:CS} (h:Rch T M):OpI T (lsAt T T.length).op T.length:=by
 induction h with
 | new=>exact OpI.new
 | @step T M e h0 hg hw ih =>
  obtain ⟨r,hc⟩:=why_can hw
  have h1:=ih.step h0.lkL hc
  have h2:(T++[e])[T.length]?=some e:=by simp
  have h3:lsAt (T++[e]) (T++[e]).length=(lsAt T T.length).ev T.length e:=by
   rw [List.length_append,show [e].length=1 from rfl,lsAt_succ h2,lsAt_app (Nat.le_refl _)]
  rw [h3,ev_op,List.length_append]
  exact h1
theorem fin_at {T:List Me} {M:CS} (h:Rch T M) {j:Nat} {e:Me} (he:T[j]?=some e):FinOk (lsAt T j).op T.length e:=by
 obtain ⟨hl,h9⟩:=List.getElem?_eq_some_iff.1 he
 have hT:T=T.take j++e :: T.drop (j+1):=by
  rw [← h9,List.getElem_cons_drop,List.take_append_drop]
 have hP:(T.take j).length=j:=by rw [List.length_take];omega
 obtain ⟨M',h1,h2,h3⟩:=h.pre2 _ _ _ hT
 obtain ⟨r,hc⟩:=why_can h3
 have h4:=op_at h1
 rw [hP] at h4
 have h5:lsAt T j=lsAt (T.take j) j:=by
  conv=>lhs;rw [hT]
  exact lsAt_app (by omega)
 rw [h5]
 refine ⟨fun hk e0=>?_,fun hk=>h4.ack h1.lkD hc hk,fun hk=>h4.free h1.lkA hc hk,fun t p hp=>Nat.lt_trans (h4.lt t p hp) hl⟩
 have:=h4.lock h1.lkL hc hk
 rw [e0] at this
 exact absurd this (by simp)
theorem run_rch:∀ (es:List E6.Ev) (T:List Me) (M:CS) (i:Nat),Rch T M→(∀ e ∈ es,Gdm (me e))→(M.run es i).2=0→∃ M',Rch (T++es.map me) M':=by
 intro es
 induction es with
 | nil=>intro T M i h _ _;exact ⟨M,by simpa using h⟩
 | cons e es ih =>
  intro T M i h hg h0
  rw [CS.run] at h0
  by_cases hw:M.why (me e)≠0
  ·rw [if_pos hw] at h0;exact absurd h0 hw
  ·rw [if_neg hw] at h0
   obtain ⟨M',h1⟩:=ih _ _ _ (.step h (hg e (List.mem_cons_self ..)) (by omega)) (fun x hx=>hg x (List.mem_cons_of_mem _ hx)) h0
   exact ⟨M',by rw [List.map_cons];simpa using h1⟩
theorem wn_rch {es:List E6.Ev} (h:wnE es=0) (hok:∀ e ∈ es,e.ok):es.length≤1048576∧(∀ e ∈ es,Eb e.g e.k e.o e.a)∧∃ M,Rch (es.map me) M:=by
 have hb:(E6.bounds es).2=0:=by
  by_cases hb:(E6.bounds es).2=0
  ·exact hb
  ·unfold wnE runV at h
   rw [if_pos hb] at h
   rw [if_pos hb] at h
   exact absurd h hb
 have hr:(CS.new.run es 0).2=0:=by
  unfold wnE runV at h
  rw [if_neg (by omega)] at h
  by_cases hr:(CS.new.run es 0).2=0
  ·exact hr
  ·simp [hb,hr] at h
 obtain ⟨hl,hc⟩:=bounds_zero hb
 obtain ⟨M',h1⟩:=run_rch es [] CS.new 0 .new (fun e he=>(gdm_of (hc e he) (hok e he)).1) hr
 exact ⟨hl,fun e he=>(gdm_of (hc e he) (hok e he)).2,M',by simpa using h1⟩
def nds (es:List E6.Ev):Nat→List Nat:=(lsAt (es.map me) es.length).N
theorem needs_run (ad:Option Addr) (n c:Nat) (es:List E6.Ev) (w:World) (hr:E6.ERow w ad n es) (hok:∀ e ∈ es,e.ok) (hE:wnE es=0) :
  Calls Tryz.prog 31 #[.slice ad n c] w fun r w'=>∃ nb lb mb ob km ko S ss,r=.returned (.slice (some ⟨nb,0,none⟩) n n)∧LK w w' n lb nb mb ob km ko (6 * n) (lsAt (es.map me) n) S ss:=by
 obtain ⟨h1,h2,M,h3⟩:=wn_rch hE hok
 have hl:=hr.len
 exact needs_any ad n c es w hr (by omega) h2 (fun j e he=>by
  have h4:=fin_at h3 (j:=j) (e:=me e) (by rw [List.getElem?_map,he];rfl)
  rw [List.length_map,hl] at h4
  exact h4)
end Go.Proofs.YthgelfdefkbfeaaGreatDoor
