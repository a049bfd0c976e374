import Derived.Test.YthgelfdefkbfeaaGreatDoorZu01
import Derived.Deep.RegionHeld3
set_option maxRecDepth 8000
set_option maxHeartbeats 8000000
set_option linter.unusedVariables false
namespace Go.Proofs.YthgelfdefkbfeaaGreatDoor.E6
open Go.RowKit Go.Maps Go.Shelf
theorem str_eq {a b:ByteArray} (h:(a.toList == b.toList)=true):a=b:=by
 have e:=eq_of_beq h
 rw [ByteArray.toList_eq,ByteArray.toList_eq] at e
 exact skey_inj (by unfold skey;rw [e])
theorem str_ne {a b:ByteArray} (h:(a.toList == b.toList)=false):a≠b:=by
 intro e;subst e;simp at h
theorem isIn_take_succ {L:List ByteArray} {s:ByteArray} {k:Nat} (hk:k < L.length) (hne:L.getD k ByteArray.empty≠s) (h:isIn (L.take k) s=false):isIn (L.take (k+1)) s=false:=by
 rw [isIn_not] at h ⊢
 intro hm
 rw [List.take_add_one,List.mem_append] at hm
 rcases hm with hm|hm
 ·exact h hm
 ·rw [List.getElem?_eq_getElem hk] at hm
  simp at hm
  exact hne (by rw [List.getD_eq_getElem?_getD,List.getElem?_eq_getElem hk];simp [hm])
theorem getD_get {L:List ByteArray} {k:Nat} (h:k < L.length):L[k]?=some (L.getD k ByteArray.empty):=by
 rw [List.getD_eq_getElem?_getD];simp [h]
theorem SRow.take {w:World} {a:Option Addr} {n:Nat} {L:List ByteArray} (h:SRow w a n L) {k:Nat} (hk:k≤n):SRow w a k (L.take k):=by
 refine ⟨by have:=h.len;simp;omega,?_⟩
 rcases h.cells with h0|⟨b,off,ha,hc⟩
 ·exact .inl (by omega)
 ·refine .inr ⟨b,off,ha,fun i hi=>?_⟩
  rw [hc i (by omega)]
  simp [List.getD_eq_getElem?_getD,hi]
theorem SRow.but {T:Nat→Prop} {w w':World} {a:Option Addr} {n:Nat} {L:List ByteArray} (h:SRow w a n L) (hb:But T w w') (hT:∀ b off,a=some ⟨b,off,none⟩→n≠0→¬ T b):SRow w' a n L:=by
 refine ⟨h.len,?_⟩
 by_cases hn:n=0
 ·exact .inl hn
 ·rcases h.cells with h0|⟨b,off,ha,hc⟩
  ·exact absurd h0 hn
  ·refine .inr ⟨b,off,ha,fun i hi=>?_⟩
   rw [← hc i hi]
   have hlt:b < w.heap.size:=by
    have:=hc i hi
    unfold World.cell? at this
    cases hh:w.heap[b]? with
    | none=>simp [hh] at this
    | some o=>exact (Array.getElem?_eq_some_iff.1 hh).1
   have:=hb.block b hlt (hT b off ha hn)
   unfold World.cell?
   rw [this]
theorem SRow.drewN {w:World} {a:Option Addr} {n:Nat} {L:List ByteArray} (h:SRow w a n L) (j:Nat):SRow (w.drewN j) a n L :=
 h.but (T:=fun _=>False) (But.of_below (below_drewN (Below.refl _ _) j)) (fun _ _ _ _ e=>e)
theorem Tab.drewN {w:World} {tb:Nat} {S:Nat→Prop} {L:List ByteArray} {v mv:Value} (h:Tab w tb S L v mv) (j:Nat):Tab (w.drewN j) tb S L v mv :=
 h.kept (T:=fun _=>False) (But.of_below (below_drewN (Below.refl _ _) j)) (fun _ _ e=>e)
theorem Frs.drewN {w:World} {fb tb:Nat} {S:Nat→Prop} {N:List Nd} {v:Value} {mb:Nat} (h:Frs w fb tb S N v mb) (j:Nat):Frs (w.drewN j) fb tb S N v mb :=
 h.kept (T:=fun _=>False) (But.of_below (below_drewN (Below.refl _ _) j)) (fun _ _ e=>e)
theorem cell_drewN {w:World} {a:Addr} {x:Value} (h:w.cell? a=some x) (j:Nat):(w.drewN j).cell? a=some x:=by
 have:=(below_drewN (Below.refl (a.block+1) w) j).cell (p:=a) (by omega)
 rw [this];exact h
def indexV (L:List ByteArray) (s:ByteArray):Int:=if isIn L s then (place L s:Int) else -1
theorem place_take {L:List ByteArray} {s:ByteArray} {k:Nat} (hk:L[k]?=some s) (h:isIn (L.take k) s=false):place L s=k:=by
 induction L generalizing k with
 | nil=>simp at hk
 | cons x l ih =>
  cases k with
  | zero=>simp at hk;subst hk;simp [place]
  | succ k =>
   have hne:x.data≠s.data:=by
    intro e
    have:x=s:=by cases x;cases s;subst e;rfl
    subst this
    rw [isIn_not] at h
    exact h (by simp)
   unfold place
   rw [if_neg hne,ih (by simpa using hk)]
   rw [isIn_not] at h ⊢
   intro hm;exact h (by simp [hm])
theorem index_any (a:Option Addr) (n c:Nat) (L:List ByteArray) (s:ByteArray) (w:World) (hr:SRow w a n L) (hn:(n:Int)≤9223372036854775806) :
  Calls Tryz.prog 159 #[.slice a n c,.string s] w fun e w'=>e=.returned (.int .i64 (indexV L s))∧w'=w:=by
 have HR:Hid (SRow w a n L):=hr
 have hl:=hr.len
 clear hr
 go_enter Tryz.func159,Tryz.ntmps159
 go_wp2
 go_loopw [8] (fun i wr=>∃ k:Nat,k≤n∧i=.int .i64 k∧wr=w∧isIn (L.take k) s=false) (fun i _=>n - (intOf i).toNat)
 case atStart=>exact ⟨0,Nat.zero_le _,rfl,rfl,rfl⟩
 case round =>
  obtain ⟨k,hk,rfl,rfl,he⟩:=hrel
  have HE:Hid (isIn (L.take k) s=false):=he
  clear he
  by_cases hlt:k < n
  ·obtain ⟨bo,oo,rfl,hco⟩:=HR.out.at hlt
   have HX:Hid (if s.toList == (L.getD k ByteArray.empty).toList then indexV L s=(k:Int) else isIn (L.take (k+1)) s=false):=hide (by
    cases hq:s.toList == (L.getD k ByteArray.empty).toList
    ·exact isIn_take_succ (by omega) (fun e=>str_ne hq e.symm) HE.out
    ·have es:=str_eq hq
     have hg:L[k]?=some s:=by rw [es];exact getD_get (by omega)
     show indexV L s=_
     unfold indexV
     rw [isIn_iff.2 (List.mem_of_getElem? hg),place_take hg HE.out];rfl)
   generalize L.getD k ByteArray.empty=x at hco HX
   go_wp2
   ·go_ret
    have:=HX.out
    rw [if_pos ‹_›] at this
    exact ⟨by rw [this];rfl,rfl⟩
   ·have:=HX.out
    rw [if_neg (by simp only [‹_=false›];decide)] at this
    exact ⟨⟨k+1,by omega,by go_num,trivial,this⟩,by simp [intOf];omega⟩
  ·have HX:Hid (indexV L s=-1):=hide (by
    have e:=HE.out
    rw [List.take_of_length_le (by omega)] at e
    unfold indexV;rw [e];rfl)
   go_wp2
   go_ret
   exact ⟨by rw [HX.out];rfl,rfl⟩
theorem contains_any (a:Option Addr) (n c:Nat) (L:List ByteArray) (s:ByteArray) (w:World) (hr:SRow w a n L) (hn:(n:Int)≤9223372036854775806) :
  Calls Tryz.prog 123 #[.slice a n c,.string s] w fun e w'=>e=.returned (.bool (isIn L s))∧w'=w:=by
 have HI:Hid _:=hide (index_any a n c L s w hr hn)
 have HX:Hid (decide (0≤indexV L s)=isIn L s):=hide (by
  unfold indexV
  cases isIn L s <;> simp)
 have hb:-1≤indexV L s:=by unfold indexV;split <;> omega
 clear hr
 generalize indexV L s=i at HI HX hb
 generalize isIn L s=r at HX ⊢
 go_enter Tryz.func123,Tryz.ntmps123
 go_wp2_with fail
 refine HI.out.mono ?_
 rintro e w' ⟨rfl,rfl⟩
 go_wp2
 go_ret
 exact ⟨ret_bool (by rw [← HX.out]),rfl⟩
def kn (L:List ByteArray) (N:List Nd):Nat→List ByteArray→Nat × List ByteArray
 | id,[]=>(id,[])
 | id,s :: r=>if isIn L s=true∧nid N (id,place L s)≠0 then kn L N (nid N (id,place L s)) r else (id,s :: r)
def restV (a:Option Addr) (c m:Nat):Value:=if m=0 then .slice none 0 0 else .slice a m c
theorem take_rev {L:List ByteArray} {k:Nat} (h:k < L.length):(L.take (k+1)).reverse=L.getD k ByteArray.empty :: (L.take k).reverse:=by
 rw [List.take_add_one,getD_get h];simp
theorem known_any {w:World} {fb tb:Nat} {S T:Nat→Prop} {N:List Nd} {v:Value} {mb:Nat} {L:List ByteArray} {tv tm:Value} (hT:Tab w tb T L tv tm) (hF:Frs w fb tb S N v mb)
  (a:Option Addr) (n c:Nat) (ls:List ByteArray) (hr:SRow w a n ls) (hn:n≤16) (hc:n≤c) (hz:∀ s ∈ ls,s.size≤maxLen) :
  Calls Tryz.prog 58 #[.pointer (some ⟨fb,0,none⟩),.slice a n c] w fun e w'=>e=.returned (.tuple #[.int .i64 ((kn L N 0 ls.reverse).1:Int),restV a c (kn L N 0 ls.reverse).2.length])∧∃ k,w'=w.drewN k:=by
 have HT:Hid (Tab w tb T L tv tm):=hT
 have HF:Hid (Frs w fb tb S N v mb):=hF
 have HR:Hid (SRow w a n ls):=hr
 have HZ:Hid (∀ s ∈ ls,s.size≤maxLen):=hz
 have HL:Hid (ls.length=n):=hr.len
 have hn':(n:Int)≤16:=by omega
 clear hT hF hr hz
 go_enter Tryz.func58,Tryz.ntmps58
 go_wp2
 go_loopw [6,7] (fun d i wr=>∃ k q id:Nat,k≤n∧i=.int .i64 k∧d=.int .i64 id∧id≤262144∧wr=w.drewN q∧kn L N 0 ls.reverse=kn L N id (ls.take k).reverse) (fun _ i _=>(intOf i).toNat)
 case atStart=>exact ⟨n,0,0,Nat.le_refl _,rfl,rfl,by omega,rfl,by rw [List.take_of_length_le (by have:=HL.out;omega)]⟩
 case round =>
  obtain ⟨k,q,id,hk,rfl,rfl,hid,hw,he⟩:=hrel
  have HW:Hid (wr=w.drewN q):=hw
  have HE:Hid _:=hide he
  have hTr:Hid (Tab wr tb T L tv tm):=hide (by rw [hw];exact HT.out.drewN q)
  have hFr:Hid (Frs wr fb tb S N v mb):=hide (by rw [hw];exact HF.out.drewN q)
  have hRr:Hid (SRow wr a n ls):=hide (by rw [hw];exact HR.out.drewN q)
  have c0:=hFr.out.cell0
  have c2:=hFr.out.cell2
  clear hw he
  cases k with
  | zero =>
   have hX:Hid (kn L N 0 ls.reverse=(id,[])):=hide (by rw [HE.out];rfl)
   go_wp2
   go_ret2
   exact ⟨by rw [hX.out];rfl,q,HW.out⟩
  | succ k =>
   obtain ⟨bo,oo,ha,hco⟩:=hRr.out.at (i:=k) (by omega)
   subst ha
   obtain ⟨s,hs⟩:∃ s,s=ls.getD k ByteArray.empty:=⟨_,rfl⟩
   have HS:Hid (s.size≤maxLen):=hide (by rw [hs];exact HZ.out _ (List.mem_of_getElem? (getD_get (by have:=HL.out;omega))))
   have HE2:Hid (kn L N 0 ls.reverse=kn L N id (s :: (ls.take k).reverse)):=hide (by rw [HE.out,take_rev (by have:=HL.out;omega),hs])
   rw [← hs] at hco
   have HD:Hid _:=hFr.out.ids
   obtain ⟨D,hm,hi⟩:=HD.out
   have HM:Hid (wr.ownsMap Tryz.prog 120 (plainElem Tryz.prog 3) mb N.length D):=hm
   have HI:Hid (Fids D N):=hi
   obtain ⟨fr,hfr⟩:∃ fr:Nat,fr=if isIn L s then place L s else 0:=⟨_,rfl⟩
   have hfr':Hid (fr≤65536):=hide (by
    have:=hTr.out.len
    rw [hfr];split
    ·rename_i hin;have:=(List.getElem?_eq_some_iff.1 (place_get (isIn_iff.1 hin))).1;omega
    ·omega)
   obtain ⟨b,hb⟩:∃ b,isIn L s=b:=⟨_,rfl⟩
   have HQ:Hid (∀ j,Calls Tryz.prog 120 #[.pointer (some ⟨tb,0,none⟩),.string s] (wr.drewN j) fun e w'=>e=.returned (.tuple #[.int .i64 (fr:Int),.bool b])∧w'=wr.drewN j):=hide (fun j=>by
    have:=find_any (hTr.out.drewN j) s HS.out
    have e:lookV L s=.tuple #[.int .i64 (fr:Int),.bool b]:=by unfold lookV;rw [hfr,← hb];split <;> rfl
    rwa [e] at this)
   have HK:Hid (kn L N 0 ls.reverse=if b=true∧nid N (id,fr)≠0 then kn L N (nid N (id,fr)) (ls.take k).reverse else (id,s :: (ls.take k).reverse)):=hide (by
    rw [HE2.out,kn,← hb,hfr]
    cases h:isIn L s <;> simp)
   have HKL:Hid ((ls.take k).length=k):=hide (by have:=HL.out;simp;omega)
   have hfr2:fr≤65536:=hfr'.out
   clear hs hm hi HD HE HE2 hfr hb
   generalize hrest:(ls.take k).reverse=rest at HK
   have HRL:Hid (rest.length=k):=hide (by rw [← hrest,List.length_reverse];exact HKL.out)
   have HRT:Hid ((ls.take k).reverse=rest):=hrest
   clear hrest HKL
   go_wp2
   go_quiet ((go_at_call 120;exact Calls.quiet_of_same (HQ.out _)))
   have c2':=cell_drewN c2 nq
   have HM':Hid ((wr.drewN nq).ownsMap Tryz.prog 120 (plainElem Tryz.prog 3) mb N.length D):=hide (map_but HM.out (But.of_below (S:=fun _=>False) (below_drewN (Below.refl _ _) nq)) (fun e=>e))
   have HW':Hid (∃ m,wr.drewN nq=w.drewN m):=hide ⟨q+nq,by rw [HW.out];exact World.drewN_drewN _ _ _⟩
   generalize wr.drewN nq=W1 at HM' HW' c2' ⊢
   go_wp2_with (first|(at_lookup;refine wpList_lookup_own_int _ rfl _ _ 104 rfl 120 3 .i64 lawNode Tryz.underlying104 Tryz.underlying3 (zero3 _) mb N.length D rfl HM'.out _ _ rfl (keyNode (n:=(id,fr)) (by dsimp only;omega) (by dsimp only;omega)) ?_;intro cc hat hwc;have hcc:cc=(nid N (id,fr):Int):=by (rw [HI.out.num _ (by dsimp only;omega) (by dsimp only;omega)] at hat;simpa using hat.symm))|go_in)
   ·have HX:Hid (kn L N 0 ls.reverse=(id,s :: rest)):=hide (by rw [HK.out,if_neg];rintro ⟨_,h⟩;simp_all)
    have hck:((k:Int)+1)≤c:=by omega
    have hnk:((k:Int)+1).toNat=k+1:=by omega
    go_quiet (fail)
    go_wp2
    go_ret2
    obtain ⟨m,hm⟩:=HW'.out
    exact ⟨by rw [HX.out];simp [restV,HRL.out],m+nq,by rw [hm];exact World.drewN_drewN _ _ _⟩
   ·have hz:nid N (id,fr)≠0:=by intro e;simp_all
    obtain ⟨m,hm⟩:=HW'.out
    refine ⟨⟨k,m,nid N (id,fr),by omega,rfl,rfl,Nat.le_trans (nid_le _ _) hFr.out.len,hm,?_⟩,by simp [intOf]⟩
    rw [HK.out,if_pos ⟨‹b=true›,hz⟩,HRT.out]
   ·have HX:Hid (kn L N 0 ls.reverse=(id,s :: rest)):=hide (by rw [HK.out,if_neg];rintro ⟨h,_⟩;simp_all)
    have hck:((k:Int)+1)≤c:=by omega
    have hnk:((k:Int)+1).toNat=k+1:=by omega
    go_quiet (fail)
    go_wp2
    go_ret2
    obtain ⟨m,hm⟩:=HW'.out
    exact ⟨by rw [HX.out];simp [restV,HRL.out],m+nq,by rw [hm];exact World.drewN_drewN _ _ _⟩
end Go.Proofs.YthgelfdefkbfeaaGreatDoor.E6
namespace Go.Proofs.YthgelfdefkbfeaaGreatDoor.E6
open Go.RowKit Go.Maps Go.Shelf
def knames:List ByteArray:=[⟨#[]⟩,⟨#[114,101,97,100]⟩,⟨#[119,114,105,116,101]⟩,⟨#[97,99,113,117,105,114,101]⟩,⟨#[114,101,108,101,97,115,101]⟩,⟨#[114,97,99,113,117,105,114,101]⟩,⟨#[114,114,101,108,101,97,115,101]⟩,⟨#[102,111,114,107]⟩,⟨#[106,111,105,110]⟩,⟨#[109,97,107,101]⟩,⟨#[115,101,110,100]⟩,⟨#[97,99,107]⟩,⟨#[114,101,99,118]⟩,⟨#[99,108,111,115,101]⟩,⟨#[97,100,100]⟩,⟨#[119,97,105,116]⟩,⟨#[111,110,99,101]⟩,⟨#[108,111,97,100]⟩,⟨#[115,116,111,114,101]⟩,⟨#[115,119,97,112]⟩,⟨#[97,108,108,111,99]⟩,⟨#[102,114,101,101]⟩,⟨#[109,97,114,107]⟩]
def ksorts:List Nat:=[0,2,2,0,0,0,0,4,5,6,0,0,1,0,7,0,1,0,0,0,3,3,8]
def rlos:List Int:=[0,0,1,1,1,0,0,0,0]
def rhis:List Int:=[0,1,64,65536,65535,65535,65536,4294967294,18446744073709551615]
def kname (k:Nat):ByteArray:=knames.getD k ByteArray.empty
def ksort (k:Nat):Nat:=ksorts.getD k 0
def rlo (s:Nat):Int:=rlos.getD s 0
def rhi (s:Nat):Int:=rhis.getD s 0
structure Kn (w:World):Prop where
 name:∀ k:Nat,k < 23→w.cell? ⟨0,k * 2,none⟩=some (.string (kname k))
 sort:∀ k:Nat,k < 23→w.cell? ⟨0,k * 2+1,none⟩=some (.int .i64 (ksort k:Int))
structure Kr (w:World):Prop extends Kn w where
 lo:∀ s:Nat,s < 9→w.cell? ⟨1,s * 2,none⟩=some (.int .u64 (rlo s))
 hi:∀ s:Nat,s < 9→w.cell? ⟨1,s * 2+1,none⟩=some (.int .u64 (rhi s))
theorem Kn.below {w w':World} (h:Kn w) {B:Nat} (hb:Below B w w') (hB:0 < B):Kn w' :=
 ⟨fun k hk=>(hb.cell (p:=⟨0,k * 2,none⟩) hB).trans (h.name k hk),fun k hk=>(hb.cell (p:=⟨0,k * 2+1,none⟩) hB).trans (h.sort k hk)⟩
theorem Kr.below {w w':World} (h:Kr w) {B:Nat} (hb:Below B w w') (hB:1 < B):Kr w' :=
 ⟨h.toKn.below hb (by omega),fun k hk=>(hb.cell (p:=⟨1,k * 2,none⟩) hB).trans (h.lo k hk),fun k hk=>(hb.cell (p:=⟨1,k * 2+1,none⟩) hB).trans (h.hi k hk)⟩
theorem Kr.size {w:World} (h:Kr w):2≤w.heap.size:=World.block_lt_of_cell? w _ (h.lo 0 (by omega))
theorem kn_any (k:Int) (w:World):Calls Tryz.prog 55 #[.int .i64 k] w fun e w'=>e=.returned (.bool (decide (1≤k∧k≤22)))∧w'=w:=by
 by_cases h1:1≤k
 ·by_cases h2:k < 23
  ·have e:decide (1≤k∧k≤22)=true:=by simp;omega
   rw [e]
   go_enter Tryz.func55,Tryz.ntmps55
   go_wp2
   go_ret
   exact ⟨rfl,rfl⟩
  ·have e:decide (1≤k∧k≤22)=false:=by simp;omega
   rw [e]
   go_enter Tryz.func55,Tryz.ntmps55
   go_wp2
   go_ret
   exact ⟨rfl,rfl⟩
 ·have e:decide (1≤k∧k≤22)=false:=by simp;omega
  rw [e]
  go_enter Tryz.func55,Tryz.ntmps55
  go_wp2
  go_ret
  exact ⟨rfl,rfl⟩
end Go.Proofs.YthgelfdefkbfeaaGreatDoor.E6
namespace Go.Proofs.YthgelfdefkbfeaaGreatDoor.E6
open Go.RowKit Go.Maps Go.Shelf
abbrev lo (k:Nat):Int:=rlo (ksort k)
abbrev hi (k:Nat):Int:=rhi (ksort k)
def argB (k:Nat) (a:Int):Bool:=decide (lo k≤a∧a≤hi k)
theorem ksort_lt (k:Nat) (hk:k < 23):ksort k < 9:=by
 have:∀ k:Fin 23,ksort k.1 < 9:=by decide
 exact this ⟨k,hk⟩
theorem arg_any (g:Int) (k:Nat) (o a:Int) (sa:Option Addr) (sn sc:Nat) (w:World) (h:Kr w) (hk:k < 23) :
  Calls Tryz.prog 33 #[.agg #[.int .i64 g,.int .i64 (k:Int),.int .u64 o,.int .u64 a,.slice sa sn sc]] w fun e w'=>e=.returned (.bool (argB k a))∧Below w.heap.size w w':=by
 have hkI:(k:Int) < 23:=by omega
 obtain ⟨W1,hW1⟩:∃ W1,W1=w.alloc (.cells #[.int .i64 g,.int .i64 (k:Int),.int .u64 o,.int .u64 a,.slice sa sn sc] 43):=⟨_,rfl⟩
 have hb1:Below w.heap.size w W1:=by rw [hW1];exact (Below.refl _ w).alloc (Nat.le_refl _) _
 have h1:=h.below hb1 (by have:=h.size;omega)
 have r1:W1.heap[w.heap.size]?=some (.cells #[.int .i64 g,.int .i64 (k:Int),.int .u64 o,.int .u64 a,.slice sa sn sc] 43 (0,0)):=by rw [hW1];exact heap_alloc_new w _
 have q1:W1.cell? ⟨w.heap.size,1,none⟩=some (.int .i64 (k:Int)):=by rw [cell_of_row W1 _ 1 _ 43 (0,0) r1];rfl
 have q3:W1.cell? ⟨w.heap.size,3,none⟩=some (.int .u64 a):=by rw [cell_of_row W1 _ 3 _ 43 (0,0) r1];rfl
 have hs:=h1.sort k hk
 have hsl:=ksort_lt k hk
 have e0:argB k a=decide (rlo (ksort k)≤a∧a≤rhi (ksort k)):=rfl
 rw [e0]
 clear e0
 obtain ⟨s,hss⟩:∃ s,s=ksort k:=⟨_,rfl⟩
 rw [← hss] at hs hsl ⊢
 have hsI:(s:Int) < 9:=by omega
 have c0:=h1.lo s hsl
 have c1:=h1.hi s hsl
 generalize rlo s=l at c0 ⊢
 generalize rhi s=m at c1 ⊢
 have HB:Hid _:=hide hb1
 have hs':(w.alloc (.cells #[.int .i64 g,.int .i64 (k:Int),.int .u64 o,.int .u64 a,.slice sa sn sc] 43)).cell? ⟨0,k * 2+1,none⟩=some (.int .i64 (s:Int)):=by rw [← hW1];exact hs
 clear h h1 hss hb1 r1 hs
 by_cases d1:l≤a
 ·by_cases d2:a≤m
  ·have e:decide (l≤a∧a≤m)=true:=by simp;omega
   have e1:decide (l≤a)=true:=decide_eq_true d1
   have e2:decide (a≤m)=true:=decide_eq_true d2
   clear d1 d2
   rw [e]
   go_enter Tryz.func33,Tryz.ntmps33
   go_wp2
   rw [← hW1]
   clear hW1
   go_quiet (fail)
   go_wp2
   go_ret
   exact ⟨rfl,below_drewN HB.out _⟩
  ·have e:decide (l≤a∧a≤m)=false:=by simp;omega
   have e1:decide (l≤a)=true:=decide_eq_true d1
   have e2:decide (a≤m)=false:=decide_eq_false d2
   clear d1 d2
   rw [e]
   go_enter Tryz.func33,Tryz.ntmps33
   go_wp2
   rw [← hW1]
   clear hW1
   go_quiet (fail)
   go_wp2
   go_ret
   exact ⟨rfl,below_drewN HB.out _⟩
 ·have e:decide (l≤a∧a≤m)=false:=by simp;omega
  have e1:decide (l≤a)=false:=decide_eq_false d1
  clear d1
  rw [e]
  go_enter Tryz.func33,Tryz.ntmps33
  go_wp2
  rw [← hW1]
  clear hW1
  go_quiet (fail)
  go_wp2
  go_ret
  exact ⟨rfl,below_drewN HB.out _⟩
theorem SRow.bel {w w':World} {a:Option Addr} {n:Nat} {L:List ByteArray} (h:SRow w a n L) (hb:Below w.heap.size w w'):SRow w' a n L:=h.but (T:=fun _=>False) (But.of_below hb) (fun _ _ _ _ e=>e)
def objB (k:Nat) (o a:Int):Bool:=if ksort k=4∨ksort k=5 then (o == 0) else if ksort k=2∨ksort k=3 then !argB k a || decide (o≤18446744073709551615 - (a - 1)) else true
theorem argB_bd {k:Nat} {a:Int} (hs:ksort k=2∨ksort k=3) (h:argB k a=true):1≤a∧a≤65536:=by
 have h':rlo (ksort k)≤a∧a≤rhi (ksort k):=of_decide_eq_true h
 rcases hs with e|e <;> rw [e] at h' <;> simp [rlo,rhi,rlos,rhis] at h' <;> omega
theorem obj_any (g:Int) (k:Nat) (o a:Int) (sa:Option Addr) (sn sc:Nat) (w:World) (h:Kr w) (hk:k < 23) :
  Calls Tryz.prog 34 #[.agg #[.int .i64 g,.int .i64 (k:Int),.int .u64 o,.int .u64 a,.slice sa sn sc]] w fun e w'=>e=.returned (.bool (objB k o a))∧Below w.heap.size w w':=by
 have hkI:(k:Int) < 23:=by omega
 obtain ⟨W1,hW1⟩:∃ W1,W1=w.alloc (.cells #[.int .i64 g,.int .i64 (k:Int),.int .u64 o,.int .u64 a,.slice sa sn sc] 43):=⟨_,rfl⟩
 have hb1:Below w.heap.size w W1:=by rw [hW1];exact (Below.refl _ w).alloc (Nat.le_refl _) _
 have h1:=h.below hb1 (by have:=h.size;omega)
 have hs:=h1.sort k hk
 have hsl:=ksort_lt k hk
 have HQ:Hid (Calls Tryz.prog 33 #[.agg #[.int .i64 g,.int .i64 (k:Int),.int .u64 o,.int .u64 a,.slice sa sn sc]] W1 fun e w'=>e=.returned (.bool (argB k a))∧Below W1.heap.size W1 w'):=hide (arg_any g k o a sa sn sc W1 h1 hk)
 rw [hW1] at HQ hs
 have HB:Hid _:=hide hb1
 have HW:Hid _:=hide hW1
 have hob:objB k o a=if ksort k=4∨ksort k=5 then (o == 0) else if ksort k=2∨ksort k=3 then !argB k a || decide (o≤18446744073709551615 - (a - 1)) else true:=rfl
 have hbd:=@argB_bd k a
 obtain ⟨s,hss⟩:∃ s,s=ksort k:=⟨_,rfl⟩
 rw [← hss] at hs hsl hob hbd
 rw [hob]
 clear h h1 hss hb1 hW1 hob
 by_cases h4:s=4∨s=5
 ·rw [if_pos h4]
  clear hbd
  rcases h4 with rfl|rfl
  ·go_enter Tryz.func34,Tryz.ntmps34
   go_wp2
   go_ret
   exact ⟨rfl,by rw [← HW.out];exact HB.out⟩
  ·go_enter Tryz.func34,Tryz.ntmps34
   go_wp2
   go_ret
   exact ⟨rfl,by rw [← HW.out];exact HB.out⟩
 ·rw [if_neg h4]
  by_cases h2:s=2∨s=3
  ·rw [if_pos h2]
   have hbd':=hbd h2
   clear hbd h4
   cases hab:argB k a
   ·rw [hab] at HQ
    clear hbd' hab
    rcases h2 with rfl|rfl
    ·go_enter Tryz.func34,Tryz.ntmps34
     go_wp2_with fail
     refine HQ.out.mono ?_
     rintro e w2 ⟨rfl,hb2⟩
     rw [← HW.out] at hb2
     have HB2:Hid _:=hide (HB.out.trans (hb2.mono HB.out.size))
     clear hb2
     go_wp2
     go_ret
     exact ⟨rfl,HB2.out⟩
    ·go_enter Tryz.func34,Tryz.ntmps34
     go_wp2_with fail
     refine HQ.out.mono ?_
     rintro e w2 ⟨rfl,hb2⟩
     rw [← HW.out] at hb2
     have HB2:Hid _:=hide (HB.out.trans (hb2.mono HB.out.size))
     clear hb2
     go_wp2
     go_ret
     exact ⟨rfl,HB2.out⟩
   ·obtain ⟨ha1,ha2⟩:=hbd' hab
    rw [hab] at HQ
    clear hbd' hab
    have w1:IntKind.u64.wrap (a - 1)=a - 1:=by rw [IntKind.wrap_u64];omega
    have w2:IntKind.u64.wrap (18446744073709551615 - (a - 1))=18446744073709551615 - (a - 1):=by rw [IntKind.wrap_u64];omega
    rcases h2 with rfl|rfl
    ·go_enter Tryz.func34,Tryz.ntmps34
     go_wp2_with fail
     refine HQ.out.mono ?_
     rintro e w2 ⟨rfl,hb2⟩
     rw [← HW.out] at hb2
     have r1:W1.heap[w.heap.size]?=some (.cells #[.int .i64 g,.int .i64 (k:Int),.int .u64 o,.int .u64 a,.slice sa sn sc] 43 (0,0)):=by rw [HW.out];exact heap_alloc_new w _
     have r2:w2.heap[w.heap.size]?=some (.cells #[.int .i64 g,.int .i64 (k:Int),.int .u64 o,.int .u64 a,.slice sa sn sc] 43 (0,0)):=(hb2.block _ (Array.getElem?_eq_some_iff.1 r1).1).trans r1
     have q2:w2.cell? ⟨w.heap.size,2,none⟩=some (.int .u64 o):=by rw [cell_of_row w2 _ 2 _ 43 (0,0) r2];rfl
     have q3:w2.cell? ⟨w.heap.size,3,none⟩=some (.int .u64 a):=by rw [cell_of_row w2 _ 3 _ 43 (0,0) r2];rfl
     have HB2:Hid _:=hide (HB.out.trans (hb2.mono HB.out.size))
     clear hb2 r1 r2
     go_wp2
     go_ret
     exact ⟨by simp,HB2.out⟩
    ·go_enter Tryz.func34,Tryz.ntmps34
     go_wp2_with fail
     refine HQ.out.mono ?_
     rintro e w2 ⟨rfl,hb2⟩
     rw [← HW.out] at hb2
     have r1:W1.heap[w.heap.size]?=some (.cells #[.int .i64 g,.int .i64 (k:Int),.int .u64 o,.int .u64 a,.slice sa sn sc] 43 (0,0)):=by rw [HW.out];exact heap_alloc_new w _
     have r2:w2.heap[w.heap.size]?=some (.cells #[.int .i64 g,.int .i64 (k:Int),.int .u64 o,.int .u64 a,.slice sa sn sc] 43 (0,0)):=(hb2.block _ (Array.getElem?_eq_some_iff.1 r1).1).trans r1
     have q2:w2.cell? ⟨w.heap.size,2,none⟩=some (.int .u64 o):=by rw [cell_of_row w2 _ 2 _ 43 (0,0) r2];rfl
     have q3:w2.cell? ⟨w.heap.size,3,none⟩=some (.int .u64 a):=by rw [cell_of_row w2 _ 3 _ 43 (0,0) r2];rfl
     have HB2:Hid _:=hide (HB.out.trans (hb2.mono HB.out.size))
     clear hb2 r1 r2
     go_wp2
     go_ret
     exact ⟨by simp,HB2.out⟩
  ·rw [if_neg h2]
   have e2:((s:Int) == 2)=false:=by rw [beq_eq_false_iff_ne];omega
   have e3:((s:Int) == 3)=false:=by rw [beq_eq_false_iff_ne];omega
   have e4:((s:Int) == 4)=false:=by rw [beq_eq_false_iff_ne];omega
   have e5:((s:Int) == 5)=false:=by rw [beq_eq_false_iff_ne];omega
   clear h2 h4 hbd hsl
   go_enter Tryz.func34,Tryz.ntmps34
   go_wp2
   go_ret
   exact ⟨rfl,by rw [← HW.out];exact HB.out⟩
def stkB (ls:List ByteArray):Bool:=decide (ls.length≤16) && ls.all fun s=>decide (s.size≤65536)
theorem all_take_succ {ls:List ByteArray} {p:ByteArray→Bool} {k:Nat} (hk:k < ls.length) (h:(ls.take k).all p=true) (hx:p (ls.getD k ByteArray.empty)=true):(ls.take (k+1)).all p=true:=by
 rw [List.take_add_one,getD_get hk]
 simp only [List.all_append,h,Bool.true_and]
 simpa using hx
theorem all_false {ls:List ByteArray} {p:ByteArray→Bool} {k:Nat} (hk:k < ls.length) (hx:p (ls.getD k ByteArray.empty)=false):ls.all p=false:=by
 rw [List.all_eq_false]
 exact ⟨_,List.mem_of_getElem? (getD_get hk),by rw [hx];simp⟩
theorem stk_any (sa:Option Addr) (sn sc:Nat) (ls:List ByteArray) (w:World) (hr:SRow w sa sn ls) (hn:(sn:Int)≤9223372036854775806) :
  Calls Tryz.prog 56 #[.slice sa sn sc] w fun e w'=>e=.returned (.bool (stkB ls))∧w'=w:=by
 have HL:Hid (ls.length=sn):=hr.len
 have HS:Hid (SRow w sa sn ls):=hr
 by_cases h16:sn≤16
 ·have HX:Hid (stkB ls=ls.all fun s=>decide (s.size≤65536)):=hide (by unfold stkB;rw [decide_eq_true (by rw [hr.len];exact h16)];rfl)
  have h16I:(sn:Int)≤16:=by omega
  clear hr
  go_enter Tryz.func56,Tryz.ntmps56
  go_wp2
  go_loopw [10] (fun i wr=>∃ k:Nat,k≤sn∧i=.int .i64 k∧wr=w∧((ls.take k).all fun s=>decide (s.size≤65536))=true) (fun i _=>sn - (intOf i).toNat)
  case atStart=>exact ⟨0,Nat.zero_le _,rfl,rfl,by simp⟩
  case round =>
   obtain ⟨k,hk,rfl,rfl,ha⟩:=hrel
   have HA:Hid _:=hide ha
   clear ha
   by_cases hlt:k < sn
   ·obtain ⟨b1,o1,rfl,hc1⟩:=HS.out.at hlt
    have hkI:(k:Int) < sn:=by omega
    have HT:=@all_take_succ ls (fun s=>decide (s.size≤65536)) k (by rw [HL.out];exact hlt) HA.out
    have HF:=@all_false ls (fun s=>decide (s.size≤65536)) k (by rw [HL.out];exact hlt)
    have HT':Hid _:=hide HT
    have HF':Hid _:=hide HF
    clear HT HF
    generalize ls.getD k ByteArray.empty=x at hc1 HT' HF'
    by_cases hx:x.size≤65536
    ·have hxI:(x.size:Int)≤65536:=by omega
     have HN:Hid _:=hide (HT'.out (decide_eq_true hx))
     clear hx
     go_wp2
     exact ⟨⟨k+1,by omega,by go_num,by trivial,HN.out⟩,by simp [intOf];omega⟩
    ·have hxI:(65536:Int) < (x.size:Int):=by omega
     have HN:Hid _:=hide (HF'.out (decide_eq_false hx))
     clear hx
     go_wp2
     go_ret
     exact ⟨ret_bool (by rw [HX.out];exact HN.out.symm),rfl⟩
   ·have HN:Hid _:=hide (show (ls.all fun s=>decide (s.size≤65536))=true by have:=HA.out;rwa [List.take_of_length_le (by rw [HL.out];omega)] at this)
    go_wp2
    go_ret
    exact ⟨ret_bool (by rw [HX.out];exact HN.out.symm),rfl⟩
 ·have HX:Hid (stkB ls=false):=hide (by unfold stkB;rw [decide_eq_false (by rw [hr.len];exact h16)];rfl)
  have h16I:(16:Int) < sn:=by omega
  clear hr
  go_enter Tryz.func56,Tryz.ntmps56
  go_wp2
  go_ret
  exact ⟨ret_bool HX.out.symm,rfl⟩
end Go.Proofs.YthgelfdefkbfeaaGreatDoor.E6
namespace Go.Proofs.YthgelfdefkbfeaaGreatDoor.E6
open Go.RowKit Go.Maps Go.Shelf
def EvB (w:World) (b:Nat) (g k o a:Int) (sa:Option Addr) (sn sc:Nat):Prop:=w.heap[b]?=some (.cells #[.int .i64 g,.int .i64 k,.int .u64 o,.int .u64 a,.slice sa sn sc] 43 (0,0))
section
variable {w w' : World} {b B : Nat} {g k o a : Int} {sa : Option Addr} {sn sc : Nat}
theorem EvB.new:EvB (w.alloc (.cells #[.int .i64 g,.int .i64 k,.int .u64 o,.int .u64 a,.slice sa sn sc] 43)) w.heap.size g k o a sa sn sc:=heap_alloc_new w _
theorem EvB.lt (h:EvB w b g k o a sa sn sc):b < w.heap.size:=(Array.getElem?_eq_some_iff.1 h).1
theorem EvB.below (h:EvB w b g k o a sa sn sc) (hb:Below w.heap.size w w'):EvB w' b g k o a sa sn sc:=(hb.block b h.lt).trans h
theorem EvB.c0 (h:EvB w b g k o a sa sn sc):w.cell? ⟨b,0,none⟩=some (.int .i64 g):=by rw [cell_of_row w b 0 _ 43 (0,0) h];rfl
theorem EvB.c1 (h:EvB w b g k o a sa sn sc):w.cell? ⟨b,1,none⟩=some (.int .i64 k):=by rw [cell_of_row w b 1 _ 43 (0,0) h];rfl
theorem EvB.c2 (h:EvB w b g k o a sa sn sc):w.cell? ⟨b,2,none⟩=some (.int .u64 o):=by rw [cell_of_row w b 2 _ 43 (0,0) h];rfl
theorem EvB.c3 (h:EvB w b g k o a sa sn sc):w.cell? ⟨b,3,none⟩=some (.int .u64 a):=by rw [cell_of_row w b 3 _ 43 (0,0) h];rfl
theorem EvB.c4 (h:EvB w b g k o a sa sn sc):w.cell? ⟨b,4,none⟩=some (.slice sa sn sc):=by rw [cell_of_row w b 4 _ 43 (0,0) h];rfl
end
def chk (g k o a:Int) (ls:List ByteArray):Int :=
 if 1≤k∧k≤22 then if g < 0∨65536≤g then 61 else if objB k.toNat o a then if argB k.toNat a then if stkB ls then 0 else 64 else 63 else 62 else 60
theorem below_new (w:World) (ob:Obj):Below w.heap.size w (w.alloc ob):=(Below.refl _ w).alloc (Nat.le_refl _) _
theorem check_any (g k o a:Int) (sa:Option Addr) (sn sc:Nat) (ls:List ByteArray) (w:World) (h:Kr w) (hr:SRow w sa sn ls) (hn:(sn:Int)≤9223372036854775806) :
  Calls Tryz.prog 42 #[.agg #[.int .i64 g,.int .i64 k,.int .u64 o,.int .u64 a,.slice sa sn sc]] w fun e w'=>e=.returned (.int .i64 (chk g k o a ls))∧Below w.heap.size w w':=by
 obtain ⟨R,hR⟩:∃ R,R=chk g k o a ls:=⟨_,rfl⟩
 rw [← hR]
 unfold chk at hR
 have hB:Below w.heap.size w (w.alloc (.cells #[.int .i64 g,.int .i64 k,.int .u64 o,.int .u64 a,.slice sa sn sc] 43)):=below_new w _
 have HB:Hid _:=hide hB
 have HK1:Hid _:=hide (h.below hB (by have:=h.size;omega))
 have HS1:Hid _:=hide (hr.bel hB)
 have HE1:Hid _:=hide (EvB.new (w:=w) (g:=g) (k:=k) (o:=o) (a:=a) (sa:=sa) (sn:=sn) (sc:=sc))
 have HQ:Hid _:=hide (kn_any k (w.alloc (.cells #[.int .i64 g,.int .i64 k,.int .u64 o,.int .u64 a,.slice sa sn sc] 43)))
 clear hB h hr
 by_cases hk:1≤k∧k≤22
 ·rw [if_pos hk] at hR
  rw [decide_eq_true hk] at HQ
  by_cases hg:g < 0∨65536≤g
  ·rw [if_pos hg] at hR
   subst hR
   rcases hg with hg|hg
   ·go_enter Tryz.func42,Tryz.ntmps42
    go_wp2_with fail
    refine HQ.out.mono ?_
    rintro e w' ⟨rfl,rfl⟩
    go_wp2
    go_ret
    exact ⟨rfl,HB.out⟩
   ·have hg0:decide (g < 0)=false:=by simp;omega
    go_enter Tryz.func42,Tryz.ntmps42
    go_wp2_with fail
    refine HQ.out.mono ?_
    rintro e w' ⟨rfl,rfl⟩
    go_wp2
    go_ret
    exact ⟨rfl,HB.out⟩
  ·rw [if_neg hg] at hR
   have g1:decide (g < 0)=false:=by simp;omega
   have g2:decide (65536≤g)=false:=by simp;omega
   have HR:Hid _:=hide hR
   clear hR hg
   obtain ⟨m,rfl⟩:∃ m:Nat,k=m:=⟨k.toNat,by omega⟩
   have hm:m < 23:=by omega
   rw [Int.toNat_natCast] at HR
   have HO:Hid _:=hide (obj_any g m o a sa sn sc _ HK1.out hm)
   clear hk
   go_enter Tryz.func42,Tryz.ntmps42
   go_wp2_with fail
   refine HQ.out.mono ?_
   rintro e w' ⟨rfl,rfl⟩
   go_wp2_with fail
   refine HO.out.mono ?_
   rintro e w2 ⟨rfl,hb2⟩
   have HB2:Hid _:=hide (HB.out.trans (hb2.mono HB.out.size))
   have HK2:Hid _:=hide (HK1.out.below hb2 (by have:=HK1.out.size;omega))
   have HE2:Hid _:=hide (HE1.out.below hb2)
   have HS2:Hid _:=hide (HS1.out.bel hb2)
   clear HQ HO hb2 HB HK1 HE1 HS1 g1 g2
   cases hob:objB m o a
   ·have HN:Hid (R=62):=hide (by rw [HR.out,hob];rfl)
    go_wp2
    go_ret
    exact ⟨by rw [HN.out];rfl,HB2.out⟩
   ·rw [hob] at HR
    simp only [if_true] at HR
    have HA:Hid _:=hide (arg_any g m o a sa sn sc w2 HK2.out hm)
    have q0:=HE2.out.c0
    have q1:=HE2.out.c1
    have q2:=HE2.out.c2
    have q3:=HE2.out.c3
    have q4:=HE2.out.c4
    go_wp2_with fail
    refine HA.out.mono ?_
    rintro e w3 ⟨rfl,hb3⟩
    have HB3:Hid _:=hide (HB2.out.trans (hb3.mono HB2.out.size))
    have HE3:Hid _:=hide (HE2.out.below hb3)
    have HS3:Hid _:=hide (HS2.out.bel hb3)
    clear HA hb3 HB2 HK2 HE2 HS2 q0 q1 q2 q3 q4
    cases hab:argB m a
    ·have HN:Hid (R=63):=hide (by rw [HR.out,hab];rfl)
     go_wp2
     go_ret
     exact ⟨by rw [HN.out];rfl,HB3.out⟩
    ·rw [hab] at HR
     simp only [if_true] at HR
     have q4:=HE3.out.c4
     have HT:Hid _:=hide (stk_any sa sn sc ls w3 HS3.out hn)
     go_wp2_with fail
     refine HT.out.mono ?_
     rintro e w4 ⟨rfl,rfl⟩
     cases hst:stkB ls
     ·have HN:Hid (R=64):=hide (by rw [HR.out,hst];rfl)
      go_wp2
      go_ret
      exact ⟨by rw [HN.out];rfl,HB3.out⟩
     ·have HN:Hid (R=0):=hide (by rw [HR.out,hst];rfl)
      go_wp2
      go_ret
      exact ⟨by rw [HN.out];rfl,HB3.out⟩
 ·rw [if_neg hk] at hR
  rw [decide_eq_false hk] at HQ
  subst hR
  clear hk
  go_enter Tryz.func42,Tryz.ntmps42
  go_wp2_with fail
  refine HQ.out.mono ?_
  rintro e w' ⟨rfl,rfl⟩
  go_wp2
  go_ret
  exact ⟨rfl,HB.out⟩
end Go.Proofs.YthgelfdefkbfeaaGreatDoor.E6
