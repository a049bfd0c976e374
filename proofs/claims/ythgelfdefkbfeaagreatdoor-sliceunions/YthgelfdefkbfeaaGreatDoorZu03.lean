import Derived.Test.YthgelfdefkbfeaaGreatDoorZu02
set_option maxRecDepth 8000
set_option maxHeartbeats 8000000
set_option linter.unusedVariables false
namespace Go.Proofs.YthgelfdefkbfeaaGreatDoor.E6
open Go.RowKit Go.Maps Go.Shelf
structure Ev where
 g:Int
 k:Int
 o:Int
 a:Int
 sa:Option Addr
 sc:Nat
 ls:List ByteArray
structure Ev.ok (e:Ev):Prop where
 ho:0≤e.o∧e.o≤18446744073709551615
 ha:0≤e.a∧e.a≤18446744073709551615
 len:e.ls.length≤8796093021952
 sz:∀ s ∈ e.ls,s.size≤maxLen
 cap:e.ls.length≤e.sc
 nil:e.sa=none→e.ls.length=0∧e.sc=0
def Ev.twin (e f:Ev):Prop:=f.g=e.g∧f.k=e.k∧f.o=e.o∧f.a=e.a∧f.ls=e.ls
def Ev.at (w:World) (e:Ev):Prop:=SRow w e.sa e.ls.length e.ls
structure ERow (w:World) (a:Option Addr) (n:Nat) (es:List Ev):Prop where
 len:es.length=n
 cells:n=0∨∃ b off,a=some ⟨b,off,none⟩∧∀ i e,es[i]?=some e→w.cell? ⟨b,off+i * 5,none⟩=some (.int .i64 e.g)∧w.cell? ⟨b,off+i * 5+1,none⟩=some (.int .i64 e.k)∧w.cell? ⟨b,off+i * 5+2,none⟩=some (.int .u64 e.o)∧w.cell? ⟨b,off+i * 5+3,none⟩=some (.int .u64 e.a)∧w.cell? ⟨b,off+i * 5+4,none⟩=some (.slice e.sa e.ls.length e.sc)∧e.at w
theorem ERow.at {w:World} {a:Option Addr} {n:Nat} {es:List Ev} (h:ERow w a n es) {i:Nat} (hi:i < n):∃ b off e,a=some ⟨b,off,none⟩∧es[i]?=some e∧w.cell? ⟨b,off+i * 5,none⟩=some (.int .i64 e.g)∧w.cell? ⟨b,off+i * 5+1,none⟩=some (.int .i64 e.k)∧w.cell? ⟨b,off+i * 5+2,none⟩=some (.int .u64 e.o)∧w.cell? ⟨b,off+i * 5+3,none⟩=some (.int .u64 e.a)∧w.cell? ⟨b,off+i * 5+4,none⟩=some (.slice e.sa e.ls.length e.sc)∧e.at w:=by
 rcases h.cells with h0|⟨b,off,e,hc⟩
 ·omega
 ·have hl:i < es.length:=by rw [h.len];exact hi
  exact ⟨b,off,es[i],e,List.getElem?_eq_getElem hl,hc i _ (List.getElem?_eq_getElem hl)⟩
theorem cell_bel {w w':World} {p:Addr} {v:Value} (hc:w.cell? p=some v) (hb:Below w.heap.size w w'):w'.cell? p=some v :=
 (hb.cell (World.block_lt_of_cell? w _ hc)).trans hc
theorem ERow.bel {w w':World} {a:Option Addr} {n:Nat} {es:List Ev} (h:ERow w a n es) (hb:Below w.heap.size w w'):ERow w' a n es :=
 ⟨h.len,h.cells.imp id fun ⟨b,off,e,hc⟩=>⟨b,off,e,fun i f hf=>by
  obtain ⟨c0,c1,c2,c3,c4,hs⟩:=hc i f hf
  exact ⟨cell_bel c0 hb,cell_bel c1 hb,cell_bel c2 hb,cell_bel c3 hb,cell_bel c4 hb,SRow.bel hs hb⟩⟩⟩
def ecell (e:Ev):List Value:=[.int .i64 e.g,.int .i64 e.k,.int .u64 e.o,.int .u64 e.a,.slice e.sa e.ls.length e.sc]
def ecells:List Ev→List Value
 | []=>[]
 | e :: l=>ecell e++ecells l
theorem ecells_snoc (l:List Ev) (e:Ev):ecells (l++[e])=ecells l++ecell e:=by
 induction l with
 | nil=>simp [ecells]
 | cons x l ih=>simp [ecells,ih]
theorem Tryz.infoEvent:(Tryz.prog.info? 43).map (fun i=>(i.zero,i.size,i.bytes))=some (some (.agg #[.int .i64 0,.int .i64 0,.int .u64 0,.int .u64 0,.slice none 0 0]),5,56):=by kernel_rfl
theorem srow_cells {w:World} {ad:Addr} {m:Nat} {L:List ByteArray} (h:SRow w (some ad) m L):∀ j u,(L.map Value.string)[j]?=some u→w.cell? (ad.add j)=some u:=by
 intro j u hj
 have hlt:j < L.length:=by have:=(List.getElem?_eq_some_iff.1 hj).1;simpa using this
 obtain ⟨b,off,e,hc⟩:=h.at (i:=j) (by rw [← h.len];exact hlt)
 cases e
 have ha:(⟨b,off,none⟩:Addr).add j=⟨b,off+j,none⟩:=by unfold Addr.add;split <;> simp_all
 rw [ha,hc]
 rw [List.getElem?_map,getD_get hlt] at hj
 simpa using hj
end Go.Proofs.YthgelfdefkbfeaaGreatDoor.E6
namespace Go.Proofs.YthgelfdefkbfeaaGreatDoor.E6
open Go.RowKit Go.Maps Go.Shelf
def newR (L:List ByteArray):List ByteArray→List ByteArray
 | []=>[]
 | t :: r=>if isIn L t || isIn r t then newR L r else newR L r++[t]
def newS (L l:List ByteArray):List ByteArray:=newR L l.reverse
theorem isIn_rev (l:List ByteArray) (s:ByteArray):isIn l.reverse s=isIn l s:=by
 rw [Bool.eq_iff_iff,isIn_iff,isIn_iff,List.mem_reverse]
theorem newS_snoc (L l:List ByteArray) (t:ByteArray):newS L (l++[t])=if isIn L t || isIn l t then newS L l else newS L l++[t]:=by
 unfold newS;rw [List.reverse_append];show newR L (t :: l.reverse)=_;rw [newR,isIn_rev]
theorem newS_take {L l:List ByteArray} {k:Nat} (h:k < l.length):newS L (l.take (k+1))=if isIn L (l.getD k ByteArray.empty) || isIn (l.take k) (l.getD k ByteArray.empty) then newS L (l.take k) else newS L (l.take k)++[l.getD k ByteArray.empty]:=by
 rw [← newS_snoc,List.take_add_one,getD_get h];rfl
theorem newS_len (L l:List ByteArray):(newS L l).length≤l.length:=by
 unfold newS
 have e:l.length=l.reverse.length:=by simp
 rw [e]
 clear e
 generalize l.reverse=r
 induction r with
 | nil=>simp [newR]
 | cons t r ih=>unfold newR;split <;> simp <;> omega
theorem newS_mem (L l:List ByteArray):∀ t,t ∈ newS L l ↔ t ∈ l∧t ∉ L:=by
 intro t
 unfold newS
 have e:t ∈ l ↔ t ∈ l.reverse:=by simp
 rw [e]
 clear e
 generalize l.reverse=q
 induction q with
 | nil=>simp [newR]
 | cons u r ih =>
  unfold newR
  by_cases h:(isIn L u || isIn r u)=true
  ·rw [if_pos h]
   refine Iff.trans ih ?_
   rw [Bool.or_eq_true,isIn_iff,isIn_iff] at h
   constructor
   ·rintro ⟨h1,h2⟩;exact ⟨by simp [h1],h2⟩
   ·rintro ⟨h1,h2⟩
    rcases List.mem_cons.1 h1 with rfl|h1
    ·rcases h with h|h
     ·exact absurd h h2
     ·exact ⟨h,h2⟩
    ·exact ⟨h1,h2⟩
  ·rw [if_neg h,List.mem_append]
   rw [Bool.or_eq_true,isIn_iff,isIn_iff] at h
   constructor
   ·rintro (h1|h1)
    ·exact ⟨by simp [(ih.1 h1).1],(ih.1 h1).2⟩
    ·simp at h1;subst h1;exact ⟨by simp,fun e=>h (.inl e)⟩
   ·rintro ⟨h1,h2⟩
    rcases List.mem_cons.1 h1 with rfl|h1
    ·exact .inr (by simp)
    ·exact .inl (ih.2 ⟨h1,h2⟩)
structure Roomy (L:List ByteArray) (n:Nat) (l:List ByteArray):Prop where
 each:∀ t ∈ newS L l,t.size≤65536
 count:L.length+(newS L l).length≤65536
 sum:total L+total (newS L l)≤4194304
 nodes:n+l.length≤262144
theorem total_le {l:List ByteArray} (h:∀ t ∈ l,t.size≤65536):total l≤l.length * 65536:=by
 induction l with
 | nil=>simp [total]
 | cons t r ih =>
  have h1:=h t (by simp)
  have h2:=ih (fun x hx=>h x (by simp [hx]))
  simp only [total,List.map_cons,List.sum_cons,List.length_cons] at h2 ⊢
  omega
def RoomE (L:List ByteArray) (n:Nat) (l:List ByteArray) (e:Ending):Prop:=∃ b:Bool,e=.returned (.bool b)∧(b=true ↔ Roomy L n l)
theorem hasRoom_any {w:World} {fb tb:Nat} {S T:Nat→Prop} {N:List Nd} {v:Value} {mb:Nat} {L:List ByteArray} {tv tm:Value} (hT:Tab w tb T L tv tm) (hF:Frs w fb tb S N v mb)
  (a:Option Addr) (n c:Nat) (l:List ByteArray) (hr:SRow w a n l) (hn:n≤16) (hc:n≤c) (hz:∀ s ∈ l,s.size≤maxLen) :
  Calls Tryz.prog 59 #[.pointer (some ⟨fb,0,none⟩),.slice a n c] w fun e w'=>RoomE L N.length l e∧∃ k,w'=w.drewN k:=by
 have HT:Hid (Tab w tb T L tv tm):=hT
 have HF:Hid (Frs w fb tb S N v mb):=hF
 have HR:Hid (SRow w a n l):=hr
 have HZ:Hid (∀ s ∈ l,s.size≤maxLen):=hz
 have HL:Hid (l.length=n):=hr.len
 have hn':(n:Int)≤16:=by omega
 have c0:=hF.cell0
 have t0:=hT.cell0
 have t2:=hT.cell2
 obtain ⟨ta,tc,rfl⟩:=own_form hT.own
 have hsum:(total L:Int)≤4194304:=by have:=hT.sum;omega
 have hcnt:(L.length:Int)≤65536:=by have:=hT.len;omega
 have HQ1:Hid (∀ j,Calls Tryz.prog 121 #[.pointer (some ⟨tb,0,none⟩)] (w.drewN j) fun e w'=>e=.returned (.int .i64 L.length)∧w'=w.drewN j):=hide (fun j=>len_any tb _ tc ta _ (cell_drewN t0 j))
 have HQ2:Hid (∀ j,Calls Tryz.prog 122 #[.pointer (some ⟨tb,0,none⟩)] (w.drewN j) fun e w'=>e=.returned (.int .i64 (total L:Nat))∧w'=w.drewN j):=hide (fun j=>bytes_any tb _ _ (cell_drewN t2 j))
 clear hT hF hr hz t0 t2
 go_enter Tryz.func59,Tryz.ntmps59
 go_wp2
 go_quiet ((first|(go_at_call 121;exact Calls.quiet_of_same (HQ1.out _))|(go_at_call 122;exact Calls.quiet_of_same (HQ2.out _))))
 go_wp2
 go_loopw [5,6,23] (fun d z i wr=>∃ k q cn sz:Nat,k≤n∧i=.int .i64 k∧d=.int .i64 (cn:Int)∧z=.int .i64 (sz:Int)∧wr=w.drewN q∧cn=L.length+(newS L (l.take k)).length∧sz=total L+total (newS L (l.take k))∧∀ t ∈ newS L (l.take k),t.size≤65536) (fun _ _ i _=>n - (intOf i).toNat)
 case atStart=>exact ⟨0,nq,L.length,total L,Nat.zero_le _,rfl,rfl,rfl,rfl,rfl,rfl,by simp [newS,newR]⟩
 case round =>
  obtain ⟨k,q,cn,sz,hk,rfl,rfl,rfl,hw,hcn,hsz,hev⟩:=hrel
  have HW:Hid (wr=w.drewN q):=hw
  have HEV:Hid (∀ t ∈ newS L (l.take k),t.size≤65536):=hev
  have HCN:Hid (cn=L.length+(newS L (l.take k)).length):=hcn
  have HSZ:Hid (sz=total L+total (newS L (l.take k))):=hsz
  have hTr:Hid (Tab wr tb T L (.slice ta L.length tc) tm):=hide (by rw [hw];exact HT.out.drewN q)
  have hFr:Hid (Frs wr fb tb S N v mb):=hide (by rw [hw];exact HF.out.drewN q)
  have hRr:Hid (SRow wr a n l):=hide (by rw [hw];exact HR.out.drewN q)
  have hkl:(newS L (l.take k)).length≤k:=by have:=newS_len L (l.take k);rw [List.length_take] at this;omega
  have hcn':(cn:Int)≤65552:=by rw [hcn];omega
  have hsz':(sz:Int)≤5242880:=by have:=total_le hev;rw [hsz];omega
  have c0:=hFr.out.cell0
  have c1:=hFr.out.cell1
  have hNl:=hFr.out.len
  obtain ⟨va,vc,rfl⟩:=own_form hFr.out.own
  clear hw hcn hsz hev hkl
  by_cases hlt:k < n
  ·obtain ⟨bo,oo,ha,hco⟩:=hRr.out.at (i:=k) (by omega)
   subst ha
   have hN:=newS_take (L:=L) (l:=l) (k:=k) (by have:=HL.out;omega)
   obtain ⟨s,hs⟩:∃ s,s=l.getD k ByteArray.empty:=⟨_,rfl⟩
   have HS:Hid (s.size≤maxLen):=hide (by rw [hs];exact HZ.out _ (List.mem_of_getElem? (getD_get (by have:=HL.out;omega))))
   rw [← hs] at hco hN
   obtain ⟨b,hb⟩:∃ b,isIn L s=b:=⟨_,rfl⟩
   obtain ⟨fr,hfr⟩:∃ fr:Int,fr=if isIn L s then (place L s:Int) else 0:=⟨_,rfl⟩
   have HQ:Hid (Calls Tryz.prog 120 #[.pointer (some ⟨tb,0,none⟩),.string s] wr fun e w'=>e=.returned (.tuple #[.int .i64 fr,.bool b])∧w'=wr):=hide (by
    have:=find_any hTr.out s HS.out
    have e:lookV L s=.tuple #[.int .i64 fr,.bool b]:=by unfold lookV;rw [hfr,← hb]
    rwa [e] at this)
   obtain ⟨b2,hb2⟩:∃ b2,isIn (l.take k) s=b2:=⟨_,rfl⟩
   have HC:Hid (Calls Tryz.prog 123 #[.slice (some ⟨bo,oo,none⟩) k c,.string s] wr fun e w'=>e=.returned (.bool b2)∧w'=wr):=hide (by
    have:=contains_any (some ⟨bo,oo,none⟩) k c (l.take k) s wr (hRr.out.take hk) (by omega)
    rwa [hb2] at this)
   rw [hb,hb2] at hN
   have HN:Hid _:=hide hN
   have HSM:Hid (s ∈ l):=hide (by rw [hs];exact List.mem_of_getElem? (getD_get (by have:=HL.out;omega)))
   have HSN:Hid (b=true∨s ∉ L):=hide (by cases b;exact .inr (isIn_not.1 hb);exact .inl rfl)
   have hss:(s.size:Int)≤9223372036854775807:=by have:=HS.out;unfold maxLen at this;omega
   clear hs hb hb2 hfr hN
   go_wp2_with fail
   refine HQ.out.mono ?_
   rintro e w' ⟨rfl,rfl⟩
   have hkc:(k:Int)≤c:=by omega
   cases b
   ·go_wp2_with fail
    refine HC.out.mono ?_
    rintro e w'' ⟨rfl,rfl⟩
    cases b2
    ·by_cases hbig:(s.size:Int) > 65536
     ·go_wp2
      go_ret
      refine ⟨⟨false,rfl,?_⟩,q,HW.out⟩
      refine ⟨fun e=>(by cases e),fun h=>?_⟩
      have:=h.each s ((newS_mem L l s).2 ⟨HSM.out,HSN.out.resolve_left (by simp)⟩)
      omega
     ·go_wp2
      refine ⟨⟨k+1,q,cn+1,sz+s.size,by omega,by go_num,by go_num,by go_num,HW.out,?_,?_,?_⟩,by simp [intOf];omega⟩
      ·rw [HN.out,HCN.out];simp;omega
      ·rw [HN.out,HSZ.out];simp [total_snoc];omega
      ·rw [HN.out]
       intro t ht
       simp at ht
       rcases ht with ht|rfl
       ·exact HEV.out t ht
       ·omega
    ·go_wp2
     refine ⟨⟨k+1,q,cn,sz,by omega,by go_num,rfl,rfl,HW.out,?_,?_,?_⟩,by simp [intOf];omega⟩
     ·rw [HN.out,HCN.out];simp
     ·rw [HN.out,HSZ.out];simp
     ·rw [HN.out];exact HEV.out
   ·go_wp2
    refine ⟨⟨k+1,q,cn,sz,by omega,by go_num,rfl,rfl,HW.out,?_,?_,?_⟩,by simp [intOf];omega⟩
    ·rw [HN.out,HCN.out];simp
    ·rw [HN.out,HSZ.out];simp
    ·rw [HN.out];exact HEV.out
  ·have ht:l.take k=l:=List.take_of_length_le (by have:=HL.out;omega)
   rw [ht] at HCN HSZ HEV
   have hkn:k=n:=by omega
   subst hkn
   by_cases h1:(cn:Int)≤65536
   ·by_cases h2:(sz:Int)≤4194304
    ·by_cases h3:(N.length:Int)+k≤262144
     ·have HX:Hid (Roomy L N.length l):=⟨HEV.out,by have:=HCN.out;omega,by have:=HSZ.out;omega,by have:=HL.out;omega⟩
      clear ht
      go_wp2
      go_ret
      exact ⟨⟨true,rfl,fun _=>HX.out,fun _=>rfl⟩,q,HW.out⟩
     ·have HX:Hid (¬ Roomy L N.length l):=fun h=>h3 (by have:=h.nodes;have:=HL.out;omega)
      clear ht
      go_wp2
      go_ret
      exact ⟨⟨false,rfl,fun e=>(by cases e),fun h=>absurd h HX.out⟩,q,HW.out⟩
    ·have HX:Hid (¬ Roomy L N.length l):=fun h=>h2 (by have:=h.sum;have:=HSZ.out;omega)
     clear ht
     go_wp2
     go_ret
     exact ⟨⟨false,rfl,fun e=>(by cases e),fun h=>absurd h HX.out⟩,q,HW.out⟩
   ·have HX:Hid (¬ Roomy L N.length l):=fun h=>h1 (by have:=h.count;have:=HCN.out;omega)
    clear ht
    go_wp2
    go_ret
    exact ⟨⟨false,rfl,fun e=>(by cases e),fun h=>absurd h HX.out⟩,q,HW.out⟩
end Go.Proofs.YthgelfdefkbfeaaGreatDoor.E6
namespace Go.Proofs.YthgelfdefkbfeaaGreatDoor.E6
open Go.RowKit Go.Maps Go.Shelf
def Good (L:List ByteArray) (N:List Nd):Prop:=N.Nodup∧∀ n ∈ N,n.1 < N.length∧n.2 < L.length
structure Stt where
 L:List ByteArray
 N:List Nd
 id:Nat
def stp (s:Stt) (t:ByteArray):Stt:=⟨internL s.L t,s.N++[(s.id,place (internL s.L t) t)],s.N.length+1⟩
def runs (s:Stt) (r:List ByteArray):Stt:=r.foldl stp s
theorem runs_snoc (s:Stt) (r:List ByteArray) (t:ByteArray):runs s (r++[t])=stp (runs s r) t:=by simp [runs]
theorem total_append (a b:List ByteArray):total (a++b)=total a+total b:=by simp [total]
theorem total_sub {E:List ByteArray}:∀ {M:List ByteArray},E.Nodup→(∀ x ∈ E,x ∈ M)→total E≤total M∧E.length≤M.length:=by
 induction E with
 | nil=>intro M _ _;simp [total]
 | cons x E ih =>
  intro M hd hs
  obtain ⟨s,t,rfl⟩:=List.append_of_mem (hs x (by simp))
  have hd':=List.nodup_cons.1 hd
  have h:=ih (M:=s++t) hd'.2 (fun y hy=>by
   have:=hs y (by simp [hy])
   simp at this ⊢
   rcases this with h|h|h
   ·exact .inl h
   ·subst h;exact absurd hy hd'.1
   ·exact .inr h)
  rw [total_append] at h ⊢
  have e1:total (x :: E)=x.size+total E:=by simp [total]
  have e2:total (x :: t)=x.size+total t:=by simp [total]
  rw [e1,e2]
  simp only [List.length_append,List.length_cons] at h ⊢
  omega
theorem internL_old {L:List ByteArray} {s:ByteArray} (h:s ∈ L):internL L s=L:=by unfold internL;rw [isIn_iff.2 h];rfl
theorem internL_new {L:List ByteArray} {s:ByteArray} (h:s ∉ L) (hr:roomy L.length (total L) s.size=true):internL L s=L++[s]:=by
 unfold internL;rw [isIn_not.2 h,hr];rfl
theorem place_snoc {L:List ByteArray} {s:ByteArray} (h:s ∉ L):place (L++[s]) s=L.length:=by
 induction L with
 | nil=>simp [place]
 | cons x l ih =>
  rw [List.cons_append]
  unfold place
  rw [if_neg (by intro e;apply h;cases x;cases s;subst e;simp),ih (fun hm=>h (by simp [hm]))];simp
theorem place_lt {L:List ByteArray} {s:ByteArray} (h:s ∈ L):place L s < L.length:=(List.getElem?_eq_some_iff.1 (place_get h)).1
structure Mid (L0:List ByteArray) (N0:List Nd) (id0:Nat) (r:List ByteArray) (k:Nat) (s:Stt):Prop where
 ext:∃ E:List ByteArray,s.L=L0++E∧(E.Nodup∧∀ x ∈ E,x ∈ newS L0 r)
 nodes:s.N.length=N0.length+k
 idle:s.id≤s.N.length
 good:Good s.L s.N
 fresh:∀ t,r.reverse[k]?=some t→(s.id,place (internL s.L t) t) ∉ s.N
 nodup:s.L.Nodup
theorem Mid.room {L0:List ByteArray} {N0:List Nd} {id0 k:Nat} {r:List ByteArray} {s:Stt} (h:Mid L0 N0 id0 r k s) (hR:Roomy L0 N0.length r) {t:ByteArray} (ht:t ∈ r):t ∈ s.L∨roomy s.L.length (total s.L) t.size=true:=by
 by_cases hin:t ∈ s.L
 ·exact .inl hin
 ·right
  obtain ⟨E,hE,hd,hm⟩:=h.ext
  have hnot:t ∉ L0∧t ∉ E:=by rw [hE] at hin;simp at hin;exact hin
  have hnew:t ∈ newS L0 r:=(newS_mem _ _ _).2 ⟨ht,hnot.1⟩
  have h2:=total_sub (E:=t :: E) (M:=newS L0 r) (List.nodup_cons.2 ⟨hnot.2,hd⟩) (by intro x hx;rcases List.mem_cons.1 hx with rfl|hx;exact hnew;exact hm x hx)
  have e1:total (t :: E)=t.size+total E:=by simp [total]
  rw [e1] at h2
  have:=hR.each t hnew
  have:=hR.count
  have:=hR.sum
  unfold roomy
  apply decide_eq_true
  rw [hE,total_append,List.length_append]
  simp only [List.length_cons] at h2
  omega
theorem Mid.answers {L0:List ByteArray} {N0:List Nd} {id0 k:Nat} {r:List ByteArray} {s:Stt} (h:Mid L0 N0 id0 r k s) (hR:Roomy L0 N0.length r) {t:ByteArray} (ht:t ∈ r) :
  internV s.L t=.tuple #[.int .i64 (place (internL s.L t) t:Int),.int .i64 0]∧t ∈ internL s.L t:=by
 rcases h.room hR ht with hin|hr
 ·rw [internL_old hin];unfold internV;rw [isIn_iff.2 hin];exact ⟨rfl,hin⟩
 ·by_cases hin:t ∈ s.L
  ·rw [internL_old hin];unfold internV;rw [isIn_iff.2 hin];exact ⟨rfl,hin⟩
  ·rw [internL_new hin hr,place_snoc hin];unfold internV;rw [isIn_not.2 hin,hr];exact ⟨rfl,by simp⟩
theorem Mid.step {L0:List ByteArray} {N0:List Nd} {id0 k:Nat} {r:List ByteArray} {s:Stt} (h:Mid L0 N0 id0 r k s) (hR:Roomy L0 N0.length r) {t:ByteArray} (ht:r.reverse[k]?=some t):Mid L0 N0 id0 r (k+1) (stp s t):=by
 have htr:t ∈ r:=by have:=List.mem_of_getElem? ht;simpa using this
 have hin:=(h.answers hR htr).2
 have hL:∃ E,internL s.L t=s.L++E:=by
  unfold internL;split
  ·exact ⟨[],by simp⟩
  ·split
   ·exact ⟨_,rfl⟩
   ·exact ⟨[],by simp⟩
 obtain ⟨E',hE'⟩:=hL
 have hg:Good (stp s t).L (stp s t).N:=by
  refine ⟨?_,?_⟩
  ·show (s.N++[_]).Nodup
   rw [List.nodup_append]
   refine ⟨h.good.1,by simp,?_⟩
   intro a ha b hb
   simp at hb
   rintro rfl
   exact h.fresh t ht (by rw [← hb];exact ha)
  ·intro n hn
   show n.1 < (s.N++[_]).length∧n.2 < (internL s.L t).length
   have hl:s.L.length≤(internL s.L t).length:=by rw [hE'];simp
   rcases List.mem_append.1 hn with hn|hn
   ·have:=h.good.2 n hn;simp;omega
   ·simp at hn;subst hn
    have:=h.idle
    have:=place_lt hin
    simp;omega
 refine ⟨?_,by show (s.N++[_]).length=_;have:=h.nodes;simp;omega,by show s.N.length+1≤(s.N++[_]).length;simp,hg,?_,?_⟩
 ·obtain ⟨E,hE,hd,hm⟩:=h.ext
  show ∃ E,internL s.L t=_∧_
  by_cases hs:t ∈ s.L
  ·rw [internL_old hs];exact ⟨E,hE,hd,hm⟩
  ·have hr:=(h.room hR htr).resolve_left hs
   rw [internL_new hs hr,hE]
   have hnot:t ∉ L0∧t ∉ E:=by rw [hE] at hs;simp at hs;exact hs
   refine ⟨E++[t],by simp,?_,?_⟩
   ·rw [List.nodup_append]
    exact ⟨hd,by simp,by intro a ha b hb;simp at hb;rintro rfl;exact hnot.2 (by rw [← hb];exact ha)⟩
   ·intro x hx
    rcases List.mem_append.1 hx with hx|hx
    ·exact hm x hx
    ·simp at hx;subst hx;exact (newS_mem _ _ _).2 ⟨htr,hnot.1⟩
 ·intro u _ hm
  have:=(hg.2 _ hm).1
  have e1:(stp s t).id=s.N.length+1:=rfl
  have e2:(stp s t).N.length=s.N.length+1:=by show (s.N++[_]).length=_;simp
  simp only at this
  omega
 ·show (internL s.L t).Nodup
  by_cases hs:t ∈ s.L
  ·rw [internL_old hs];exact h.nodup
  ·have hr:=(h.room hR htr).resolve_left hs
   rw [internL_new hs hr,List.nodup_append]
   exact ⟨h.nodup,by simp,by intro a ha b hb;simp at hb;rintro rfl;exact hs (by rw [← hb];exact ha)⟩
theorem kn_le {L:List ByteArray} {N:List Nd}:∀ {r:List ByteArray} {id:Nat},id≤N.length→(kn L N id r).1≤N.length:=by
 intro r
 induction r with
 | nil=>intro id h;exact h
 | cons s r ih =>
  intro id h
  unfold kn
  split
  ·exact ih (nid_le _ _)
  ·exact h
theorem kn_len {L:List ByteArray} {N:List Nd}:∀ {r:List ByteArray} {id:Nat},(kn L N id r).2.length≤r.length∧(kn L N id r).2=r.drop (r.length - (kn L N id r).2.length):=by
 intro r
 induction r with
 | nil=>intro id;simp [kn]
 | cons s r ih =>
  intro id
  unfold kn
  split
  ·have h:=@ih (nid N (id,place L s))
   refine ⟨by simp;omega,?_⟩
   have e:(s :: r).length - (kn L N (nid N (id,place L s)) r).2.length=(r.length - (kn L N (nid N (id,place L s)) r).2.length)+1:=by simp;omega
   rw [e,List.drop_succ_cons]
   exact h.2
  ·simp
theorem kn_fresh {L:List ByteArray} {N:List Nd} (hf:∀ n ∈ N,n.2 < L.length):∀ {r:List ByteArray} {id:Nat} {t:ByteArray},(kn L N id r).2[0]?=some t→(t ∈ L∨roomy L.length (total L) t.size=true)→((kn L N id r).1,place (internL L t) t) ∉ N:=by
 intro r
 induction r with
 | nil=>intro id t h;simp [kn] at h
 | cons s r ih =>
  intro id t
  unfold kn
  split
  ·exact ih
  ·rename_i hc
   intro h hr
   simp at h
   subst h
   by_cases hs:s ∈ L
   ·rw [internL_old hs]
    intro hm
    exact hc ⟨isIn_iff.2 hs,by rw [nid,if_pos hm];omega⟩
   ·rw [internL_new hs (hr.resolve_left hs),place_snoc hs]
    intro hm
    have:=hf _ hm
    simp at this
theorem Mid.start {L:List ByteArray} {N:List Nd} {r0 r:List ByteArray} (hg:Good L N) (hd:L.Nodup) (hr:r=(kn L N 0 r0).2.reverse) (hR:Roomy L N.length r):Mid L N (kn L N 0 r0).1 r 0 ⟨L,N,(kn L N 0 r0).1⟩:=by
 have m0:Mid L N (kn L N 0 r0).1 [] 0 ⟨L,N,(kn L N 0 r0).1⟩:=⟨⟨[],by simp,by simp,by simp⟩,rfl,kn_le (Nat.zero_le _),hg,by simp,hd⟩
 refine ⟨⟨[],by simp,by simp,by simp⟩,rfl,m0.idle,hg,?_,hd⟩
 intro t ht
 have e:r.reverse=(kn L N 0 r0).2:=by rw [hr,List.reverse_reverse]
 rw [e] at ht
 refine kn_fresh (fun n hn=>(hg.2 n hn).2) ht ?_
 by_cases hs:t ∈ L
 ·exact .inl hs
 ·right
  have htr:t ∈ r:=by rw [hr,List.mem_reverse];exact List.mem_of_getElem? ht
  have hnew:t ∈ newS L r:=(newS_mem _ _ _).2 ⟨htr,hs⟩
  have h2:=total_sub (E:=[t]) (M:=newS L r) (by simp) (by intro x hx;simp at hx;subst hx;exact hnew)
  have e1:total [t]=t.size:=by simp [total]
  rw [e1] at h2
  have:=hR.each t hnew
  have:=hR.count
  have:=hR.sum
  unfold roomy
  apply decide_eq_true
  simp only [List.length_cons,List.length_nil] at h2
  omega
end Go.Proofs.YthgelfdefkbfeaaGreatDoor.E6
