import Derived.Test.YtimgkhdgliojgaaGreatDoorOg04
import Derived.Test.YtimgkhdgliojgaaGreatDoorOg03
set_option maxRecDepth 8000
set_option maxHeartbeats 8000000
set_option linter.unusedVariables false
namespace Go.Proofs.YtimgkhdgliojgaaGreatDoor
open Go.RowKit Go.Maps
def TQ (pl:Nat→Int→Int) (Z:Nat→Prop) (w:World) (v:Value) (c:Nat→Int):Prop:=(v=.pointer none∧∀ x,c x=0)∨∃ t p,v=.pointer (some ⟨p,0,none⟩)∧TrAt Z w t p∧t.ok∧t.lok pl∧∀ x,c x=t.tm x
section
variable {pl : Nat → Int → Int} {Z Y S : Nat → Prop} {w w' : World} {v : Value} {c : Nat → Int}
theorem TQ.tp (h:TQ pl Z w v c):TP Z w v c:=by
 rcases h with h|⟨t,p,h1,h2,h3,_,h4⟩
 ·exact .inl h
 ·exact .inr ⟨t,p,h1,h2,h3,h4⟩
theorem TQ.bel (h:TQ pl Z w v c) (hb:Below w.heap.size w w'):TQ pl Z w' v c:=by
 rcases h with h|⟨t,p,h1,h2,h3⟩
 ·exact .inl h
 ·exact .inr ⟨t,p,h1,h2.bel hb,h3⟩
theorem TQ.but (h:TQ pl Z w v c) (hb:But S w w') (hS:∀ k,Z k→¬ S k):TQ pl Z w' v c:=by
 rcases h with h|⟨t,p,h1,h2,h3⟩
 ·exact .inl h
 ·exact .inr ⟨t,p,h1,TrAt.but hb hS h2,h3⟩
theorem TQ.mono (h:TQ pl Z w v c) (hZ:∀ k,Z k→Y k):TQ pl Y w v c:=by
 rcases h with h|⟨t,p,h1,h2,h3⟩
 ·exact .inl h
 ·exact .inr ⟨t,p,h1,TrAt.mono hZ h2,h3⟩
theorem TQ.eq {d:Nat→Int} (h:TQ pl Z w v c) (hd:∀ x,d x=c x):TQ pl Z w v d:=by
 rcases h with ⟨h1,h2⟩|⟨t,p,h1,h2,h3,h4,h5⟩
 ·exact .inl ⟨h1,fun x=>by rw [hd,h2]⟩
 ·exact .inr ⟨t,p,h1,h2,h3,h4,fun x=>by rw [hd,h5]⟩
theorem TQ.nil (pl:Nat→Int→Int) (Z:Nat→Prop) (w:World):TQ pl Z w (.pointer none) (fun _=>0):=.inl ⟨rfl,fun _=>rfl⟩
theorem TQ.bd (h:TQ pl Z w v c) (x:Nat):0≤c x∧c x≤1048576:=h.tp.bd x
theorem TQ.form (h:TQ pl Z w v c):∃ o,v=.pointer o:=by
 rcases h with ⟨h,_⟩|⟨t,p,h,_⟩
 ·exact ⟨_,h⟩
 ·exact ⟨_,h⟩
end
theorem join_nil_right (w:World) (o:Option Addr):Calls Tryz.prog 47 #[.pointer o,.pointer none] w fun e w'=>e=.returned (.pointer o)∧w'=w:=by
 cases o with
 | none =>
  go_enter Tryz.func47,Tryz.ntmps47
  go_wp2
  go_ret
  exact ⟨rfl,rfl⟩
 | some a =>
  go_enter Tryz.func47,Tryz.ntmps47
  go_wp2
  go_ret
  exact ⟨rfl,rfl⟩
theorem join_nil_left (w:World) (p:Nat):Calls Tryz.prog 47 #[.pointer none,.pointer (some ⟨p,0,none⟩)] w fun e w'=>e=.returned (.pointer (some ⟨p,0,none⟩))∧w'=w:=by
 have E0:=peq_nil w p
 go_enter Tryz.func47,Tryz.ntmps47
 go_wp2
 go_ret
 exact ⟨rfl,rfl⟩
theorem tjn_any {pl:Nat→Int→Int} (hpl:Rise2 pl) {Z:Nat→Prop} {w:World} {v1 v2:Value} {c1 c2:Nat→Int} (h1:TQ pl Z w v1 c1) (h2:TQ pl Z w v2 c2) :
  Calls Tryz.prog 47 #[v1,v2] w fun e w'=>∃ v,e=.returned v∧TQ pl (Nz Z w w') w' v (fun x=>max (c1 x) (c2 x))∧Below w.heap.size w w':=by
 rcases h2 with ⟨rfl,e2⟩|⟨t2,p2,rfl,g2,ok2,lk2,e2⟩
 ·obtain ⟨o,rfl⟩:=h1.form
  refine (join_nil_right w o).mono ?_
  rintro e w' ⟨rfl,rfl⟩
  exact ⟨_,rfl,(h1.mono Nz.old).eq (fun x=>by have:=(h1.bd x).1;rw [e2 x];omega),Below.refl _ _⟩
 ·rcases h1 with ⟨rfl,e1⟩|⟨t1,p1,rfl,g1,ok1,lk1,e1⟩
  ·refine (join_nil_left w p2).mono ?_
   rintro e w' ⟨rfl,rfl⟩
   exact ⟨_,rfl,.inr ⟨t2,p2,rfl,TrAt.mono Nz.old g2,ok2,lk2,fun x=>by have:=(Tr.bd ok2 x).1;show max (c1 x) (c2 x)=_;rw [e1 x,e2 x];omega⟩,Below.refl _ _⟩
  ·refine (join_tr _ t1 t2 (Nat.le_refl _) Z w p1 p2 g1 g2 ok1 ok2).mono ?_
   rintro e w' ⟨z,t,rfl,ht,hj,hb⟩
   exact ⟨_,rfl,.inr ⟨t,z,rfl,ht,hj.ok,hj.lok pl hpl lk1 lk2,fun x=>by show max (c1 x) (c2 x)=_;rw [e1 x,e2 x,hj.tm x]⟩,hb⟩
def sgl (g:Nat) (tm:Int):Nat→Int:=fun x=>if x=g then tm else 0
theorem sgl_tm {g:Nat} {tm l:Int}:∀ x,(Tr.leaf (g / 16) l ((List.replicate 16 0).set (g % 16) tm)).tm x=sgl g tm x:=by
 intro x
 unfold Tr.tm sgl
 rw [List.getD_eq_getElem?_getD]
 by_cases h:x / 16=g / 16
 ·rw [if_pos h]
  by_cases h2:x % 16=g % 16
  ·rw [if_pos (by omega),h2,List.getElem?_set_self (by rw [List.length_replicate];omega)]
   rfl
  ·rw [if_neg (by omega),List.getElem?_set_ne (by omega),List.getElem?_replicate,if_pos (by omega)]
   rfl
 ·rw [if_neg h,if_neg (by omega)]
theorem sgl_ok {g:Nat} {tm l:Int} (hg:g < 65536) (ht:0≤tm∧tm≤1048576) (hl:0≤l∧l≤1048576):(Tr.leaf (g / 16) l ((List.replicate 16 0).set (g % 16) tm)).ok:=by
 refine ⟨by omega,by rw [List.length_set,List.length_replicate],fun v hv=>?_,hl⟩
 rcases List.mem_or_eq_of_mem_set hv with h|h
 ·rw [List.eq_of_mem_replicate h];decide
 ·rw [h];exact ht
theorem sgl_lok {pl:Nat→Int→Int} {g:Nat} {tm l:Int} (h:1≤tm→pl g tm=l) (h0:¬ 1≤tm→l=0):(Tr.leaf (g / 16) l ((List.replicate 16 0).set (g % 16) tm)).lok pl:=by
 refine ⟨fun x hx=>?_,?_⟩
 ·rw [sgl_tm] at hx ⊢
  unfold sgl at hx ⊢
  by_cases e:x=g
  ·subst e
   rw [if_pos rfl] at hx ⊢
   rw [h hx]
   exact Int.le_refl _
  ·rw [if_neg e] at hx;omega
 ·by_cases ht:1≤tm
  ·exact .inr ⟨g,by rw [sgl_tm];unfold sgl;rw [if_pos rfl];exact ht,by rw [sgl_tm];unfold sgl;rw [if_pos rfl];exact h ht⟩
  ·exact .inl (h0 ht)
def zl:List Value:=[.int .i32 0,.int .i32 0,.int .i32 0,.int .i32 0,.int .i32 0,.int .i32 0,.int .i32 0,.int .i32 0,.int .i32 0,.int .i32 0,.int .i32 0,.int .i32 0,.int .i32 0,.int .i32 0,.int .i32 0,.int .i32 0]
theorem single_mem {Z:Nat→Prop} (w:World) {g:Nat} (tm l:Int) (hZ:∀ k,w.heap.size≤k→k < w.heap.size+2→Z k) :
  TrAt Z ((w.alloc (.cells (zl.set (g % 16) (.int .i32 tm)).toArray 184)).alloc (.cells (tC ((g / 16 * 16:Nat):Int) 15 l (.pointer none) (.pointer none) (ptr w.heap.size)) 166)) (.leaf (g / 16) l ((List.replicate 16 0).set (g % 16) tm)) (w.heap.size+1):=by
 refine ⟨hZ _ (by omega) (by omega),w.heap.size,hZ _ (by omega) (by omega),heap_newS (by simp),?_⟩
 rw [Below.heap_alloc _ _ _ (by simp),List.map_set]
 exact heap_new _ _
theorem single_any {pl:Nat→Int→Int} (w:World) {g:Nat} {tm l:Int} (hg:g < 65536) (ht:0≤tm∧tm≤1048576) (hl:0≤l∧l≤1048576) (hp:1≤tm→pl g tm=l) (hp0:¬ 1≤tm→l=0) (Z:Nat→Prop) :
  Calls Tryz.prog 56 #[.int .u16 (g:Int),.int .i32 tm,.int .i32 l] w fun e w'=>∃ v,e=.returned v∧TQ pl (Nz Z w w') w' v (sgl g tm)∧Below w.heap.size w w':=by
 have hand:bits .and .u16 (g:Int) 15=((g % 16:Nat):Int):=by
  rw [show (15:Int)=((15:Nat):Int) from rfl,u16_and_nat _ _ hg (by decide),low4]
 have hnot:bits .andNot .u16 (g:Int) 15=((g / 16 * 16:Nat):Int):=by
  rw [show (15:Int)=((15:Nat):Int) from rfl,u16_andNot_nat _ _ hg (by decide)]
  have h9:=mask_hi g 4 hg (by decide)
  exact congrArg _ h9
 obtain ⟨W,hW⟩:∃ W,W=(w.alloc (.cells (zl.set (g % 16) (.int .i32 tm)).toArray 184)).alloc (.cells (tC ((g / 16 * 16:Nat):Int) 15 l (.pointer none) (.pointer none) (ptr w.heap.size)) 166):=⟨_,rfl⟩
 have hsz:W.heap.size=w.heap.size+2:=by rw [hW];simp
 have hT:=single_mem (Z:=Nz Z w W) w (g:=g) tm l (fun k h1 h2=>.inr ⟨h1,by omega⟩)
 rw [← hW] at hT
 have hB:Below w.heap.size w W:=by
  rw [hW]
  exact below_alloc2 w _ _
 have HR:Hid (∃ v,Ending.returned (.pointer (some ⟨w.heap.size+1,0,none⟩))=.returned v∧TQ pl (Nz Z w W) W v (sgl g tm)∧Below w.heap.size w W):=hide ⟨_,rfl,.inr ⟨_,_,rfl,hT,sgl_ok hg ht hl,sgl_lok hp hp0,fun x=>(sgl_tm x).symm⟩,hB⟩
 have HW:=hide hW
 unfold zl tC ptr at HW
 obtain ⟨i,hi⟩:∃ i,g % 16=i:=⟨_,rfl⟩
 have hiI:(i:Int) < 16:=by omega
 have hi0:(0:Int)≤i:=by omega
 rw [hi] at hand HW
 generalize ((g / 16 * 16:Nat):Int)=Q at hnot HW
 generalize (g:Int)=G at hand hnot ⊢
 have h16:i=0∨i=1∨i=2∨i=3∨i=4∨i=5∨i=6∨i=7∨i=8∨i=9∨i=10∨i=11∨i=12∨i=13∨i=14∨i=15:=by omega
 have hcell:((w.alloc (.cells #[.int .i32 0,.int .i32 0,.int .i32 0,.int .i32 0,.int .i32 0,.int .i32 0,.int .i32 0,.int .i32 0,.int .i32 0,.int .i32 0,.int .i32 0,.int .i32 0,.int .i32 0,.int .i32 0,.int .i32 0,.int .i32 0] 184)).alloc (.cells #[.int .u16 Q,.int .u16 15,.int .i32 l,.pointer none,.pointer none,.pointer (some ⟨w.heap.size,0,none⟩)] 166)).cell? ⟨w.heap.size,i,none⟩=some (.int .i32 0):=by
  have h1:((w.alloc (.cells #[.int .i32 0,.int .i32 0,.int .i32 0,.int .i32 0,.int .i32 0,.int .i32 0,.int .i32 0,.int .i32 0,.int .i32 0,.int .i32 0,.int .i32 0,.int .i32 0,.int .i32 0,.int .i32 0,.int .i32 0,.int .i32 0] 184)).alloc (.cells #[.int .u16 Q,.int .u16 15,.int .i32 l,.pointer none,.pointer none,.pointer (some ⟨w.heap.size,0,none⟩)] 166)).heap[w.heap.size]?=some (.cells #[.int .i32 0,.int .i32 0,.int .i32 0,.int .i32 0,.int .i32 0,.int .i32 0,.int .i32 0,.int .i32 0,.int .i32 0,.int .i32 0,.int .i32 0,.int .i32 0,.int .i32 0,.int .i32 0,.int .i32 0,.int .i32 0] 184 (0,0)):=by
   rw [Below.heap_alloc _ _ _ (by simp)]
   exact heap_new _ _
  refine cell_at h1 ?_
  rcases h16 with rfl|rfl|rfl|rfl|rfl|rfl|rfl|rfl|rfl|rfl|rfl|rfl|rfl|rfl|rfl|rfl <;> rfl
 clear hW hsz hT hB hi h16 hg ht hl hp hp0
 go_enter Tryz.func56,Tryz.ntmps56
 go_wp2
 go_ret
 rw [← HW.out]
 exact HR.out
end Go.Proofs.YtimgkhdgliojgaaGreatDoor
namespace Go.Proofs.YtimgkhdgliojgaaGreatDoor
open Go.RowKit
def Tr.lv:Tr→Nat
 | .leaf _ _ _=>1
 | .node _ _ _ lo hi=>lo.lv+hi.lv
theorem tcks_len:∀ t:Tr,(tcks t).length≤t.lv * 16
 | .leaf q l xs=>by rw [Tr.lv,tcks];exact lfT_len q xs 16
 | .node k q l lo hi=>by
  have h1:=tcks_len lo
  have h2:=tcks_len hi
  rw [Tr.lv,tcks,List.length_append]
  omega
theorem lv_le:∀ {t:Tr},t.ok→t.lv * 16≤2 ^ t.k
 | .leaf q l xs,h=>by show 1 * 16≤2 ^ 4;decide
 | .node k q l lo hi,h=>by
  obtain ⟨h5,_,_,h1,h2,h3,h4,_⟩:=h
  have a1:=lv_le h3
  have a2:=lv_le h4
  have b1:2 ^ lo.k≤2 ^ (k - 1):=Nat.pow_le_pow_right (by decide) h1.1
  have b2:2 ^ hi.k≤2 ^ (k - 1):=Nat.pow_le_pow_right (by decide) h2.1
  have c:2 ^ k=2 ^ (k - 1)+2 ^ (k - 1):=by
   obtain ⟨m,rfl⟩:∃ m,k=m+1:=⟨k - 1,by omega⟩
   rw [Nat.pow_succ,Nat.add_sub_cancel];omega
  show (lo.lv+hi.lv) * 16≤2 ^ k
  omega
section
variable {Z : Nat → Prop} {w0 : World}
theorem news_node {p a b k q:Nat} {l:Int} {w:World} {v:Value} {M A B:List Tc} (hp:w0.heap[p]?=some (.cells (tC ((q * 2 ^ k:Nat):Int) ((2 ^ k - 1:Nat):Int) l (ptr a) (ptr b) (.pointer none)) 166 (0,0))) (hv:Tl w0 w v M)
  (h1:∀ X u,Tl w0 X u M→Calls Tryz.prog 122 #[.pointer (some ⟨a,0,none⟩),.pointer none,u] X fun e w'=>∃ v',e=.returned v'∧Tl w0 w' v' (M++A)) (h2:∀ X u,Tl w0 X u (M++A)→Calls Tryz.prog 122 #[.pointer (some ⟨b,0,none⟩),.pointer none,u] X fun e w'=>∃ v',e=.returned v'∧Tl w0 w' v' (M++A++B)) :
  Calls Tryz.prog 122 #[.pointer (some ⟨p,0,none⟩),.pointer none,v] w fun e w'=>∃ v',e=.returned v'∧Tl w0 w' v' (M++A++B):=by
 have HPc:Hid (∀ X,Below w0.heap.size w0 X→X.cell? ⟨p,3,none⟩=some (.pointer (some ⟨a,0,none⟩))∧X.cell? ⟨p,4,none⟩=some (.pointer (some ⟨b,0,none⟩))∧X.cell? ⟨p,5,none⟩=some (.pointer none)):=hide (fun X hX=>by
  have a9:=(hX.block p (lt_heap hp)).trans hp
  exact ⟨cell_at a9 rfl,cell_at a9 rfl,cell_at a9 rfl⟩)
 have H1:=hide h1
 have H2:=hide h2
 have HV:=hide hv
 obtain ⟨va,vn,vc,rfl⟩:=hv.frm
 obtain ⟨c3,c4,c5⟩:=HPc.out w hv.bel
 have cl:=World.block_lt_of_cell? w _ c3
 have hpe:=peq_nil w p
 clear hp h1 h2 hv
 go_enter Tryz.func122,Tryz.ntmps122
 go_wp2_with fail
 go_quiet (fail)
 obtain ⟨Y,hY⟩:∃ Y,Y=w.drewN nq:=⟨_,rfl⟩
 rw [← hY]
 have HVY:Hid (Tl w0 Y (.slice va vn vc) M):=hide (HV.out.on (by rw [hY];exact below_drewN (Below.refl _ _) _))
 clear hY HV c3 c4 c5 cl
 obtain ⟨c3,c4,c5⟩:=HPc.out Y HVY.out.bel
 have cl:=World.block_lt_of_cell? Y _ c3
 have HC1:=hide (H1.out Y.drew _ (HVY.out.on (Below.refl _ _).drew))
 go_wp2_with fail
 go_region_held3 (fun X=>X.cell? ⟨p,3,none⟩=some (.pointer (some ⟨a,0,none⟩))∧X.cell? ⟨p,4,none⟩=some (.pointer (some ⟨b,0,none⟩)))
  (first|exact ⟨c3,c4⟩|exact ⟨(HPc.out _ HT9.out.bel).1,(HPc.out _ HT9.out.bel).2.1⟩|exact ⟨(HPc.out _ HT8.out.bel).1,(HPc.out _ HT8.out.bel).2.1⟩)
  (first
   | (with_reducible refine HC1.out.mono ?_;rintro e8 w8 ⟨v8,rfl,hT8⟩;have HT8:=hide hT8;have HC2:=hide (H2.out w8 v8 hT8);clear hT8)
   | (with_reducible refine HC2.out.mono ?_;rintro e9 w9 ⟨v9,rfl,hT9⟩;have HT9:=hide hT9;clear hT9))
 all_goals
  obtain ⟨xa,xn,xc,hxs⟩:=HT9.out.frm
  subst hxs
  go_wp2
  go_ret
  exact ⟨_,rfl,HT9.out⟩
theorem news_tr:∀ (t:Tr) (p:Nat),TrAt Z w0 t p→t.ok→∀ (X:World) (u:Value) (M:List Tc),Tl w0 X u M→M.length+t.lv * 16≤65536→Calls Tryz.prog 122 #[.pointer (some ⟨p,0,none⟩),.pointer none,u] X fun e w'=>∃ v',e=.returned v'∧Tl w0 w' v' (M++tcks t)
 | .leaf q l xs,p,ht,hok,X,u,M,hT,hM=>by
  obtain ⟨_,lp,_,h1,h2⟩:=ht
  exact news_leaf h1 h2 hok.1 hok.2.1 hok.2.2.1 hT (by rw [Tr.lv] at hM;omega) (hide rfl)
 | .node k q l lo hi,p,ht,hok,X,u,M,hT,hM=>by
  obtain ⟨_,a,b,h1,h2,h3⟩:=ht
  have l1:=tcks_len lo
  rw [Tr.lv] at hM
  have h9:=news_node (A:=tcks lo) (B:=tcks hi) h1 hT (fun Y v hY=>news_tr lo a h2 hok.2.2.2.2.2.1 Y v M hY (by omega)) (fun Y v hY=>news_tr hi b h3 hok.2.2.2.2.2.2.1 Y v (M++tcks lo) hY (by rw [List.length_append];omega))
  rw [List.append_assoc] at h9
  exact h9
theorem news_nil {w:World} {u:Value} (hu:∃ a n c,u=.slice a n c):Calls Tryz.prog 122 #[.pointer none,.pointer none,u] w fun e w'=>e=.returned u∧w'=w:=by
 obtain ⟨a,n,c,rfl⟩:=hu
 go_enter Tryz.func122,Tryz.ntmps122
 go_wp2
 go_ret
 exact ⟨rfl,rfl⟩
def TkOf (c:Nat→Int) (T:List Tc):Prop:=(T=[]∧∀ x,c x=0)∨∃ t:Tr,t.ok∧(∀ x,c x=t.tm x)∧T=tcks t
theorem news_any {pl:Nat→Int→Int} {v:Value} {c:Nat→Int} (h:TQ pl Z w0 v c):Calls Tryz.prog 122 #[v,.pointer none,.slice none 0 0] w0 fun e w'=>∃ lv T,e=.returned lv∧Tl w0 w' lv T∧TkOf c T:=by
 have h0:Tl w0 w0 (.slice none 0 0) []:=⟨Own.nil _ _ _ _,Below.refl _ _⟩
 rcases h with ⟨rfl,hc⟩|⟨t,p,rfl,ht,hok,_,hc⟩
 ·refine (news_nil ⟨_,_,_,rfl⟩).mono ?_
  rintro e w' ⟨rfl,rfl⟩
  exact ⟨_,[],rfl,h0,.inl ⟨rfl,hc⟩⟩
 ·have hk:=lv_le hok
  have hk2:2 ^ t.k≤2 ^ 16:=Nat.pow_le_pow_right (by decide) (Tr.k_le hok).2
  refine (news_tr t p ht hok w0 _ [] h0 (by rw [List.length_nil];omega)).mono ?_
  rintro e w' ⟨v',rfl,hT⟩
  exact ⟨v',tcks t,rfl,hT,.inr ⟨t,hok,hc,rfl⟩⟩
theorem News_any {pl:Nat→Int→Int} {v:Value} {c:Nat→Int} (h:TQ pl Z w0 v c):Calls Tryz.prog 57 #[v,.pointer none] w0 fun e w'=>∃ lv T,e=.returned lv∧Tl w0 w' lv T∧TkOf c T:=by
 obtain ⟨o,rfl⟩:=h.form
 have HC:=hide (news_any h)
 clear h
 go_enter Tryz.func57,Tryz.ntmps57
 go_wp2_with fail
 refine HC.out.mono ?_
 rintro e w1 ⟨lv,T,rfl,hT,hk⟩
 have HT:=hide hT
 have HK:=hide hk
 obtain ⟨a,n,c9,rfl⟩:=hT.frm
 clear hT hk HC
 go_wp2
 go_ret
 exact ⟨_,T,rfl,HT.out,HK.out⟩
theorem Ticks_any {pl:Nat→Int→Int} {v:Value} {c:Nat→Int} (h:TQ pl Z w0 v c):Calls Tryz.prog 33 #[v] w0 fun e w'=>∃ lv T,e=.returned lv∧Tl w0 w' lv T∧TkOf c T:=by
 obtain ⟨o,rfl⟩:=h.form
 have HC:=hide (News_any h)
 clear h
 go_enter Tryz.func33,Tryz.ntmps33
 go_wp2_with fail
 refine HC.out.mono ?_
 rintro e w1 ⟨lv,T,rfl,hT,hk⟩
 have HT:=hide hT
 have HK:=hide hk
 obtain ⟨a,n,c9,rfl⟩:=hT.frm
 clear hT hk HC
 go_wp2
 go_ret
 exact ⟨_,T,rfl,HT.out,HK.out⟩
end
end Go.Proofs.YtimgkhdgliojgaaGreatDoor
namespace Go.Proofs.YtimgkhdgliojgaaGreatDoor
def tkl (c:Nat→Int) (a:Nat):Nat→List Tc
 | 0=>[]
 | n+1=>tkl c a n++if 0 < c (a+n) then [⟨((a+n:Nat):Int),c (a+n)⟩] else []
theorem tkl_congr {c d:Nat→Int} {a:Nat}:∀ {n:Nat},(∀ x,a≤x→x < a+n→c x=d x)→tkl c a n=tkl d a n
 | 0,_=>rfl
 | n+1,h=>by
  rw [tkl,tkl,tkl_congr (n:=n) (fun x h1 h2=>h x h1 (by omega)),h (a+n) (by omega) (by omega)]
theorem tkl_zero {c:Nat→Int} {a:Nat}:∀ {n:Nat},(∀ x,a≤x→x < a+n→c x=0)→tkl c a n=[]
 | 0,_=>rfl
 | n+1,h=>by
  rw [tkl,tkl_zero (n:=n) (fun x h1 h2=>h x h1 (by omega)),h (a+n) (by omega) (by omega)]
  rfl
theorem tkl_add (c:Nat→Int) (a m:Nat):∀ n,tkl c a (m+n)=tkl c a m++tkl c (a+m) n
 | 0=>by rw [Nat.add_zero,tkl,List.append_nil]
 | n+1=>by
  rw [← Nat.add_assoc,tkl,tkl_add c a m n,tkl,List.append_assoc,show a+(m+n)=a+m+n by omega]
theorem lfT_tkl {q:Nat} {l:Int} {xs:List Int}:∀ k,k≤16→lfT q xs k=tkl (Tr.leaf q l xs).tm (q * 16) k
 | 0,_=>rfl
 | k+1,h=>by
  have hk:(Tr.leaf q l xs).tm (q * 16+k)=xs.getD k 0:=by
   unfold Tr.tm
   rw [if_pos (by omega),show (q * 16+k) % 16=k by omega]
  rw [lfT,tkl,lfT_tkl k (by omega),hk]
theorem tkl_wide {t:Tr} (hok:t.ok) (h:tkl t.tm (t.q * 2 ^ t.k) (2 ^ t.k)=tcks t) {k q:Nat} (hi:t.In k q):tkl t.tm (q * 2 ^ k) (2 ^ k)=tcks t:=by
 obtain ⟨h1,h2⟩:=hi
 obtain ⟨d,rfl⟩:∃ d,k=t.k+d:=⟨k - t.k,by omega⟩
 rw [show t.k+d - t.k=d by omega] at h2
 have hp:=pow_pos2 t.k
 have hd:=pow_pos2 d
 have hs:=Nat.div_add_mod t.q (2 ^ d)
 rw [h2] at hs
 have hm:=Nat.mod_lt t.q hd
 obtain ⟨r,hr⟩:∃ r,t.q % 2 ^ d=r:=⟨_,rfl⟩
 rw [hr] at hs hm
 have hpow:2 ^ (t.k+d)=2 ^ d * 2 ^ t.k:=by rw [Nat.pow_add,Nat.mul_comm]
 have hstart:t.q * 2 ^ t.k=q * 2 ^ (t.k+d)+r * 2 ^ t.k:=by
  rw [hpow,← hs,Nat.add_mul,Nat.mul_comm (2 ^ d) q,Nat.mul_assoc]
 have hfit:r * 2 ^ t.k+2 ^ t.k≤2 ^ (t.k+d):=by
  rw [hpow,← Nat.succ_mul]
  exact Nat.mul_le_mul_right _ hm
 obtain ⟨e,he⟩:∃ e,2 ^ (t.k+d)=r * 2 ^ t.k+2 ^ t.k+e:=⟨2 ^ (t.k+d) - (r * 2 ^ t.k+2 ^ t.k),by omega⟩
 have hsplit:tkl t.tm (q * 2 ^ (t.k+d)) (r * 2 ^ t.k+2 ^ t.k+e)=tcks t:=by
  rw [tkl_add,tkl_add,← hstart,h,tkl_zero (fun x a1 a2=>?_),tkl_zero (fun x a1 a2=>?_),List.nil_append,List.append_nil]
  all_goals
   refine Tr.out hok (fun e9=>?_)
   have h8:=Nat.div_mul_le_self x (2 ^ t.k)
   have h9:=Nat.lt_div_mul_add (a:=x) hp
   rw [e9] at h8 h9
   omega
 rw [← he] at hsplit
 exact hsplit
theorem tkl_own:∀ {t:Tr},t.ok→tkl t.tm (t.q * 2 ^ t.k) (2 ^ t.k)=tcks t
 | .leaf q l xs,h=>(lfT_tkl 16 (Nat.le_refl _)).symm
 | .node k q l lo hi,h=>by
  obtain ⟨h5,h16,hq,i1,i2,o1,o2,_⟩:=h
  have w1:=tkl_wide o1 (tkl_own o1) i1
  have w2:=tkl_wide o2 (tkl_own o2) i2
  have hp:=pow_pos2 (k - 1)
  have c:2 ^ k=2 ^ (k - 1)+2 ^ (k - 1):=by
   obtain ⟨m,rfl⟩:∃ m,k=m+1:=⟨k - 1,by omega⟩
   rw [Nat.pow_succ,Nat.add_sub_cancel];omega
  have e1:2 * q * 2 ^ (k - 1)=q * 2 ^ k:=by rw [c,Nat.mul_add,Nat.mul_assoc,Nat.two_mul]
  have e2:(2 * q+1) * 2 ^ (k - 1)=q * 2 ^ k+2 ^ (k - 1):=by rw [Nat.add_mul,e1,Nat.one_mul]
  show tkl (Tr.node k q l lo hi).tm (q * 2 ^ k) (2 ^ k)=tcks lo++tcks hi
  rw [← w1,← w2,e1,e2]
  have h9:=tkl_add (Tr.node k q l lo hi).tm (q * 2 ^ k) (2 ^ (k - 1)) (2 ^ (k - 1))
  rw [← c] at h9
  rw [h9]
  refine congr (congrArg _ (tkl_congr (fun x a1 a2=>?_))) (tkl_congr (fun x a1 a2=>?_))
  ·show max (lo.tm x) (hi.tm x)=lo.tm x
   have z:hi.tm x=0:=Tr.In.out o2 i2 (fun e9=>by
    have:=Nat.div_mul_le_self x (2 ^ (k - 1))
    rw [e9,e2] at this
    omega)
   have:=(Tr.bd o1 x).1
   omega
  ·show max (lo.tm x) (hi.tm x)=hi.tm x
   have z:lo.tm x=0:=Tr.In.out o1 i1 (fun e9=>by
    have h9:=Nat.lt_div_mul_add (a:=x) hp
    rw [e9,e1] at h9
    omega)
   have:=(Tr.bd o2 x).1
   omega
def tks (c:Nat→Int):List Tc:=tkl c 0 65536
theorem TkOf.eq {c:Nat→Int} {T:List Tc} (h:TkOf c T):T=tks c:=by
 rcases h with ⟨rfl,hc⟩|⟨t,hok,hc,rfl⟩
 ·exact (tkl_zero (fun x _ _=>hc x)).symm
 ·have hi:t.In 16 0:=by
   refine ⟨(Tr.k_le hok).2,?_⟩
   exact Nat.div_eq_of_lt (Tr.q_lt hok)
  have h9:=tkl_wide hok (tkl_own hok) hi
  rw [Nat.zero_mul] at h9
  rw [← h9]
  exact tkl_congr (fun x _ _=>(hc x).symm)
end Go.Proofs.YtimgkhdgliojgaaGreatDoor
namespace Go.Proofs.YtimgkhdgliojgaaGreatDoor
open Go.RowKit
def layI9:Lay Int:=⟨fun e=>[.int .i64 e],1,by decide,fun _=>rfl,by intro a u hu;simp at hu;subst hu;rfl⟩
theorem trow_k {w:World} {a:Option Addr} {n:Nat} {L:List Tc} (h:TRow layK w a n L) {k:Nat} (hk:k < n):∃ b off x,a=some ⟨b,off,none⟩∧L[k]?=some x∧b < w.heap.size∧w.cell? ⟨b,off+k * 2,none⟩=some (.int .i64 x.g)∧w.cell? ⟨b,off+k * 2+1,none⟩=some (.int .i64 x.t):=by
 obtain ⟨b,off,ha,hb,hc⟩:=h.at (by omega)
 obtain ⟨x,hx⟩:∃ x,L[k]?=some x:=⟨L[k]'(by rw [h.len];exact hk),List.getElem?_eq_getElem _⟩
 exact ⟨b,off,x,ha,hx,hb,hc k x hx 0 _ rfl,hc k x hx 1 _ rfl⟩
theorem trow_i {w:World} {a:Option Addr} {n:Nat} {L:List Int} (h:TRow layI9 w a n L) {k:Nat} (hk:k < n):∃ b off x,a=some ⟨b,off,none⟩∧L[k]?=some x∧b < w.heap.size∧w.cell? ⟨b,off+k,none⟩=some (.int .i64 x):=by
 obtain ⟨b,off,ha,hb,hc⟩:=h.at (by omega)
 obtain ⟨x,hx⟩:∃ x,L[k]?=some x:=⟨L[k]'(by rw [h.len];exact hk),List.getElem?_eq_getElem _⟩
 have h9:=hc k x hx 0 _ rfl
 rw [show layI9.z=1 from rfl,Nat.mul_one,Nat.add_zero] at h9
 exact ⟨b,off,x,ha,hx,hb,h9⟩
theorem neqK (w:World) (a b c d:Int):(binOp .neq 58 (.agg #[.int .i64 a,.int .i64 b]) (.agg #[.int .i64 c,.int .i64 d])).run Tryz.prog w=.ok (.bool (!decide ((⟨a,b⟩:Tc)=⟨c,d⟩))) w:=by
 have hu:Tryz.prog.underlying 58=some (.struct (Tryz.prog.fieldsOf 58)):=by simp [Program.fieldsOf,Tryz.underlying58]
 have hp:Tryz.prog.stoodInHeld 58=false:=by kernel_rfl
 rw [run_neq_struct,show (10000:Nat)=9998+1+1 from rfl,run_equalIn_struct w _ _ _ _ hu hp]
 simp only [Program.fieldsOf,Tryz.underlying58]
 by_cases h1:a=c
 ·by_cases h2:b=d
  ·simp [Op.eqFields,go_sem,Tryz.underlying3,h1,h2]
  ·simp [Op.eqFields,go_sem,Tryz.underlying3,h1,h2]
 ·simp [Op.eqFields,go_sem,Tryz.underlying3,h1]
theorem take_nxt {α:Type} {A:List α} {k:Nat} {x:α} (h:A[k]?=some x):A.take (k+1)=A.take k++[x]:=by
 rw [List.take_add_one,h];rfl
theorem csame_any (a b:Option Addr) (na ca nb cb:Nat) (A B:List Tc) (w:World) (hA:TRow layK w a na A) (hB:TRow layK w b nb B) (hn:(na:Int)≤9223372036854775000) :
  Calls Tryz.prog 14 #[.slice a na ca,.slice b nb cb] w fun e w'=>e=.returned (.bool (decide (A=B)))∧Below w.heap.size w w':=by
 by_cases hne:na=nb
 ·subst hne
  obtain ⟨R,hR⟩:∃ R,decide (A=B)=R:=⟨_,rfl⟩
  rw [hR]
  have H1:=hide hA
  have H2:=hide hB
  have HR:=hide hR
  clear hA hB hR
  go_enter Tryz.func14,Tryz.ntmps14
  go_wp2
  go_loopw [5] (fun i wr=>∃ k:Nat,k≤na∧i=.int .i64 k∧Hid (Below w.heap.size w wr∧A.take k=B.take k)) (fun i _=>na - (intOf i).toNat)
  case atStart=>exact ⟨0,Nat.zero_le _,rfl,hide ⟨Below.refl _ _,rfl⟩⟩
  case round =>
   obtain ⟨k,hk,rfl,HW⟩:=hrel
   by_cases hlt:k < na
   ·obtain ⟨b1,o1,x,rfl,hx,_,x0,x1⟩:=trow_k (H1.out.below HW.out.1) hlt
    obtain ⟨b2,o2,y,rfl,hy,_,y0,y1⟩:=trow_k (H2.out.below HW.out.1) hlt
    have hltI:(k:Int) < (na:Int):=by omega
    have nq:=fun W=>neqK W x.g x.t y.g y.t
    have HX:=hide (And.intro hx hy)
    by_cases hxy:x=y
    ·have HE:Hid (A.take (k+1)=B.take (k+1)):=hide (by rw [take_nxt hx,take_nxt hy,HW.out.2,hxy])
     have e1:(!decide ((⟨x.g,x.t⟩:Tc)=⟨y.g,y.t⟩))=false:=by rw [hxy];simp
     rw [e1] at nq
     clear hx hy hxy e1
     go_wp2_with fail
     go_quiet (fail)
     go_wp2
     exact ⟨⟨k+1,by omega,by go_num,hide ⟨below_drewN HW.out.1 _,HE.out⟩⟩,by simp [intOf];omega⟩
    ·have HE:Hid (R=false):=hide (by
      rw [← HR.out]
      apply decide_eq_false
      intro e
      rw [e,hy] at hx
      cases hx
      exact hxy rfl)
     have e1:(!decide ((⟨x.g,x.t⟩:Tc)=⟨y.g,y.t⟩))=true:=by
      have:¬ (⟨x.g,x.t⟩:Tc)=⟨y.g,y.t⟩:=hxy
      simp [this]
     rw [e1] at nq
     clear hx hy hxy e1
     go_wp2_with fail
     go_quiet (fail)
     go_wp2
     go_ret
     exact ⟨by rw [HE.out];rfl,below_drewN HW.out.1 _⟩
   ·have HE:Hid (R=true):=hide (by
     rw [← HR.out]
     apply decide_eq_true
     have h:=HW.out.2
     rw [List.take_of_length_le (by rw [H1.out.len];omega),List.take_of_length_le (by rw [H2.out.len];omega)] at h
     exact h)
    go_wp2
    go_ret
    exact ⟨by rw [HE.out];rfl,HW.out.1⟩
 ·have hd:decide (A=B)=false:=decide_eq_false (fun e=>by rw [← hA.len,← hB.len,e] at hne;exact hne rfl)
  rw [hd]
  have hneI:((na:Int) != (nb:Int))=true:=by simp;omega
  clear hA hB hd
  go_enter Tryz.func14,Tryz.ntmps14
  go_wp2
  go_ret
  exact ⟨rfl,Below.refl _ _⟩
theorem isame_any (a b:Option Addr) (na ca nb cb:Nat) (A B:List Int) (w:World) (hA:TRow layI9 w a na A) (hB:TRow layI9 w b nb B) (hn:(na:Int)≤9223372036854775000) :
  Calls Tryz.prog 26 #[.slice a na ca,.slice b nb cb] w fun e w'=>e=.returned (.bool (decide (A=B)))∧Below w.heap.size w w':=by
 by_cases hne:na=nb
 ·subst hne
  obtain ⟨R,hR⟩:∃ R,decide (A=B)=R:=⟨_,rfl⟩
  rw [hR]
  have H1:=hide hA
  have H2:=hide hB
  have HR:=hide hR
  clear hA hB hR
  go_enter Tryz.func26,Tryz.ntmps26
  go_wp2
  go_loopw [5] (fun i wr=>∃ k:Nat,k≤na∧i=.int .i64 k∧Hid (Below w.heap.size w wr∧A.take k=B.take k)) (fun i _=>na - (intOf i).toNat)
  case atStart=>exact ⟨0,Nat.zero_le _,rfl,hide ⟨Below.refl _ _,rfl⟩⟩
  case round =>
   obtain ⟨k,hk,rfl,HW⟩:=hrel
   by_cases hlt:k < na
   ·obtain ⟨b1,o1,x,rfl,hx,_,x0⟩:=trow_i (H1.out.below HW.out.1) hlt
    obtain ⟨b2,o2,y,rfl,hy,_,y0⟩:=trow_i (H2.out.below HW.out.1) hlt
    have hltI:(k:Int) < (na:Int):=by omega
    have HX:=hide (And.intro hx hy)
    by_cases hxy:x=y
    ·have HE:Hid (A.take (k+1)=B.take (k+1)):=hide (by rw [take_nxt hx,take_nxt hy,HW.out.2,hxy])
     have e1:(x != y)=false:=by simp [hxy]
     clear hx hy hxy
     go_wp2_with fail
     go_quiet (fail)
     go_wp2
     exact ⟨⟨k+1,by omega,by go_num,hide ⟨below_drewN HW.out.1 _,HE.out⟩⟩,by simp [intOf];omega⟩
    ·have HE:Hid (R=false):=hide (by
      rw [← HR.out]
      apply decide_eq_false
      intro e
      rw [e,hy] at hx
      cases hx
      exact hxy rfl)
     have e1:(x != y)=true:=by simp [hxy]
     clear hx hy hxy
     go_wp2_with fail
     go_quiet (fail)
     go_wp2
     go_ret
     exact ⟨by rw [HE.out];rfl,below_drewN HW.out.1 _⟩
   ·have HE:Hid (R=true):=hide (by
     rw [← HR.out]
     apply decide_eq_true
     have h:=HW.out.2
     rw [List.take_of_length_le (by rw [H1.out.len];omega),List.take_of_length_le (by rw [H2.out.len];omega)] at h
     exact h)
    go_wp2
    go_ret
    exact ⟨by rw [HE.out];rfl,HW.out.1⟩
 ·have hd:decide (A=B)=false:=decide_eq_false (fun e=>by rw [← hA.len,← hB.len,e] at hne;exact hne rfl)
  rw [hd]
  have hneI:((na:Int) != (nb:Int))=true:=by simp;omega
  clear hA hB hd
  go_enter Tryz.func26,Tryz.ntmps26
  go_wp2
  go_ret
  exact ⟨rfl,Below.refl _ _⟩
end Go.Proofs.YtimgkhdgliojgaaGreatDoor
namespace Go.Proofs.YtimgkhdgliojgaaGreatDoor
open Go.RowKit Go.Maps
def vC (k:Value) (tm l:Int) (g:Int):Array Value:=#[k,.int .i32 tm,.int .i32 l,.int .u16 g]
def vclk (c:Nat→Int) (g:Nat) (tm:Int):Nat→Int:=fun x=>max (c x) (sgl g tm x)
theorem vc_cells {w:World} {p:Nat} {k:Value} {tm l g:Int} {ty:TypeId} (h:w.heap[p]?=some (.cells (vC k tm l g) ty (0,0))):w.cell? ⟨p,0,none⟩=some k∧w.cell? ⟨p,1,none⟩=some (.int .i32 tm)∧w.cell? ⟨p,2,none⟩=some (.int .i32 l)∧w.cell? ⟨p,3,none⟩=some (.int .u16 g)∧p < w.heap.size :=
 ⟨cell_at h rfl,cell_at h rfl,cell_at h rfl,cell_at h rfl,lt_heap h⟩
theorem clock_any {pl:Nat→Int→Int} (hpl:Rise2 pl) {Z:Nat→Prop} {w:World} {k:Value} {c:Nat→Int} {g:Nat} {tm l:Int} (h:TQ pl Z w k c) (hg:g < 65536) (ht:0≤tm∧tm≤1048576) (hl:0≤l∧l≤1048576) (hp:1≤tm→pl g tm=l) (hp0:¬ 1≤tm→l=0) :
  Calls Tryz.prog 32 #[.agg #[k,.int .i32 tm,.int .i32 l,.int .u16 (g:Int)]] w fun e w'=>∃ v,e=.returned v∧TQ pl (Nz Z w w') w' v (vclk c g tm)∧Below w.heap.size w w':=by
 obtain ⟨W,hW⟩:∃ W,W=w.alloc (.cells (vC k tm l (g:Int)) 76):=⟨_,rfl⟩
 have hb:Below w.heap.size w W:=by rw [hW];exact below_alloc1 w _
 have hE:W.heap[w.heap.size]?=some (.cells (vC k tm l (g:Int)) 76 (0,0)):=by rw [hW];exact heap_new _ _
 obtain ⟨o,rfl⟩:=h.form
 have HSx:Hid (∀ X,Below W.heap.size W X→X.cell? ⟨w.heap.size,0,none⟩=some (.pointer o)∧X.cell? ⟨w.heap.size,1,none⟩=some (.int .i32 tm)∧X.cell? ⟨w.heap.size,2,none⟩=some (.int .i32 l)∧X.cell? ⟨w.heap.size,3,none⟩=some (.int .u16 (g:Int))):=hide (fun X hX=>by
  obtain ⟨q0,q1,q2,q3,_⟩:=vc_cells ((hX.block _ (lt_heap hE)).trans hE)
  exact ⟨q0,q1,q2,q3⟩)
 have HB:=hide hb
 have HT:=hide h
 have HS:Hid (∀ X,Calls Tryz.prog 56 #[.int .u16 (g:Int),.int .i32 tm,.int .i32 l] X fun e w'=>∃ v,e=.returned v∧TQ pl (Nz Z X w') w' v (sgl g tm)∧Below X.heap.size X w'):=hide (fun X=>single_any X hg ht hl hp hp0 Z)
 have HPl:=hide hpl
 have HW:=hide hW
 unfold vC at HW
 have H0:=hide (Below.refl W.heap.size W)
 have H1:=hide ((Below.refl W.heap.size W).drew)
 have HC:=hide (HS.out W.drew)
 generalize (g:Int)=G at HSx HC HW ⊢
 clear h hg ht hl hp hp0 hb hE hW hpl HS
 go_enter Tryz.func32,Tryz.ntmps32
 go_wp2_with fail
 rw [← HW.out]
 clear HW
 go_region_held3 (fun X=>X.cell? ⟨w.heap.size,0,none⟩=some (.pointer o)∧X.cell? ⟨w.heap.size,1,none⟩=some (.int .i32 tm)∧X.cell? ⟨w.heap.size,2,none⟩=some (.int .i32 l)∧X.cell? ⟨w.heap.size,3,none⟩=some (.int .u16 G))
  (first|with_reducible exact HSx.out _ H0.out|with_reducible exact HSx.out _ H1.out|with_reducible exact HSx.out _ H2.out|with_reducible exact HSx.out _ H3.out)
  (first
   | (go_at_call 47;go_must (refine HC2.out.mono ?_;rintro e9 w9 ⟨v9,rfl,hq9,hb9⟩;have H3:Hid (Below W.heap.size W w9):=hide (H2.out.trans (hb9.mono H2.out.size));have HQ9:=hide hq9;have HS9:=hide hb9.size;clear hq9 hb9))
   | (go_at_call 56;go_must (refine HC.out.mono ?_;rintro e8 w8 ⟨v8,rfl,hq8,hb8⟩;have H2:Hid (Below W.heap.size W w8):=hide (H1.out.trans (hb8.mono H1.out.size));have HQ8:=hide hq8;have HC2:=hide (tjn_any HPl.out (((HT.out.bel HB.out).bel H2.out).mono (Nz.old (w:=W.drew) (w':=w8))) hq8);clear hq8 hb8)))
 have HBf:=hide (HB.out.trans (H3.out.mono HB.out.size))
 have HF:Hid (TQ pl (Nz Z w w9) w9 v9 (vclk c g tm)):=hide (HQ9.out.mono (fun x hx=>by
  have s1:=HB.out.size
  have s2:=H2.out.size
  have s3:=HS9.out
  rcases hx with (hx|hx)|hx
  ·exact .inl hx
  ·exact .inr ⟨Nat.le_trans s1 hx.1,by omega⟩
  ·exact .inr ⟨by omega,hx.2⟩))
 obtain ⟨o9,ho9⟩:=HQ9.out.form
 subst ho9
 clear HC HC2 HQ8 HQ9 HT HSx
 go_wp2
 go_ret
 exact ⟨_,rfl,HF.out,HBf.out⟩
def knows (c:Nat→Int) (g:Nat) (tm:Int) (x:Nat) (t:Int):Bool:=if x=g then decide (t≤tm) else decide (t≤c x)
theorem knows_any {Z:Nat→Prop} {w:World} {k:Value} {c:Nat→Int} {g x:Nat} {tm l t:Int} (h:TP Z w k c) (hx:x < 65536) :
  Calls Tryz.prog 65 #[.agg #[k,.int .i32 tm,.int .i32 l,.int .u16 (g:Int)],.int .u16 (x:Int),.int .i32 t] w fun e w'=>e=.returned (.bool (knows c g tm x t))∧Below w.heap.size w w':=by
 obtain ⟨W,hW⟩:∃ W,W=w.alloc (.cells (vC k tm l (g:Int)) 76):=⟨_,rfl⟩
 have hb:Below w.heap.size w W:=by rw [hW];exact below_alloc1 w _
 have hE:W.heap[w.heap.size]?=some (.cells (vC k tm l (g:Int)) 76 (0,0)):=by rw [hW];exact heap_new _ _
 obtain ⟨q0,q1,q2,q3,ql⟩:=vc_cells hE
 have HC:=hide (get_any (h.bel hb) hx)
 have HB:=hide hb
 have HW:=hide hW
 unfold vC at HW
 clear h hb hE hW hx
 by_cases e:x=g
 ·have HK:Hid (knows c g tm x t=decide (t≤tm)):=hide (by unfold knows;rw [if_pos e])
  rw [HK.out]
  have hxe:((x:Int) == (g:Int))=true:=by rw [e];simp
  generalize (x:Int)=X at hxe HC ⊢
  generalize (g:Int)=G at q3 hxe HW ⊢
  go_enter Tryz.func65,Tryz.ntmps65
  rw [HW.out] at q0 q1 q2 q3 ql HB
  clear HW HC e
  go_wp2
  go_ret
  exact ⟨rfl,HB.out⟩
 ·have HK:Hid (knows c g tm x t=decide (t≤c x)):=hide (by unfold knows;rw [if_neg e])
  rw [HK.out]
  have hxe:((x:Int) == (g:Int))=false:=by rw [beq_eq_false_iff_ne];omega
  generalize (x:Int)=X at hxe HC ⊢
  generalize (g:Int)=G at q3 hxe HW ⊢
  go_enter Tryz.func65,Tryz.ntmps65
  go_wp2_with fail
  rw [← HW.out]
  clear HW
  refine HC.out.mono ?_
  rintro e9 w1 ⟨rfl,hw1⟩
  have HB1:=hide (HB.out.trans ((bel_drew18 hw1).mono HB.out.size))
  clear hw1 HC q0 q1 q2 q3 ql
  go_wp2
  go_ret
  exact ⟨rfl,HB1.out⟩
end Go.Proofs.YtimgkhdgliojgaaGreatDoor
