import Derived.Test.YthgelfdefkbfeaaGreatDoorZu07
set_option maxRecDepth 8000
set_option maxHeartbeats 8000000
set_option linter.unusedVariables false
namespace Go.Proofs.YthgelfdefkbfeaaGreatDoor
abbrev Ent:=Int × Int
def Ris (L:List Ent):Prop:=L.Pairwise (fun a b=>a.1 < b.1)
def look (k:Int):List Ent→Option Int
 | []=>none
 | p :: L=>if p.1=k then some p.2 else look k L
def nxt (k:Int):List Ent→Option Ent
 | []=>none
 | p :: L=>if p.1 < k then nxt k L else some p
def insE (k v:Int):List Ent→List Ent
 | []=>[(k,v)]
 | p :: L=>if p.1 < k then p :: insE k v L else if p.1=k then (k,v) :: L else (k,v) :: p :: L
def delE (k:Int):List Ent→List Ent
 | []=>[]
 | p :: L=>if p.1=k then L else p :: delE k L
theorem look_low {k:Int} {X:List Ent} (hX:∀ e ∈ X,e.1 < k) (Y:List Ent):look k (X++Y)=look k Y:=by
 induction X with
 | nil=>rfl
 | cons p X ih =>
  have h1:=hX p (by simp)
  show (if p.1=k then some p.2 else look k (X++Y))=_
  rw [if_neg (by omega),ih (fun e he=>hX e (by simp [he]))]
theorem look_high {k:Int} {Y:List Ent} (hY:∀ e ∈ Y,k < e.1):look k Y=none:=by
 induction Y with
 | nil=>rfl
 | cons p X ih =>
  have h1:=hY p (by simp)
  unfold look
  rw [if_neg (by omega),ih (fun e he=>hY e (by simp [he]))]
theorem look_head (k v:Int) (Y:List Ent):look k ((k,v) :: Y)=some v:=by unfold look;rw [if_pos rfl]
theorem nxt_low {k:Int} {X:List Ent} (hX:∀ e ∈ X,e.1 < k) (Y:List Ent):nxt k (X++Y)=nxt k Y:=by
 induction X with
 | nil=>rfl
 | cons p X ih =>
  have h1:=hX p (by simp)
  show (if p.1 < k then nxt k (X++Y) else some p)=_
  rw [if_pos h1,ih (fun e he=>hX e (by simp [he]))]
theorem nxt_head {k:Int} {p:Ent} (h:k≤p.1) (Y:List Ent):nxt k (p :: Y)=some p:=by unfold nxt;rw [if_neg (by omega)]
theorem insE_low {k v:Int} {X:List Ent} (hX:∀ e ∈ X,e.1 < k) (Y:List Ent):insE k v (X++Y)=X++insE k v Y:=by
 induction X with
 | nil=>rfl
 | cons p X ih =>
  have h1:=hX p (by simp)
  show (if p.1 < k then p :: insE k v (X++Y) else _)=_
  rw [if_pos h1,ih (fun e he=>hX e (by simp [he]))]
  rfl
theorem insE_high {k v:Int} {Y:List Ent} (hY:∀ e ∈ Y,k < e.1):insE k v Y=(k,v) :: Y:=by
 cases Y with
 | nil=>rfl
 | cons p X =>
  have h1:=hY p (by simp)
  unfold insE
  rw [if_neg (by omega),if_neg (by omega)]
theorem insE_head (k u v:Int) (Y:List Ent):insE k v ((k,u) :: Y)=(k,v) :: Y:=by
 unfold insE
 rw [if_neg (Int.lt_irrefl k),if_pos rfl]
theorem delE_low {k:Int} {X:List Ent} (hX:∀ e ∈ X,e.1 < k) (Y:List Ent):delE k (X++Y)=X++delE k Y:=by
 induction X with
 | nil=>rfl
 | cons p X ih =>
  have h1:=hX p (by simp)
  show (if p.1=k then X++Y else p :: delE k (X++Y))=_
  rw [if_neg (by omega),ih (fun e he=>hX e (by simp [he]))]
  rfl
theorem delE_head (k u:Int) (Y:List Ent):delE k ((k,u) :: Y)=Y:=by unfold delE;rw [if_pos rfl]
theorem Ris.tail {p:Ent} {L:List Ent} (h:Ris (p :: L)):Ris L:=(List.pairwise_cons.1 h).2
theorem Ris.head {p:Ent} {L:List Ent} (h:Ris (p :: L)):∀ e ∈ L,p.1 < e.1:=(List.pairwise_cons.1 h).1
theorem insE_mem {k v:Int} {L:List Ent}:∀ e ∈ insE k v L,e=(k,v)∨e ∈ L:=by
 induction L with
 | nil=>intro e he;simp [insE] at he;exact .inl he
 | cons p L ih =>
  intro e he
  unfold insE at he
  split at he
  ·rcases List.mem_cons.1 he with rfl|he
   ·exact .inr (by simp)
   ·rcases ih e he with h|h
    ·exact .inl h
    ·exact .inr (by simp [h])
  ·split at he
   ·rcases List.mem_cons.1 he with rfl|he
    ·exact .inl rfl
    ·exact .inr (by simp [he])
   ·rcases List.mem_cons.1 he with rfl|he
    ·exact .inl rfl
    ·exact .inr he
theorem Ris.ins {L:List Ent} (h:Ris L) (k v:Int):Ris (insE k v L):=by
 induction L with
 | nil=>exact List.pairwise_singleton _ _
 | cons p L ih =>
  unfold insE
  split
  ·rename_i h1
   refine List.pairwise_cons.2 ⟨fun e he=>?_,ih h.tail⟩
   rcases insE_mem e he with rfl|he
   ·exact h1
   ·exact h.head e he
  ·split
   ·rename_i h2
    refine List.pairwise_cons.2 ⟨fun e he=>?_,h.tail⟩
    have:=h.head e he
    show k < e.1
    omega
   ·refine List.pairwise_cons.2 ⟨fun e he=>?_,h⟩
    show k < e.1
    rcases List.mem_cons.1 he with rfl|he
    ·omega
    ·have:=h.head e he
     omega
theorem delE_sub (k:Int) (L:List Ent):(delE k L).Sublist L:=by
 induction L with
 | nil=>exact List.Sublist.refl _
 | cons p L ih =>
  unfold delE
  split
  ·exact List.sublist_cons_self _ _
  ·exact ih.cons_cons _
theorem Ris.del {L:List Ent} (h:Ris L) (k:Int):Ris (delE k L):=List.Pairwise.sublist (delE_sub k L) h
theorem look_insE (k v x:Int) (L:List Ent):look x (insE k v L)=if x=k then some v else look x L:=by
 induction L with
 | nil=>show (if k=x then some v else none)=_;by_cases h:x=k <;> simp [h,look];intro e;exact absurd e.symm h
 | cons p L ih =>
  unfold insE
  split
  ·rename_i h1
   show (if p.1=x then some p.2 else look x (insE k v L))=_
   by_cases hx:x=k
   ·subst hx
    rw [if_neg (by omega),ih,if_pos rfl,if_pos rfl]
   ·rw [ih,if_neg hx,if_neg hx];rfl
  ·split
   ·rename_i h2
    show (if k=x then some v else look x L)=if x=k then some v else if p.1=x then some p.2 else look x L
    by_cases hx:x=k
    ·subst hx;rw [if_pos rfl,if_pos rfl]
    ·rw [if_neg (fun e=>hx e.symm),if_neg hx,if_neg (by omega)]
   ·show (if k=x then some v else look x (p :: L))=_
    by_cases hx:x=k
    ·subst hx;rw [if_pos rfl]
    ·rw [if_neg (fun e=>hx e.symm),if_neg hx]
theorem look_mem {x v:Int} {L:List Ent} (h:look x L=some v):(x,v) ∈ L:=by
 induction L with
 | nil=>cases h
 | cons p L ih =>
  unfold look at h
  split at h
  ·rename_i h1
   obtain ⟨a,b⟩:=p
   simp at h1 h
   subst h1;subst h
   simp
  ·exact List.mem_cons_of_mem _ (ih h)
theorem look_of_mem {x v:Int} {L:List Ent} (hL:Ris L) (h:(x,v) ∈ L):look x L=some v:=by
 induction L with
 | nil=>cases h
 | cons p L ih =>
  unfold look
  rcases List.mem_cons.1 h with rfl|h
  ·rw [if_pos rfl]
  ·have:=hL.head _ h
   rw [if_neg (by show ¬ p.1=x;have h9:p.1 < x:=this;omega)]
   exact ih hL.tail h
theorem look_delE {L:List Ent} (hL:Ris L) (k x:Int):look x (delE k L)=if x=k then none else look x L:=by
 induction L with
 | nil=>show none=_;split <;> rfl
 | cons p L ih =>
  unfold delE
  split
  ·rename_i h1
   by_cases hx:x=k
   ·rw [if_pos hx]
    exact look_high (fun e he=>by have:=hL.head e he;omega)
   ·rw [if_neg hx]
    show _=if p.1=x then some p.2 else look x L
    rw [if_neg (by omega)]
  ·rename_i h1
   show (if p.1=x then some p.2 else look x (delE k L))=if x=k then none else if p.1=x then some p.2 else look x L
   rw [ih hL.tail]
   by_cases hx:x=k
   ·rw [if_neg (by omega),if_pos hx,if_pos hx]
   ·rw [if_neg hx,if_neg hx]
theorem ris_ext {L M:List Ent} (hL:Ris L) (hM:Ris M) (h:∀ x,look x L=look x M):L=M:=by
 induction L generalizing M with
 | nil =>
  cases M with
  | nil=>rfl
  | cons q M =>
   have:=h q.1
   unfold look at this
   rw [if_pos rfl] at this
   cases this
 | cons p L ih =>
  cases M with
  | nil =>
   have:=h p.1
   unfold look at this
   rw [if_pos rfl] at this
   cases this
  | cons q M =>
   have e:p=q:=by
    have h1:=look_mem ((h p.1).symm.trans (by unfold look;rw [if_pos rfl]))
    have h2:=look_mem ((h q.1).trans (by unfold look;rw [if_pos rfl]))
    rcases List.mem_cons.1 h1 with h1|h1
    ·exact h1
    ·rcases List.mem_cons.1 h2 with h2|h2
     ·exact h2.symm
     ·have a:=hM.head _ h1
      have b:=hL.head _ h2
      simp at a b
      omega
   subst e
   congr 1
   refine ih hL.tail hM.tail (fun x=>?_)
   by_cases hx:x=p.1
   ·subst hx
    rw [look_high hL.head,look_high hM.head]
   ·have:=h x
    unfold look at this
    rwa [if_neg (fun e=>hx e.symm),if_neg (fun e=>hx e.symm)] at this
theorem delE_insE {L:List Ent} (hL:Ris L) (k v:Int):delE k (insE k v L)=delE k L:=by
 refine ris_ext ((hL.ins k v).del k) (hL.del k) (fun x=>?_)
 rw [look_delE (hL.ins k v),look_delE hL,look_insE]
 split <;> rfl
theorem insE_len (k v:Int) (L:List Ent):(insE k v L).length≤L.length+1:=by
 induction L with
 | nil=>exact Nat.le_refl _
 | cons p L ih =>
  unfold insE
  split
  ·simp;exact ih
  ·split <;> simp
theorem delE_len (k:Int) (L:List Ent):(delE k L).length≤L.length:=(delE_sub k L).length_le
theorem nxt_mem {k:Int} {p:Ent} {L:List Ent} (h:nxt k L=some p):p ∈ L∧k≤p.1:=by
 induction L with
 | nil=>cases h
 | cons q L ih =>
  unfold nxt at h
  split at h
  ·exact ⟨List.mem_cons_of_mem _ (ih h).1,(ih h).2⟩
  ·cases h;exact ⟨by simp,by omega⟩
structure Sk (ps:List (List Ent)) (k:Int) (i j:Nat) (is:Bool):Prop where
 lt:i < ps.length
 le:j≤(ps.getD i []).length
 low:∀ e ∈ (ps.take i).flatten++(ps.getD i []).take j,e.1 < k
 high:∀ e ∈ (ps.getD i []).drop j++(ps.drop (i+1)).flatten,k≤e.1
 is:is=true ↔ ∃ v,(ps.getD i [])[j]?=some (k,v)
 full:j=(ps.getD i []).length→i+1=ps.length
theorem split_flat (ps:List (List Ent)) (i j:Nat) (hi:i < ps.length):ps.flatten=((ps.take i).flatten++(ps.getD i []).take j)++((ps.getD i []).drop j++(ps.drop (i+1)).flatten):=by
 have e:ps=ps.take i++ps.getD i [] :: ps.drop (i+1):=by
  conv=>lhs;rw [← List.take_append_drop i ps]
  rw [List.drop_eq_getElem_cons hi]
  simp [List.getD,List.getElem?_eq_getElem hi]
 conv=>lhs;rw [e]
 rw [List.flatten_append,List.flatten_cons]
 conv=>lhs;rw [← List.take_append_drop j (ps.getD i [])]
 simp only [List.append_assoc]
theorem set_flat (ps:List (List Ent)) (i:Nat) (q:List Ent) (hi:i < ps.length):(ps.set i q).flatten=(ps.take i).flatten++(q++(ps.drop (i+1)).flatten):=by
 rw [List.set_eq_take_append_cons_drop,if_pos hi,List.flatten_append,List.flatten_cons]
theorem Sk.flat {ps:List (List Ent)} {k:Int} {i j:Nat} {is:Bool} (h:Sk ps k i j is):ps.flatten=((ps.take i).flatten++(ps.getD i []).take j)++((ps.getD i []).drop j++(ps.drop (i+1)).flatten):=split_flat ps i j h.lt
theorem Sk.above {ps:List (List Ent)} {k:Int} {i j:Nat} (h:Sk ps k i j false) (hR:Ris ps.flatten):∀ e ∈ (ps.getD i []).drop j++(ps.drop (i+1)).flatten,k < e.1:=by
 intro e he
 have h1:=h.high e he
 rcases Int.lt_or_eq_of_le h1 with h2|h2
 ·exact h2
 ·exfalso
  rw [h.flat] at hR
  have hR2:Ris ((ps.getD i []).drop j++(ps.drop (i+1)).flatten):=(List.pairwise_append.1 hR).2.1
  cases hd:(ps.getD i []).drop j with
  | nil =>
   have hj:=h.full (Nat.le_antisymm h.le (List.drop_eq_nil_iff.1 hd))
   rw [hd,List.drop_eq_nil_of_le (by omega)] at he
   cases he
  | cons p r =>
   rw [hd] at he hR2
   have hp:(ps.getD i [])[j]?=some p:=by
    have:=congrArg (fun l=>l[0]?) hd
    simpa [List.getElem?_drop] using this
   have hge:=h.high p (by rw [hd];simp)
   rcases List.mem_cons.1 he with rfl|he
   ·have:=h.is.2 ⟨e.2,by rw [hp,h2]⟩
    cases this
   ·have:=hR2.head e he
    omega
theorem Sk.yes {ps:List (List Ent)} {k:Int} {i j:Nat} {v:Int} (h:Sk ps k i j true) (hv:(ps.getD i [])[j]?=some (k,v)):look k ps.flatten=some v:=by
 rw [h.flat,look_low h.low]
 have hl:j < (ps.getD i []).length:=(List.getElem?_eq_some_iff.1 hv).1
 rw [List.drop_eq_getElem_cons hl,(List.getElem?_eq_some_iff.1 hv).2]
 exact look_head _ _ _
theorem Sk.no {ps:List (List Ent)} {k:Int} {i j:Nat} (h:Sk ps k i j false) (hR:Ris ps.flatten):look k ps.flatten=none:=by
 have ha:=h.above hR
 rw [h.flat,look_low h.low]
 exact look_high ha
theorem Sk.look {ps:List (List Ent)} {k:Int} {i j:Nat} {is:Bool} (h:Sk ps k i j is) (hR:Ris ps.flatten):is=(look k ps.flatten).isSome:=by
 cases is with
 | true=>obtain ⟨v,hv⟩:=h.is.1 rfl;rw [h.yes hv];rfl
 | false=>rw [h.no hR];rfl
theorem Sk.nxt {ps:List (List Ent)} {k:Int} {i j:Nat} {is:Bool} (h:Sk ps k i j is):nxt k ps.flatten=(ps.getD i [])[j]?:=by
 rw [h.flat,nxt_low h.low]
 rcases Nat.lt_or_ge j (ps.getD i []).length with hl|hl
 ·have hx:=h.high ((ps.getD i [])[j]) (List.mem_append_left _ (by rw [List.drop_eq_getElem_cons hl];exact List.mem_cons_self))
  rw [List.drop_eq_getElem_cons hl,List.cons_append,nxt_head hx,List.getElem?_eq_getElem hl]
 ·have hj:=h.full (Nat.le_antisymm h.le hl)
  rw [List.drop_eq_nil_of_le hl,List.drop_eq_nil_of_le (by omega),List.getElem?_eq_none hl]
  rfl
theorem Sk.ins {ps:List (List Ent)} {k:Int} {i j:Nat} (h:Sk ps k i j false) (hR:Ris ps.flatten) (x:Int):(ps.set i ((ps.getD i []).take j++(k,x) :: (ps.getD i []).drop j)).flatten=insE k x ps.flatten:=by
 have ha:=h.above hR
 have e:=h.flat
 rw [set_flat ps i _ h.lt,e,insE_low h.low,insE_high ha]
 simp only [List.append_assoc,List.cons_append]
theorem Sk.upd {ps:List (List Ent)} {k u:Int} {i j:Nat} (h:Sk ps k i j true) (hv:(ps.getD i [])[j]?=some (k,u)) (x:Int):(ps.set i ((ps.getD i []).set j (k,x))).flatten=insE k x ps.flatten:=by
 have e:=h.flat
 have hl:j < (ps.getD i []).length:=(List.getElem?_eq_some_iff.1 hv).1
 have hd:(ps.getD i []).drop j=(k,u) :: (ps.getD i []).drop (j+1):=by rw [List.drop_eq_getElem_cons hl,(List.getElem?_eq_some_iff.1 hv).2]
 rw [set_flat ps i _ h.lt,e,insE_low h.low,hd,List.cons_append,insE_head,List.set_eq_take_append_cons_drop,if_pos hl]
 simp only [List.append_assoc,List.cons_append]
theorem Sk.del {ps:List (List Ent)} {k u:Int} {i j:Nat} (h:Sk ps k i j true) (hv:(ps.getD i [])[j]?=some (k,u)):(ps.set i ((ps.getD i []).take j++(ps.getD i []).drop (j+1))).flatten=delE k ps.flatten:=by
 have e:=h.flat
 have hl:j < (ps.getD i []).length:=(List.getElem?_eq_some_iff.1 hv).1
 have hd:(ps.getD i []).drop j=(k,u) :: (ps.getD i []).drop (j+1):=by rw [List.drop_eq_getElem_cons hl,(List.getElem?_eq_some_iff.1 hv).2]
 rw [set_flat ps i _ h.lt,e,delE_low h.low,hd,List.cons_append,delE_head]
 simp only [List.append_assoc]
theorem flat_len_ge {α:Type} {ps:List (List α)} (h:∀ p ∈ ps,p≠[]):ps.length≤ps.flatten.length:=by
 induction ps with
 | nil=>exact Nat.le_refl _
 | cons p ps ih =>
  have h1:=List.length_pos_iff.2 (h p (by simp))
  have h2:=ih (fun q hq=>h q (by simp [hq]))
  simp only [List.flatten_cons,List.length_append,List.length_cons]
  omega
end Go.Proofs.YthgelfdefkbfeaaGreatDoor
namespace Go.Proofs.YthgelfdefkbfeaaGreatDoor
open Go.RowKit
def layN:Lay Ent:=⟨fun e=>[.int .u64 e.1,.int .u64 e.2],2,by decide,fun _=>rfl,by intro a u hu;simp at hu;rcases hu with rfl|rfl <;> rfl⟩
theorem Tryz.infoN:(Tryz.prog.info? 148).map (fun i=>(i.zero,i.size,i.bytes))=some (some (.agg #[.int .u64 0,.int .u64 0]),2,16):=by kernel_rfl
theorem Tryz.infoP:(Tryz.prog.info? 149).map (fun i=>(i.zero,i.size,i.bytes))=some (some (.slice .none 0 0),1,24):=by kernel_rfl
structure Pc where
 a:Option Addr
 c:Nat
 es:List Ent
abbrev Pc.val (p:Pc):Value:=.slice p.a p.es.length p.c
def layP:Lay Pc:=⟨fun p=>[.slice p.a p.es.length p.c],1,by decide,fun _=>rfl,by intro a u hu;simp at hu;subst hu;rfl⟩
def cmpI (a b:Int):Int:=if a < b then -1 else if b < a then 1 else 0
theorem nan_any (a:Int) (w:World):Calls Tryz.prog 176 #[.int .u64 a] w fun e w'=>e=.returned (.bool false)∧w'=w:=by
 go_enter Tryz.func176,Tryz.ntmps176
 go_wp2
 go_ret
 exact ⟨by simp,rfl⟩
theorem cmp_any (a b:Int) (w:World):Calls Tryz.prog 163 #[.int .u64 a,.int .u64 b] w fun e w'=>e=.returned (.int .i64 (cmpI a b))∧w'=w:=by
 have H1:=hide (nan_any a w)
 have H2:=hide (nan_any b w)
 obtain ⟨R,hR⟩:∃ R,R=cmpI a b:=⟨_,rfl⟩
 rw [← hR]
 unfold cmpI at hR
 have HR:=hide hR
 clear hR
 go_enter Tryz.func163,Tryz.ntmps163
 go_wp2_with fail
 refine H1.out.mono ?_
 rintro e w1 ⟨rfl,hw⟩
 rw [hw];clear hw w1
 go_wp2_with fail
 refine H2.out.mono ?_
 rintro e w1 ⟨rfl,hw⟩
 rw [hw];clear hw w1
 by_cases h1:a < b
 ·have hN:R=-1:=by rw [HR.out,if_pos h1]
  clear HR
  go_wp2
  go_ret
  exact ⟨by rw [hN];rfl,rfl⟩
 ·have d1:decide (a < b)=false:=decide_eq_false h1
  by_cases h2:b < a
  ·have hN:R=1:=by rw [HR.out,if_neg h1,if_pos h2]
   clear HR
   go_wp2
   go_ret
   exact ⟨by rw [hN];rfl,rfl⟩
  ·have d2:decide (b < a)=false:=decide_eq_false h2
   have hN:R=0:=by rw [HR.out,if_neg h1,if_neg h2]
   clear HR
   go_wp2
   go_ret
   exact ⟨by rw [hN];rfl,rfl⟩
theorem seek2_any (a v k:Int) (w:World):Calls Tryz.prog 165 #[.agg #[.int .u64 a,.int .u64 v],.int .u64 k] w fun e w'=>e=.returned (.int .i64 (cmpI a k))∧Below w.heap.size w w':=by
 have H1:=hide (cmp_any a k (w.alloc (.cells #[.int .u64 a,.int .u64 v] 148)))
 have HB:=hide (below_alloc1 w (.cells #[.int .u64 a,.int .u64 v] 148))
 go_enter Tryz.func165,Tryz.ntmps165
 go_wp2_with fail
 refine H1.out.mono ?_
 rintro e w1 ⟨rfl,hw⟩
 rw [hw];clear hw w1
 go_wp2
 go_ret
 exact ⟨rfl,HB.out⟩
theorem seek1_any (p:Pc) (k:Int) (w:World) (h:Own layN 148 w 0 p.val p.es) (x:Ent) (hx:p.es.getLast?=some x) (hs:(p.es.length:Int)≤9223372036854775806) :
  Calls Tryz.prog 162 #[p.val,.int .u64 k] w fun e w'=>e=.returned (.int .i64 (cmpI x.1 k))∧w'=w:=by
 have H1:=hide (cmp_any x.1 k w)
 obtain ⟨pa,pc,es⟩:=p
 have h9:Own layN 148 w 0 (.slice pa es.length pc) es:=h
 have hx9:es.getLast?=some x:=hx
 have hs9:(es.length:Int)≤9223372036854775806:=hs
 have hpos:0 < es.length:=by
  cases es with
  | nil=>simp at hx9
  | cons=>simp
 obtain ⟨m,hm⟩:∃ m,es.length=m+1:=⟨es.length - 1,by omega⟩
 have hg:es[m]?=some x:=by rw [List.getLast?_eq_getElem?,hm] at hx9;exact hx9
 obtain ⟨g,c,hv,_,_,_⟩:=h9.frm hpos
 cases hv
 have c0:=h9.cell hg 0 rfl
 show Calls Tryz.prog _ #[.slice (some ⟨g,0,none⟩) es.length pc,_] w _
 rw [hm]
 have e1:((m+1:Nat):Int) - 1=(m:Int):=by omega
 have HM:=hide hm
 have HS:=hide hs9
 clear hx hx9 h h9 hg hs hs9 hpos hm
 have c0':w.cell? ⟨g,m * 2+0,none⟩=some (.int .u64 x.1):=c0
 rw [Nat.add_zero] at c0'
 have hw1:wrap64 (m:Int)=(m:Int):=by have:=HS.out;rw [HM.out] at this;unfold wrap64;omega
 clear c0
 go_enter Tryz.func162,Tryz.ntmps162
 go_wp2_with fail
 refine H1.out.mono ?_
 rintro e w1 ⟨rfl,hw⟩
 rw [hw];clear hw w1
 go_wp2
 go_ret
 exact ⟨rfl,rfl⟩
end Go.Proofs.YthgelfdefkbfeaaGreatDoor
namespace Go.Proofs.YthgelfdefkbfeaaGreatDoor
open Go.RowKit
structure LB (L:List Ent) (k:Int) (j:Nat) (is:Bool):Prop where
 le:j≤L.length
 low:∀ e ∈ L.take j,e.1 < k
 high:∀ e ∈ L.drop j,k≤e.1
 is:is=true ↔ ∃ v,L[j]?=some (k,v)
theorem take_low {L:List Ent} (hR:Ris L) {h:Nat} {x:Ent} (hx:L[h]?=some x) {k:Int} (hk:x.1 < k):∀ e ∈ L.take (h+1),e.1 < k:=by
 intro e he
 have hl:=get_lt hx
 obtain ⟨i,hi,rfl⟩:=List.mem_iff_getElem.1 he
 rw [List.length_take] at hi
 rw [List.getElem_take]
 have hxe:L[h]=x:=(List.getElem?_eq_some_iff.1 hx).2
 by_cases e1:i=h
 ·subst e1;rw [hxe];exact hk
 ·have:=List.pairwise_iff_getElem.1 hR i h (by omega) hl (by omega)
  rw [hxe] at this
  omega
theorem drop_high {L:List Ent} (hR:Ris L) {h:Nat} {x:Ent} (hx:L[h]?=some x) {k:Int} (hk:k≤x.1):∀ e ∈ L.drop h,k≤e.1:=by
 intro e he
 have hl:=get_lt hx
 obtain ⟨i,hi,rfl⟩:=List.mem_iff_getElem.1 he
 rw [List.length_drop] at hi
 rw [List.getElem_drop]
 have hxe:L[h]=x:=(List.getElem?_eq_some_iff.1 hx).2
 by_cases e1:i=0
 ·subst e1
  simp only [Nat.add_zero]
  rw [hxe];exact hk
 ·have:=List.pairwise_iff_getElem.1 hR h (h+i) hl (by omega) (by omega)
  rw [hxe] at this
  omega
theorem get_ex {α:Type} {L:List α} {i:Nat} (h:i < L.length):∃ x,L[i]?=some x:=⟨_,List.getElem?_eq_getElem h⟩
theorem cmpI_lt {a b:Int}:decide (cmpI a b < 0)=decide (a < b):=by
 unfold cmpI
 by_cases h:a < b
 ·rw [if_pos h];simp [h]
 ·rw [if_neg h]
  by_cases h2:b < a
  ·rw [if_pos h2];simp [h]
  ·rw [if_neg h2];simp [h]
theorem cmpI_eq {a b:Int}:(cmpI a b == 0)=decide (a=b):=by
 unfold cmpI
 by_cases h:a < b
 ·rw [if_pos h];rw [decide_eq_false (by omega)];rfl
 ·rw [if_neg h]
  by_cases h2:b < a
  ·rw [if_pos h2];rw [decide_eq_false (by omega)];rfl
  ·rw [if_neg h2];rw [decide_eq_true (by omega)];rfl
theorem bsE_any (a:Option Addr) (n c:Nat) (L:List Ent) (k:Int) (w:World) (h:TRow layN w a n L) (hR:Ris L) (hn:(n:Int)≤4000000) :
  Calls Tryz.prog 164 #[.slice a n c,.int .u64 k,.func (.func 165) #[] #[]] w fun e w'=>∃ (j:Nat) (is:Bool),e=.returned (.tuple #[.int .i64 (j:Int),.bool is])∧LB L k j is∧Below w.heap.size w w':=by
 have HT:=hide h
 have HR:=hide hR
 clear h hR
 go_enter Tryz.func164,Tryz.ntmps164
 go_wp2
 go_loopw [9,10] (fun i j wr=>∃ p q:Nat,p≤q∧q≤n∧i=.int .i64 p∧j=.int .i64 q∧(∀ e ∈ L.take p,e.1 < k)∧(∀ e ∈ L.drop q,k≤e.1)∧Below w.heap.size w wr) (fun i j _=>(intOf j).toNat - (intOf i).toNat)
 case atStart=>exact ⟨0,n,Nat.zero_le _,Nat.le_refl _,rfl,rfl,by simp,by rw [← HT.out.len];simp,Below.refl _ _⟩
 case round =>
  obtain ⟨p,q,hpq,hqn,rfl,rfl,hlow,hhigh,hb⟩:=hrel
  have HL:=hide hlow
  have HH:=hide hhigh
  have HB:=hide hb
  clear hlow hhigh hb
  by_cases hlt:p < q
  ·obtain ⟨m,hm⟩:∃ m,m=(p+q) / 2:=⟨_,rfl⟩
   have e1:((p:Int)+(q:Int)) / 2=(m:Int):=by omega
   have hm1:p≤m:=by omega
   have hm2:m < q:=by omega
   have hmn:m < n:=by omega
   have hmI:(m:Int) < n:=by omega
   clear hm
   obtain ⟨b,off,rfl,_,hc⟩:=(HT.out.below HB.out).at (by omega)
   obtain ⟨x,hx⟩:=get_ex (L:=L) (i:=m) (by rw [HT.out.len];exact hmn)
   have c0:wr.cell? ⟨b,off+m * 2,none⟩=some (.int .u64 x.1):=hc m x hx 0 _ rfl
   have c1:wr.cell? ⟨b,off+m * 2+1,none⟩=some (.int .u64 x.2):=hc m x hx 1 _ rfl
   have HX:=hide hx
   have HC:=hide (fun W=>seek2_any x.1 x.2 k W)
   clear hc hx
   go_wp2_with fail
   refine (HC.out _).mono ?_
   rintro e w2 ⟨rfl,hb2⟩
   have HB2:=hide (Below.on HB.out hb2)
   clear hb2 c0 c1
   by_cases hk:x.1 < k
   ·have hd:decide (cmpI x.1 k < 0)=true:=by rw [cmpI_lt];exact decide_eq_true hk
    have HN:=hide (take_low HR.out HX.out hk)
    generalize cmpI x.1 k=z at hd ⊢
    have hz:z < 0:=of_decide_eq_true hd
    clear hk HX HC hd
    go_wp2
    exact ⟨⟨m+1,q,by omega,by omega,by go_num,rfl,HN.out,HH.out,HB2.out⟩,by simp [intOf];omega⟩
   ·have hd:decide (cmpI x.1 k < 0)=false:=by rw [cmpI_lt];exact decide_eq_false hk
    have HN:=hide (drop_high HR.out HX.out (by omega:k≤x.1))
    generalize cmpI x.1 k=z at hd ⊢
    have hz:¬ z < 0:=of_decide_eq_false hd
    clear hk HX HC
    go_wp2
    exact ⟨⟨p,m,by omega,by omega,rfl,rfl,HL.out,HN.out,HB2.out⟩,by simp [intOf];omega⟩
  ·obtain rfl:p=q:=by omega
   by_cases hpn:p < n
   ·have hpI:(p:Int) < n:=by omega
    obtain ⟨b,off,rfl,_,hc⟩:=(HT.out.below HB.out).at (by omega)
    obtain ⟨x,hx⟩:=get_ex (L:=L) (i:=p) (by rw [HT.out.len];exact hpn)
    have c0:wr.cell? ⟨b,off+p * 2,none⟩=some (.int .u64 x.1):=hc p x hx 0 _ rfl
    have c1:wr.cell? ⟨b,off+p * 2+1,none⟩=some (.int .u64 x.2):=hc p x hx 1 _ rfl
    have HX:=hide hx
    have HC:=hide (fun W=>seek2_any x.1 x.2 k W)
    have HE:=hide (cmpI_eq (a:=x.1) (b:=k))
    clear hc hx
    go_wp2_with fail
    refine (HC.out _).mono ?_
    rintro e w2 ⟨rfl,hb2⟩
    have HB2:=hide (Below.on HB.out hb2)
    clear hb2 c0 c1
    have HN:Hid (LB L k p (cmpI x.1 k == 0)):=hide ⟨by rw [HT.out.len];omega,HL.out,HH.out,by
     rw [HE.out,HX.out]
     simp only [decide_eq_true_eq]
     constructor
     ·intro e;exact ⟨x.2,by rw [← e]⟩
     ·rintro ⟨v,e⟩;cases e;rfl⟩
    generalize cmpI x.1 k=z at HN ⊢
    clear HX HC HE
    go_wp2
    go_ret2
    exact ⟨p,_,rfl,HN.out,HB2.out⟩
   ·have hpI:decide ((p:Int) < n)=false:=decide_eq_false (by omega)
    have hpN:¬ (p < n):=hpn
    have HN:Hid (LB L k p false):=hide ⟨by rw [HT.out.len];omega,HL.out,HH.out,by
     rw [List.getElem?_eq_none (by rw [HT.out.len];omega)];simp⟩
    go_wp2
    go_ret2
    exact ⟨p,_,rfl,HN.out,HB.out⟩
structure LP (ps:List Pc) (k:Int) (i:Nat):Prop where
 le:i≤ps.length
 low:∀ p ∈ ps.take i,∃ x,p.es.getLast?=some x∧x.1 < k
 high:∀ p ∈ ps.drop i,∃ x,p.es.getLast?=some x∧k≤x.1
def LRis (ps:List Pc):Prop:=∀ (i j:Nat) (p q:Pc) (x y:Ent),i < j→ps[i]?=some p→ps[j]?=some q→p.es.getLast?=some x→q.es.getLast?=some y→x.1 < y.1
theorem lp_low {ps:List Pc} (hR:LRis ps) (hne:∀ p ∈ ps,∃ x,p.es.getLast?=some x) {h:Nat} {p:Pc} {x:Ent} (hp:ps[h]?=some p) (hx:p.es.getLast?=some x) {k:Int} (hk:x.1 < k):∀ p ∈ ps.take (h+1),∃ x,p.es.getLast?=some x∧x.1 < k:=by
 intro q hq
 obtain ⟨i,hi⟩:=List.mem_iff_getElem?.1 hq
 rw [List.getElem?_take] at hi
 split at hi
 ·rename_i hlt
  obtain ⟨y,hy⟩:=hne q (List.mem_of_getElem? hi)
  refine ⟨y,hy,?_⟩
  by_cases e:i=h
  ·subst e
   rw [hp] at hi
   cases hi
   rw [hx] at hy
   cases hy
   exact hk
  ·have:=hR i h q p y x (by omega) hi hp hy hx
   omega
 ·cases hi
theorem lp_high {ps:List Pc} (hR:LRis ps) (hne:∀ p ∈ ps,∃ x,p.es.getLast?=some x) {h:Nat} {p:Pc} {x:Ent} (hp:ps[h]?=some p) (hx:p.es.getLast?=some x) {k:Int} (hk:k≤x.1):∀ p ∈ ps.drop h,∃ x,p.es.getLast?=some x∧k≤x.1:=by
 intro q hq
 obtain ⟨i,hi⟩:=List.mem_iff_getElem?.1 hq
 rw [List.getElem?_drop] at hi
 obtain ⟨y,hy⟩:=hne q (List.mem_of_getElem? hi)
 refine ⟨y,hy,?_⟩
 by_cases e:i=0
 ·subst e
  rw [Nat.add_zero,hp] at hi
  cases hi
  rw [hx] at hy
  cases hy
  exact hk
 ·have:=hR h (h+i) p q x y (by omega) hp hi hx hy
  omega
theorem bsP_any (a:Option Addr) (n c:Nat) (ps:List Pc) (k:Int) (w:World) (h:TRow layP w a n ps) (he:∀ p ∈ ps,Own layN 148 w 0 p.val p.es) (hs:∀ p ∈ ps,(p.es.length:Int)≤9223372036854775806) (hR:LRis ps) (hne:∀ p ∈ ps,∃ x,p.es.getLast?=some x) (hn:(n:Int)≤4000000) :
  Calls Tryz.prog 161 #[.slice a n c,.int .u64 k,.func (.func 162) #[] #[]] w fun e w'=>∃ (j:Nat) (is:Bool),e=.returned (.tuple #[.int .i64 (j:Int),.bool is])∧LP ps k j∧Below w.heap.size w w':=by
 have HT:=hide h
 have HR:=hide hR
 have HE:=hide he
 have HS:=hide hs
 have HNe:=hide hne
 clear h hR he hs hne
 go_enter Tryz.func161,Tryz.ntmps161
 go_wp2
 go_loopw [9,10] (fun i j wr=>∃ p q:Nat,p≤q∧q≤n∧i=.int .i64 p∧j=.int .i64 q∧(∀ z ∈ ps.take p,∃ x,z.es.getLast?=some x∧x.1 < k)∧(∀ z ∈ ps.drop q,∃ x,z.es.getLast?=some x∧k≤x.1)∧Below w.heap.size w wr) (fun i j _=>(intOf j).toNat - (intOf i).toNat)
 case atStart=>exact ⟨0,n,Nat.zero_le _,Nat.le_refl _,rfl,rfl,by simp,by rw [← HT.out.len];simp,Below.refl _ _⟩
 case round =>
  obtain ⟨p,q,hpq,hqn,rfl,rfl,hlow,hhigh,hb⟩:=hrel
  have HL:=hide hlow
  have HH:=hide hhigh
  have HB:=hide hb
  clear hlow hhigh hb
  by_cases hlt:p < q
  ·obtain ⟨m,hm⟩:∃ m,m=(p+q) / 2:=⟨_,rfl⟩
   have e1:((p:Int)+(q:Int)) / 2=(m:Int):=by omega
   have hm1:p≤m:=by omega
   have hm2:m < q:=by omega
   have hmn:m < n:=by omega
   have hmI:(m:Int) < n:=by omega
   clear hm
   obtain ⟨b,off,rfl,_,hc⟩:=(HT.out.below HB.out).at (by omega)
   obtain ⟨y,hy⟩:=get_ex (L:=ps) (i:=m) (by rw [HT.out.len];exact hmn)
   have hym:=List.mem_of_getElem? hy
   obtain ⟨x,hx⟩:=HNe.out y hym
   have c0:wr.cell? ⟨b,off+m * 1,none⟩=some (.slice y.a y.es.length y.c):=hc m y hy 0 _ rfl
   rw [Nat.mul_one] at c0
   have HX:=hide hx
   have HY:=hide hy
   have HC:=hide (seek1_any y k wr ((HE.out y hym).below HB.out) x hx (HS.out y hym))
   clear hc hx hy hym
   go_wp2_with fail
   refine HC.out.mono ?_
   rintro e w2 ⟨rfl,hw2⟩
   rw [hw2]
   clear hw2 w2 c0
   by_cases hk:x.1 < k
   ·have hd:decide (cmpI x.1 k < 0)=true:=by rw [cmpI_lt];exact decide_eq_true hk
    have HN:=hide (lp_low HR.out HNe.out HY.out HX.out hk)
    generalize cmpI x.1 k=z at hd ⊢
    have hz:z < 0:=of_decide_eq_true hd
    clear hk HX HY HC hd
    go_wp2
    exact ⟨⟨m+1,q,by omega,by omega,by go_num,rfl,HN.out,HH.out,HB.out⟩,by simp [intOf];omega⟩
   ·have hd:decide (cmpI x.1 k < 0)=false:=by rw [cmpI_lt];exact decide_eq_false hk
    have HN:=hide (lp_high HR.out HNe.out HY.out HX.out (by omega:k≤x.1))
    generalize cmpI x.1 k=z at hd ⊢
    have hz:¬ z < 0:=of_decide_eq_false hd
    clear hk HX HY HC
    go_wp2
    exact ⟨⟨p,m,by omega,by omega,rfl,rfl,HL.out,HN.out,HB.out⟩,by simp [intOf];omega⟩
  ·obtain rfl:p=q:=by omega
   have HN:Hid (LP ps k p):=hide ⟨by rw [HT.out.len];omega,HL.out,HH.out⟩
   by_cases hpn:p < n
   ·have hpI:(p:Int) < n:=by omega
    obtain ⟨b,off,rfl,_,hc⟩:=(HT.out.below HB.out).at (by omega)
    obtain ⟨y,hy⟩:=get_ex (L:=ps) (i:=p) (by rw [HT.out.len];exact hpn)
    have hym:=List.mem_of_getElem? hy
    obtain ⟨x,hx⟩:=HNe.out y hym
    have c0:wr.cell? ⟨b,off+p * 1,none⟩=some (.slice y.a y.es.length y.c):=hc p y hy 0 _ rfl
    rw [Nat.mul_one] at c0
    have HC:=hide (seek1_any y k wr ((HE.out y hym).below HB.out) x hx (HS.out y hym))
    clear hc hx hy hym
    go_wp2_with fail
    refine HC.out.mono ?_
    rintro e w2 ⟨rfl,hw2⟩
    rw [hw2]
    clear hw2 w2 c0
    generalize cmpI x.1 k=z at *
    clear HC
    go_wp2
    go_ret2
    exact ⟨p,_,rfl,HN.out,HB.out⟩
   ·have hpI:decide ((p:Int) < n)=false:=decide_eq_false (by omega)
    have hpN:¬ (p < n):=hpn
    go_wp2
    go_ret2
    exact ⟨p,_,rfl,HN.out,HB.out⟩
end Go.Proofs.YthgelfdefkbfeaaGreatDoor
