import Derived.Test.YthgelfdefkbfeaaGreatDoorZu02
import Derived.Test.YthgelfdefkbfeaaGreatDoorZu05
import Derived.Laws.StructEq
import Derived.Deep.RegionHeld3
import Derived.Test.YthgelfdefkbfeaaGreatDoorZu26
import Derived.Test.YthgelfdefkbfeaaGreatDoorZu25
import Derived.DeepKeys4
set_option maxRecDepth 8000
set_option maxHeartbeats 8000000
set_option linter.unusedVariables false
namespace Go.Proofs.YthgelfdefkbfeaaGreatDoor.E6
open Go.RowKit Go.Maps
section
variable {w : World} {tb : Nat} {S : Nat → Prop} {L : List ByteArray} {v : Value}
end
end Go.Proofs.YthgelfdefkbfeaaGreatDoor.E6
namespace Go.Proofs.YthgelfdefkbfeaaGreatDoor.E6
open Go.RowKit Go.Maps Go.Shelf
section
variable {w : World} {fb tb : Nat} {S : Nat → Prop} {N : List Nd} {v : Value}
end
end Go.Proofs.YthgelfdefkbfeaaGreatDoor.E6
namespace Go.Proofs.YthgelfdefkbfeaaGreatDoor.E6
open Go.RowKit Go.Maps Go.Shelf
attribute [local go_sem] Oper.semAt_some
end Go.Proofs.YthgelfdefkbfeaaGreatDoor.E6
namespace Go.Proofs.YthgelfdefkbfeaaGreatDoor.E6
open Go.RowKit Go.Maps Go.Shelf
theorem Tryz.infoRNode:(Tryz.prog.info? 174).map (fun i=>(i.zero,i.size,i.bytes))=some (some (.agg #[.int .i64 0,.int .i64 0]),2,16):=by kernel_rfl
end Go.Proofs.YthgelfdefkbfeaaGreatDoor.E6
namespace Go.Proofs.YthgelfdefkbfeaaGreatDoor.E6
open Go.RowKit Go.Maps Go.Shelf
attribute [local go_sem] Oper.semAt_some
end Go.Proofs.YthgelfdefkbfeaaGreatDoor.E6
namespace Go.Proofs.YthgelfdefkbfeaaGreatDoor.E6
open Go.RowKit Go.Maps Go.Shelf
end Go.Proofs.YthgelfdefkbfeaaGreatDoor.E6
namespace Go.Proofs.YthgelfdefkbfeaaGreatDoor.E6
open Go.RowKit Go.Maps Go.Shelf
end Go.Proofs.YthgelfdefkbfeaaGreatDoor.E6
namespace Go.Proofs.YthgelfdefkbfeaaGreatDoor.E6
open Go.RowKit Go.Maps Go.Shelf
end Go.Proofs.YthgelfdefkbfeaaGreatDoor.E6
namespace Go.Proofs.YthgelfdefkbfeaaGreatDoor
open Go.RowKit Go.Maps
set_option linter.unusedSimpArgs false
end Go.Proofs.YthgelfdefkbfeaaGreatDoor
namespace Go.Proofs.YthgelfdefkbfeaaGreatDoor.E6
open Go.RowKit Go.Maps Go.Shelf
end Go.Proofs.YthgelfdefkbfeaaGreatDoor.E6
namespace Go.Proofs.YthgelfdefkbfeaaGreatDoor.E6
open Go.RowKit Go.Maps Go.Shelf
end Go.Proofs.YthgelfdefkbfeaaGreatDoor.E6
namespace Go.Proofs.YthgelfdefkbfeaaGreatDoor
open Go.RowKit Go.Maps Go.Shelf
noncomputable def wnE (es:List E6.Ev):Int:=if (runV es).2.2≠0 then (runV es).2.2 else if (runV es).2.1≠0 then 160 else 0
theorem runV_one {es:List E6.Ev} (h:(runV es).2.2≠0):(runV es).2.1=0:=by
 unfold runV at h ⊢
 split
 ·rfl
 ·rename_i h1
  rw [if_neg h1] at h
  exact absurd rfl h
theorem wn_place {es:List E6.Ev} (h:wnE es=0):(runV es).1=-1:=by
 unfold wnE at h
 by_cases h1:(runV es).2.2≠0
 ·rw [if_pos h1] at h;exact absurd h h1
 ·rw [if_neg h1] at h
  by_cases h2:(runV es).2.1≠0
  ·rw [if_pos h2] at h;exact absurd h (by decide)
  ·have h3:(runV es).2.1=0:=by omega
   unfold runV at h1 h3 ⊢
   by_cases hb:(E6.bounds es).2≠0
   ·rw [if_pos hb] at h1;exact absurd hb h1
   ·rw [if_neg hb] at h3 ⊢
    rcases run_bd es CS.new 0 with ⟨h4,_⟩|⟨_,_,h4⟩
    ·exact h4
    ·exact absurd h3 h4
theorem wanted_any (ad:Option Addr) (n c:Nat) (es:List E6.Ev) (w:World) (hK:E6.Kr w) (hr:E6.ERow w ad n es) (hok:∀ e ∈ es,e.ok) (hn:(n:Int)≤9223372036854775806) :
  Calls Tryz.prog 18 #[.slice ad n c] w fun r w'=>r=.returned (.tuple #[.int .i64 (runV es).1,.int .i64 (wnE es)])∧Below w.heap.size w w':=by
 have HC:=hide (Run_any ad n c es w hK hr hok hn)
 obtain ⟨p,hp⟩:∃ p,(runV es).1=p:=⟨_,rfl⟩
 obtain ⟨y,hy⟩:∃ y,(runV es).2.1=y:=⟨_,rfl⟩
 obtain ⟨f,hf⟩:∃ f,(runV es).2.2=f:=⟨_,rfl⟩
 have h1:=@runV_one es
 have HE:Hid (wnE es=if f≠0 then f else if y≠0 then 160 else 0):=hide (by unfold wnE;rw [hf,hy])
 rw [hf,hy] at h1
 rw [hp,hy,hf] at HC
 rw [hp,HE.out]
 clear hK hr hok hp hy hf HE
 by_cases h0:y=0
 ·have b0:(y != 0)=false:=by simp [h0]
  have HF:Hid ((if f≠0 then f else if y≠0 then 160 else 0)=f):=hide (by by_cases h:f≠0 <;> simp [h0] <;> omega)
  rw [HF.out]
  clear h0 h1
  go_enter Tryz.func18,Tryz.ntmps18
  go_wp2_with fail
  refine HC.out.mono ?_
  rintro r w1 ⟨rfl,hb⟩
  go_wp2
  go_ret2
  exact ⟨rfl,hb⟩
 ·have b0:(y != 0)=true:=by simp [h0]
  have HF:Hid ((if f≠0 then f else if y≠0 then (160:Int) else 0)=160):=hide (by
   by_cases h:f≠0
   ·exact absurd (h1 h) h0
   ·rw [if_neg h,if_pos h0])
  rw [HF.out]
  clear h0 h1
  go_enter Tryz.func18,Tryz.ntmps18
  go_wp2_with fail
  refine HC.out.mono ?_
  rintro r w1 ⟨rfl,hb⟩
  go_wp2
  go_ret2
  exact ⟨rfl,hb⟩
end Go.Proofs.YthgelfdefkbfeaaGreatDoor
namespace Go.Proofs.YthgelfdefkbfeaaGreatDoor
open Go.RowKit Go.Maps
structure Th where
 s:Int
 g:Int
 o:Int
 a:Int
deriving DecidableEq
structure Th.ok (t:Th):Prop where
 s0:0≤t.s
 s1:t.s≤5
 g0:-9223372036854775808≤t.g
 g1:t.g≤9223372036854775807
 o0:0≤t.o
 o1:t.o≤18446744073709551615
 a0:0≤t.a
 a1:t.a≤18446744073709551615
theorem laidOutT:laidOutB Tryz.prog=true:=by kernel_rfl
theorem rowTh:(95:TypeId) < Tryz.prog.types.size:=of_decide_eq_true (by kernel_rfl)
theorem cellsTh:Tryz.prog.cellsOf 95=4:=by kernel_rfl
theorem lawTh:Keyed Tryz.prog 95:=by
 refine Keyed.of_law (deep_law_laid laidOutT (m:=2) ?_ rowTh ?_ ?_)
 ·omega
 ·kernel_rfl
 ·rw [Tryz.underlying95]
abbrev Th.val (t:Th):Value:=.agg #[.int .i64 t.s,.int .i64 t.g,.int .u64 t.o,.int .u64 t.a]
def Th.key (t:Th):Lit:=.string (keyBytes [.int .i64 t.s,.int .i64 t.g,.int .u64 t.o,.int .u64 t.a])
theorem typeTh:Tryz.prog.keyType 95=true:=by kernel_rfl
theorem cellsT3:Tryz.prog.cellsOf 3=1:=by kernel_rfl
theorem cellsT64:Tryz.prog.cellsOf 33=1:=by kernel_rfl
theorem litsTh (d:Nat) {a b c e:Int} (w1:(Lit.int .i64 a).wf=true) (w2:(Lit.int .i64 b).wf=true) (w3:(Lit.int .u64 c).wf=true) (w4:(Lit.int .u64 e).wf=true):Tryz.prog.keyLits (d+2) 95 [.int .i64 a,.int .i64 b,.int .u64 c,.int .u64 e]=some [.int .i64 a,.int .i64 b,.int .u64 c,.int .u64 e]:=by
 simp [Program.keyLits,Tryz.underlying95,Tryz.underlying3,Tryz.underlying33,cellsTh,cellsT3,cellsT64,w1,w2,w3,w4]
theorem keyTh {t:Th} (h:t.ok):keyOf Tryz.prog 95 t.val=some t.key:=by
 have w1:(Lit.int .i64 t.s).wf=true:=WalkArith.wf_i64 (by have:=h.s0;have:=h.s1;omega)
 have w2:(Lit.int .i64 t.g).wf=true:=WalkArith.wf_i64 (by have:=h.g0;have:=h.g1;omega)
 have w3:(Lit.int .u64 t.o).wf=true:=WalkArith.wf_u64 ⟨h.o0,h.o1⟩
 have w4:(Lit.int .u64 t.a).wf=true:=WalkArith.wf_u64 ⟨h.a0,h.a1⟩
 have hf:t.val.formed Tryz.prog 95=true:=by simp [Value.formed,Tryz.underlying95,cellsTh]
 have hk:Tryz.prog.keyLits (Tryz.prog.types.size+1) 95 t.val.cells.toList=some [.int .i64 t.s,.int .i64 t.g,.int .u64 t.o,.int .u64 t.a]:=by
  have hs:Tryz.prog.types.size+1=(Tryz.prog.types.size - 1)+2:=by have:0 < Tryz.prog.types.size:=Nat.lt_of_le_of_lt (Nat.zero_le _) rowTh;omega
  rw [hs]
  exact litsTh _ w1 w2 w3 w4
 unfold keyOf
 rw [Tryz.underlying95,typeTh,hf,hk]
 rfl
theorem Th.inj {t u:Th} (h:t.ok) (k:u.ok) (he:t.key=u.key):t=u:=by
 have:=lawTh.inj (keyTh h) (by rw [he];exact keyTh k)
 cases t;cases u
 simp [Th.val] at this
 simp [this]
theorem Th.lit (t:Th):WideAt.IsKeyLit t.key:=by simp [Th.key,WideAt.IsKeyLit]
def setT {α:Type} (f:Th→Option α) (t:Th) (v:Option α):Th→Option α:=fun u=>if u=t then v else f u
theorem setT_same {α:Type} (f:Th→Option α) (t:Th) (v:Option α):setT f t v t=v:=if_pos rfl
theorem setT_other {α:Type} (f:Th→Option α) {t u:Th} (v:Option α) (h:u≠t):setT f t v u=f u:=if_neg h
def TM (w:World) (b n:Nat) (z:Value) (f:Th→Option Value):Prop :=
 ∃ D,w.ownsMap Tryz.prog 95 heldR b n D∧(∀ t:Th,t.ok→D.atKey t.key (.held z)=.held ((f t).getD z))∧(∀ t:Th,t.ok→Maps.has D t.key=(f t).isSome)
section
variable {w w' : World} {b n : Nat} {z : Value} {f : Th → Option Value} {t : Th}
theorem TM.but {S:Nat→Prop} (h:TM w b n z f) (hb:But S w w') (hS:¬ S b):TM w' b n z f:=by
 obtain ⟨D,h1,h2⟩:=h
 exact ⟨D,map_but h1 hb hS,h2⟩
theorem TM.below (h:TM w b n z f) (hb:Below w.heap.size w w'):TM w' b n z f:=h.but (S:=fun _=>False) (But.of_below hb) (fun e=>e)
theorem TM.made (w:World) (z:Value):TM (w.alloc (.map #[] 0)) w.heap.size 0 z (fun _=>none) :=
 ⟨.map [],World.ownsMap_made w Tryz.prog 95 heldR,fun t _=>by rw [Maps.atKey_of_not_has rfl];rfl,fun t _=>rfl⟩
theorem TM.look (h:TM w b n z f) {m e:TypeId} (ht:Tryz.prog.underlying m=some (.map 95 e)) (hz:(zeroValue e).run Tryz.prog w=.ok z w) (hr:t.ok):(Instr.lookup m (.map (some b)) t.val false).run Tryz.prog w=.ok ((f t).getD z) w:=by
 obtain ⟨D,h1,h2,_⟩:=h
 obtain ⟨v,ps,hrun,hv⟩:=h1.lookup lawTh ht hz (zd:=.held z) (zp:=[]) rfl (keyTh hr)
 rw [h2 t hr] at hv
 simp [heldR] at hv
 rw [hrun,hv.1]
theorem TM.lookOk (h:TM w b n z f) {m e:TypeId} (ht:Tryz.prog.underlying m=some (.map 95 e)) (hz:(zeroValue e).run Tryz.prog w=.ok z w) (hr:t.ok):(Instr.lookup m (.map (some b)) t.val true).run Tryz.prog w=.ok (.tuple #[(f t).getD z,.bool (f t).isSome]) w:=by
 obtain ⟨D,h1,h2,h3⟩:=h
 obtain ⟨v,ps,hrun,hv⟩:=h1.look_ok lawTh ht hz (zd:=.held z) (zp:=[]) rfl (keyTh hr)
 rw [h2 t hr] at hv
 simp [heldR] at hv
 rw [hrun,hv.1,h3 t hr]
theorem TM.put (h:TM w b n z f) {m e:TypeId} (ht:Tryz.prog.underlying m=some (.map 95 e)) (hr:t.ok) (hn:n < maxLen) (v:Value) :
  ∃ w',(Instr.mapUpdate m (.map (some b)) t.val v).run Tryz.prog w=.ok () w'∧TM w' b (n+1) z (setT f t (some v))∧But (fun k=>k=b) w w':=by
 obtain ⟨D,h1,h2,h3⟩:=h
 obtain ⟨w',hrun,r1,r2⟩:=h1.update (val:=v) lawTh ht hn (keyTh hr) (d:=.held v) (ps:=[]) (show heldR v=some (.held v,[]) from rfl)
 refine ⟨w',hrun,⟨_,r1,fun u hu=>?_,fun u hu=>?_⟩,But.of_grown r2 (fun k e=>(Option.some.inj e).symm)⟩
 ·by_cases hy:u=t
  ·subst hy;rw [Maps.atKey_put_same h1.isMap (Th.lit _),setT_same];rfl
  ·rw [Maps.atKey_put_other (fun c=>hy (Th.inj hu hr c)),setT_other f _ hy,h2 u hu]
 ·by_cases hy:u=t
  ·subst hy;rw [Maps.has_put_same h1.isMap (Th.lit _),setT_same];rfl
  ·rw [Maps.has_put_other (fun c=>hy (Th.inj hu hr c)),setT_other f _ hy,h3 u hu]
end
end Go.Proofs.YthgelfdefkbfeaaGreatDoor
namespace Go.Proofs.YthgelfdefkbfeaaGreatDoor
open Go.RowKit Go.Maps
structure Si where
 a:Option Addr
 n:Nat
 c:Nat
abbrev Si.val (s:Si):Value:=.slice s.a s.n s.c
def saS:Lay Si:=⟨fun s=>[.slice s.a s.n s.c],1,by decide,fun _=>rfl,by intro a u hu;simp at hu;subst hu;rfl⟩
abbrev Lbl:=Nat ⊕ Th
abbrev Fam:=Lbl→Option (Si × List Int)
def updF (S:Fam) (l:Lbl) (v:Option (Si × List Int)):Fam:=fun k=>if k=l then v else S k
theorem updF_same (S:Fam) (l:Lbl) (v:Option (Si × List Int)):updF S l v l=v:=if_pos rfl
theorem updF_other (S:Fam) {l k:Lbl} (v:Option (Si × List Int)) (h:k≠l):updF S l v k=S k:=if_neg h
structure FI (w:World) (b:Nat) (S:Fam):Prop where
 own:∀ l s L,S l=some (s,L)→Own sI 3 w b s.val L
 ap:∀ l k s L s' L',S l=some (s,L)→S k=some (s',L')→l≠k→∀ q,s.val.ownBlock=some q→s'.val.ownBlock≠some q
def NoInt (w:World) (T:Nat→Prop):Prop:=∀ q cur,T q→w.heap[q]?≠some (.cells cur 3 (0,0))
section
variable {w w' : World} {b : Nat} {S : Fam} {l : Lbl}
theorem FI.on (h:FI w b S) (hb:Below w.heap.size w w'):FI w' b S:=⟨fun l s L e=>(h.own l s L e).below hb,h.ap⟩
theorem FI.but {T:Nat→Prop} (h:FI w b S) (hb:But T w w') (hT:NoInt w T):FI w' b S :=
 ⟨fun l s L e=>(h.own l s L e).but hb (fun q hq ht=>by
  obtain ⟨cur,hc⟩:=own_ty (h.own l s L e) hq
  exact hT q cur ht hc),h.ap⟩
theorem FI.old (h:FI w b S) {s:Si} {L:List Int} (he:S l=some (s,L)):∀ q,s.val.ownBlock=some q→q < w.heap.size:=fun q hq=>((h.own l s L he).lt q hq).2
theorem FI.grow (h:FI w b S) {v0:Value} {s1:Si} {L1:List Int} (hv0:(∃ s L,S l=some (s,L)∧v0=s.val)∨v0.ownBlock=none) (ho:Own sI 3 w' b s1.val L1) (hg:w.grownBy w' v0.ownBlock) (hs:s1.val.ownBlock=v0.ownBlock∨s1.val.ownBlock=some w.heap.size):FI w' b (updF S l (some (s1,L1))):=by
 have hb:But (fun q=>v0.ownBlock=some q) w w':=(But.refl _ w).grown hg (fun k _ e=>e)
 have far:∀ k s L,k≠l→S k=some (s,L)→∀ q,s.val.ownBlock=some q→v0.ownBlock≠some q:=fun k s L hk he q hq e=>by
  rcases hv0 with ⟨s0,L0,h0,rfl⟩|h0
  ·exact h.ap k l s L s0 L0 he h0 hk q hq e
  ·rw [h0] at e;cases e
 have far1:∀ k s L,k≠l→S k=some (s,L)→∀ q,s.val.ownBlock=some q→s1.val.ownBlock≠some q:=fun k s L hk he q hq e=>by
  rcases hs with h1|h1
  ·exact far k s L hk he q hq (h1 ▸ e)
  ·rw [h1] at e
   have:=h.old he q hq
   have e9:w.heap.size=q:=by simpa using e
   omega
 refine ⟨fun k s L e=>?_,fun k k' s L s' L' e e' hne q hq=>?_⟩
 ·by_cases hk:k=l
  ·subst hk
   rw [updF_same] at e
   cases e
   exact ho
  ·rw [updF_other S _ hk] at e
   exact (h.own k s L e).but hb (fun q hq ht=>far k s L hk e q hq ht)
 ·by_cases hk:k=l
  ·subst hk
   rw [updF_same] at e
   cases e
   rw [updF_other S _ (fun e9=>hne e9.symm)] at e'
   exact fun h9=>far1 k' s' L' (fun e9=>hne e9.symm) e' q h9 hq
  ·rw [updF_other S _ hk] at e
   by_cases hk':k'=l
   ·subst hk'
    rw [updF_same] at e'
    cases e'
    exact far1 k s L hk e q hq
   ·rw [updF_other S _ hk'] at e'
    exact h.ap k k' s L s' L' e e' hne q hq
theorem FI.cut (h:FI w b S) {a:Option Addr} {n c j:Nat} {L:List Int} (he:S l=some (⟨a,n,c⟩,L)) (hj:j≤n):FI w b (updF S l (some (⟨a,j,c⟩,L.take j))):=by
 have ho:=h.own _ _ _ he
 have hn:L.length=n:=by
  obtain ⟨a',c',hv,_⟩:=own_form ho
  have hv:Value.slice a n c=.slice a' L.length c':=hv
  cases hv;rfl
 have ho2:Own sI 3 w b (.slice a j c) (L.take j):=by
  cases a with
  | none =>
   obtain ⟨a',c',hv,h0,_⟩:=own_form ho
   have hv:Value.slice none n c=.slice a' L.length c':=hv
   cases hv
   obtain ⟨h1,h2⟩:=h0 rfl
   have hj0:j=0:=by omega
   subst hj0
   rw [h2]
   exact Own.nil _ _ _ _
  | some ad =>
   rcases ho.2 with ⟨hv,_⟩|⟨g,cap,cur,hv,_⟩
   ·cases hv
   ·cases hv
    exact Own.cut ho hn hj
 have hob:(Value.slice a j c).ownBlock=(Value.slice a n c).ownBlock:=by cases a <;> rfl
 refine ⟨fun k s L' e=>?_,fun k k' s L1 s' L2 e e' hne q hq=>?_⟩
 ·by_cases hk:k=l
  ·subst hk
   rw [updF_same] at e
   cases e
   exact ho2
  ·rw [updF_other S _ hk] at e
   exact h.own k s L' e
 ·by_cases hk:k=l
  ·subst hk
   rw [updF_same] at e
   cases e
   rw [updF_other S _ (fun e9=>hne e9.symm)] at e'
   exact h.ap k k' _ _ _ _ he e' hne q (hob ▸ hq)
  ·rw [updF_other S _ hk] at e
   by_cases hk':k'=l
   ·subst hk'
    rw [updF_same] at e'
    cases e'
    exact fun h9=>h.ap k k' _ _ _ _ e he hne q hq (hob ▸ h9)
   ·rw [updF_other S _ hk'] at e'
    exact h.ap k k' _ _ _ _ e e' hne q hq
end
theorem step_int {ops:Array Oper} {o:Oper} {a:Act} {w:World} {K:Act→World→Prop} {Q:Exit→Act→World→Prop} {E:Prop}
  (hg:o.guard=none) (s x:Operand) (hop:o.op=Op.call { callee:=Callee.builtin Builtin.append,args:=#[s,x],argTypes:=#[34,34] })
  (base:Nat) (v:Value) (L:List Int) (hs:a.eval s=v) (hown:Own sI 3 w base v L)
  (ad:Addr) (m c:Nat) (M:List Int) (hx:a.eval x=.slice (some ad) m c) (hr:TRow sI w (some ad) m M)
  (hb:(L.length+m) * 8≤140737488355328) (hbase:base≤w.heap.size)
  (h:∀ (a':Option Addr) (c':Nat) w',Own sI 3 w' base (.slice a' (L.length+m) c') (L++M)→w.grownBy w' v.ownBlock→((Value.slice a' (L.length+m) c').ownBlock=v.ownBlock∨(Value.slice a' (L.length+m) c').ownBlock=some w.heap.size)→K (a.put o.dst (.slice a' (L.length+m) c')) w') :
  if Region.wanted o (yielded ops a.tmps)=true then Oper.wp Tryz.prog o a w K Q else E:=by
 have hw:Region.wanted o (yielded ops a.tmps)=true:=by simp [Region.wanted,hg]
 rw [if_pos hw]
 obtain ⟨i0,hi,hz0,hz1,hz2⟩:=info_parts sInfoI
 obtain ⟨v',w',hrun,h2,h3,_,h5⟩:=run_append_own_at (P:=Tryz.prog) w base 34 o.type 3 i0 _ 1 8 Tryz.underlying34 hi hz0 hz1 hz2 rfl (by decide) v L.length _ hown ad m c (sI.fl M) (by rw [sI.fl_len,hr.len];rfl) hr.news (sI.fl_cell M) (by unfold maxLen;omega) hb hbase
 have h2':Own sI 3 w' base v' (L++M):=by
  unfold Own
  rw [List.length_append,hr.len,sI.fl_app]
  exact h2
 obtain ⟨a',c',rfl,_,_⟩:=own_form h2'
 rw [List.length_append,hr.len] at h2' h5 hrun
 unfold Oper.wp execOp
 simp only [hop,resolve,invoke,builtin,Sem.run_bind,Sem.run_pure,Result.andThen_ok,List.map_toArray,List.map_cons,List.map_nil,hs,hx,hrun]
 exact h a' c' w' h2' h3 h5
end Go.Proofs.YthgelfdefkbfeaaGreatDoor
namespace Go.Proofs.YthgelfdefkbfeaaGreatDoor
open Go.RowKit Go.Maps
structure Ls where
 N:Nat→List Nat
 ld:Th→Option Nat
 op:Th→List Nat
def Ls.need (M:Ls) (i p:Nat):Ls:=⟨fun j=>if j=i then M.N i++[p] else M.N j,M.ld,M.op⟩
def Ls.lead (M:Ls) (i:Nat) (t:Th):Ls:=⟨M.N,setT M.ld t (some i),M.op⟩
def Ls.follow (M:Ls) (i:Nat) (t:Th):Ls:=match M.ld t with
 | none=>M
 | some p=>M.need i p
def Ls.chain (M:Ls) (i:Nat) (t:Th):Ls:=(M.follow i t).lead i t
def Ls.push (M:Ls) (i:Nat) (t:Th):Ls:=⟨M.N,M.ld,fun u=>if u=t then M.op t++[i] else M.op u⟩
def Ls.pop (M:Ls) (t:Th):Ls:=⟨M.N,M.ld,fun u=>if u=t then (M.op t).take ((M.op t).length - 1) else M.op u⟩
abbrev nv (p:Nat):Value:=.int .i64 (p:Int)
structure LK (w0 w:World) (n lb nb mb ob km ko K:Nat) (M:Ls) (S:Fam) (ss:List Si):Prop where
 blk:w.heap[lb]?=some (.cells #[.slice (some ⟨nb,0,none⟩) n n,.map (some mb),.map (some ob)] 92 (0,0))
 row:Own saS 34 w w0.heap.size (.slice (some ⟨nb,0,none⟩) n n) ss
 len:ss.length=n
 fam:FI w w0.heap.size S
 sn:∀ i,i < n→∃ s,ss[i]?=some s∧S (.inl i)=some (s,intP (M.N i))
 so:∀ t,(∃ s,S (.inr t)=some (s,intP (M.op t)))∨(S (.inr t)=none∧M.op t=[])
 mL:TM w mb km (.int .i64 0) (fun t=>(M.ld t).map nv)
 mO:TM w ob ko (.slice none 0 0) (fun t=>(S (.inr t)).map fun x=>x.1.val)
 ne:mb≠ob
 gel:w0.heap.size≤lb
 gem:w0.heap.size≤mb
 geo:w0.heap.size≤ob
 kl:km≤K
 ko:ko≤K
 fn:∀ i,(M.N i).length≤K
 fo:∀ t,(M.op t).length≤K
 bel:Below w0.heap.size w0 w
theorem lt_cells {w:World} {b:Nat} {o:Obj} (h:w.heap[b]?=some o):b < w.heap.size:=(Array.getElem?_eq_some_iff.1 h).1
def Kp (w w':World):Prop:=∀ (b:Nat) (cs:Array Value) (T:TypeId),(T=95∨T=43)→w.heap[b]?=some (Obj.cells cs T (0,0))→w'.heap[b]?=some (Obj.cells cs T (0,0))
theorem Kp.trans {a b c:World} (h:Kp a b) (k:Kp b c):Kp a c:=fun q cs T hT e=>k q cs T hT (h q cs T hT e)
theorem Kp.bel {a b:World} (h:Below a.heap.size a b):Kp a b:=fun q cs T hT e=>(h.block q (lt_cells e)).trans e
theorem Kp.but {S:Nat→Prop} {a b:World} (h:But S a b) (hS:∀ (q:Nat) (cs:Array Value) (T:TypeId),S q→(T=95∨T=43)→a.heap[q]?≠some (Obj.cells cs T (0,0))):Kp a b :=
 fun q cs T hT e=>(h.block q (lt_cells e) (fun hq=>hS q cs T hq hT e)).trans e
section
variable {w0 w w' : World} {n lb nb mb ob km ko K i p : Nat} {M : Ls} {S : Fam} {ss : List Si}
theorem LK.on (h:LK w0 w n lb nb mb ob km ko K M S ss) (hb:Below w.heap.size w w'):LK w0 w' n lb nb mb ob km ko K M S ss :=
 ⟨(hb.block _ (lt_cells h.blk)).trans h.blk,h.row.below hb,h.len,h.fam.on hb,h.sn,h.so,h.mL.below hb,h.mO.below hb,h.ne,h.gel,h.gem,h.geo,h.kl,h.ko,h.fn,h.fo,h.bel.trans (hb.mono h.bel.size)⟩
theorem LK.up (h:LK w0 w n lb nb mb ob km ko K M S ss):LK w0 w n lb nb mb ob km ko (K+1) M S ss :=
 ⟨h.blk,h.row,h.len,h.fam,h.sn,h.so,h.mL,h.mO,h.ne,h.gel,h.gem,h.geo,Nat.le_succ_of_le h.kl,Nat.le_succ_of_le h.ko,fun i=>Nat.le_succ_of_le (h.fn i),fun t=>Nat.le_succ_of_le (h.fo t),h.bel⟩
theorem LK.rty (h:LK w0 w n lb nb mb ob km ko K M S ss):∃ cur,w.heap[nb]?=some (.cells cur 34 (0,0)):=own_ty h.row rfl
theorem tm_ne {b k:Nat} {z:Value} {f:Th→Option Value} {q:Nat} {cs:Array Value} {t:TypeId} {fr:Nat × Nat} (h:TM w b k z f) (hq:w.heap[q]?=some (.cells cs t fr)):b≠q:=by
 obtain ⟨D,⟨es,cl,h1,_⟩,_⟩:=h
 intro e
 rw [e,hq] at h1
 cases h1
theorem LK.c0 (h:LK w0 w n lb nb mb ob km ko K M S ss):w.cell? ⟨lb,0,none⟩=some (.slice (some ⟨nb,0,none⟩) n n)∧w.cell? ⟨lb,1,none⟩=some (.map (some mb))∧w.cell? ⟨lb,2,none⟩=some (.map (some ob)):=⟨cell_at h.blk rfl,cell_at h.blk rfl,cell_at h.blk rfl⟩
theorem LK.cn (h:LK w0 w n lb nb mb ob km ko K M S ss) {s:Si} (hs:ss[i]?=some s):w.cell? ⟨nb,i,none⟩=some (.slice s.a s.n s.c):=by
 have h1:=h.row.cell hs 0 rfl
 rw [Nat.add_zero,show i * saS.z=i from Nat.mul_one i] at h1
 exact h1
theorem LK.need (h : LK w0 w n lb nb mb ob km ko K M S ss) (hi : i < n) {s : Si} (hs : ss[i]? = some s) {a' : Option Addr} {m c' : Nat} (ho : Own sI 3 w' w0.heap.size (.slice a' m c') (intP (M.N i) ++ [(p : Int)])) (hg : w.grownBy w' s.val.ownBlock) (hv : (Value.slice a' m c').ownBlock = s.val.ownBlock ∨ (Value.slice a' m c').ownBlock = some w.heap.size) :
    LK w0 (w'.setCell ⟨nb, i, none⟩ (.slice a' m c')) n lb nb mb ob km ko (K + 1) (M.need i p) (updF S (.inl i) (some (⟨a', m, c'⟩, intP (M.N i) ++ [(p : Int)]))) (ss.set i ⟨a', m, c'⟩) := by
  obtain ⟨s', hs', hS⟩ := h.sn i hi
  rw [hs] at hs'
  cases hs'
  have hso := h.fam.own _ _ _ hS
  obtain ⟨cur, hnb⟩ := h.rty
  have hlbn : lb ≠ nb := fun e => by
    have h1 := h.blk
    rw [e, hnb] at h1
    simp at h1
  have b1 : But (fun q => s.val.ownBlock = some q) w w' := (But.refl _ w).grown hg (fun k _ e => e)
  have n1 : s.val.ownBlock ≠ some lb := own_ne_cells hso h.blk (by decide)
  have n2 : s.val.ownBlock ≠ some nb := own_ne_cells hso hnb (by decide)
  have n3 : s.val.ownBlock ≠ some mb := fun e => by
    obtain ⟨c1, h1⟩ := own_ty hso e
    exact tm_ne h.mL h1 rfl
  have n4 : s.val.ownBlock ≠ some ob := fun e => by
    obtain ⟨c1, h1⟩ := own_ty hso e
    exact tm_ne h.mO h1 rfl
  have hnb' : w'.heap[nb]? = some (.cells cur 34 (0, 0)) := (b1.block nb (lt_cells hnb) n2).trans hnb
  have b2 : But (fun q => q = nb) w' (w'.setCell ⟨nb, i, none⟩ (.slice a' m c')) := (But.refl (fun q => q = nb) w').setCell ⟨nb, i, none⟩ (fun _ => rfl) _
  have f1 := h.fam.grow (l := .inl i) (.inl ⟨s, _, hS, rfl⟩) (s1 := ⟨a', m, c'⟩) ho hg hv
  have f2 := f1.but b2 (fun q c1 hq e => by
    have e9 : q = nb := hq
    rw [e9, hnb'] at e
    simp at e)
  have r1 := h.row.but b1 (fun g hg1 e => n2 (by have e9 : nb = g := by simpa [Value.ownBlock] using hg1
                                                 rw [e9]; exact e))
  have r2 := r1.setU (t := 0) (u := .slice a' m c') (a' := ⟨a', m, c'⟩) h.len hs (by decide) rfl
  rw [Nat.add_zero, show i * saS.z = i from Nat.mul_one i] at r2
  have hnn : w0.heap.size ≤ nb := (h.row.lt nb rfl).1
  refine ⟨(b2.block lb (Nat.lt_of_lt_of_le (lt_cells h.blk) b1.size) hlbn).trans ((b1.block lb (lt_cells h.blk) n1).trans h.blk), r2, by rw [List.length_set]; exact h.len, f2, fun j hj => ?_, fun t => ?_, (h.mL.but b1 n3).but b2 (tm_ne h.mL hnb), ?_, h.ne, h.gel, h.gem, h.geo, Nat.le_succ_of_le h.kl, Nat.le_succ_of_le h.ko, fun j => ?_, fun t => Nat.le_succ_of_le (h.fo t), (h.bel.trans (b1.below h.bel.size (fun q e => (hso.lt q e).1))).trans (b2.below (Nat.le_trans h.bel.size b1.size) (fun q e => by have e9 : q = nb := e; rw [e9]; exact hnn))⟩
  · by_cases hji : j = i
    · subst hji
      refine ⟨⟨a', m, c'⟩, List.getElem?_set_self (by rw [h.len]; exact hj), ?_⟩
      rw [updF_same]
      show _ = some (_, intP (if j = j then M.N j ++ [p] else M.N j))
      rw [if_pos rfl, intP_snoc]
    · obtain ⟨s2, h2, h3⟩ := h.sn j hj
      refine ⟨s2, by rw [List.getElem?_set_ne (fun e => hji e.symm)]; exact h2, ?_⟩
      rw [updF_other S _ (fun e => hji (by injection e))]
      show _ = some (_, intP (if j = i then M.N i ++ [p] else M.N j))
      rw [if_neg hji]
      exact h3
  · rw [updF_other S _ (fun e => by cases e)]
    exact h.so t
  · have h9 : (fun t => (updF S (.inl i) (some (⟨a', m, c'⟩, intP (M.N i) ++ [(p : Int)])) (.inr t)).map fun x => x.1.val) = fun t => (S (.inr t)).map fun x => x.1.val := by
      funext t
      rw [updF_other S _ (fun e => by cases e)]
    rw [h9]
    exact (h.mO.but b1 n4).but b2 (tm_ne h.mO hnb)
  · show (if j = i then M.N i ++ [p] else M.N j).length ≤ K + 1
    split
    · rw [List.length_append]; have := h.fn i; show (M.N i).length + 1 ≤ K + 1; omega
    · exact Nat.le_succ_of_le (h.fn j)
theorem LK.post (h:LK w0 w n lb nb mb ob km ko K M S ss) (hi:i < n) {s:Si} (hs:ss[i]?=some s) {a':Option Addr} {m c':Nat} (ho:Own sI 3 w' w0.heap.size (.slice a' m c') (intP (M.N i)++[(p:Int)])) (hg:w.grownBy w' s.val.ownBlock) (hv:(Value.slice a' m c').ownBlock=s.val.ownBlock∨(Value.slice a' m c').ownBlock=some w.heap.size) :
  (w'.cell? ⟨lb,0,none⟩=some (.slice (some ⟨nb,0,none⟩) n n)∧w'.cell? ⟨nb,i,none⟩=some (.slice s.a s.n s.c)∧w'.frozen? ⟨nb,i,none⟩=false∧lb < w'.heap.size∧nb < w'.heap.size) ∧
  Kp w (w'.setCell ⟨nb,i,none⟩ (.slice a' m c'))∧∃ S' ss',LK w0 (w'.setCell ⟨nb,i,none⟩ (.slice a' m c')) n lb nb mb ob km ko (K+1) (M.need i p) S' ss':=by
 refine ⟨?_,?_,_,_,h.need hi hs ho hg hv⟩
 rotate_left
 ·obtain ⟨s',hs',hS⟩:=h.sn i hi
  rw [hs] at hs'
  cases hs'
  have hso:=h.fam.own _ _ _ hS
  obtain ⟨cur,hnb⟩:=h.rty
  have b1:But (fun q=>s.val.ownBlock=some q) w w':=(But.refl _ w).grown hg (fun k _ e=>e)
  have n2:s.val.ownBlock≠some nb:=own_ne_cells hso hnb (by decide)
  have hnb':=(b1.block nb (lt_cells hnb) n2).trans hnb
  have b2:But (fun q=>q=nb) w' (w'.setCell ⟨nb,i,none⟩ (.slice a' m c')):=(But.refl (fun q=>q=nb) w').setCell ⟨nb,i,none⟩ (fun _=>rfl) _
  refine (Kp.but b1 fun q cs T hq hT e=>?_).trans (Kp.but b2 fun q cs T hq hT e=>?_)
  ·obtain ⟨c1,h1⟩:=own_ty hso hq
   rw [h1] at e
   simp at e
   obtain ⟨_,e9⟩:=e
   rcases hT with rfl|rfl <;> exact absurd e9 (by decide)
  ·have e9:q=nb:=hq
   rw [e9,hnb'] at e
   simp at e
   obtain ⟨_,e8⟩:=e
   rcases hT with rfl|rfl <;> exact absurd e8 (by decide)
 obtain ⟨s',hs',hS⟩:=h.sn i hi
 rw [hs] at hs'
 cases hs'
 have hso:=h.fam.own _ _ _ hS
 obtain ⟨cur,hnb⟩:=h.rty
 have b1:But (fun q=>s.val.ownBlock=some q) w w':=(But.refl _ w).grown hg (fun k _ e=>e)
 have n1:s.val.ownBlock≠some lb:=own_ne_cells hso h.blk (by decide)
 have n2:s.val.ownBlock≠some nb:=own_ne_cells hso hnb (by decide)
 have g1:=(b1.block lb (lt_cells h.blk) n1).trans h.blk
 have g2:=(b1.block nb (lt_cells hnb) n2).trans hnb
 exact ⟨cell_at g1 rfl,cell_but (h.cn hs) b1 n2,frz g2 i,lt_cells g1,lt_cells g2⟩
end
theorem need_any {w0 w:World} {n lb nb mb ob km ko K i p:Nat} {M:Ls} {S:Fam} {ss:List Si} (h:LK w0 w n lb nb mb ob km ko K M S ss) (hi:i < n) (hn:(n:Int)≤9223372036854775806) (hK:K≤1000000000) {x c:Nat} (hr:TRow sI w (some ⟨x,0,none⟩) 1 [(p:Int)]) :
  Calls Tryz.prog 99 #[.pointer (some ⟨lb,0,none⟩),.int .i64 (i:Int),.slice (some ⟨x,0,none⟩) 1 c] w fun r w'=>r=.returned (.tuple #[])∧Kp w w'∧∃ S' ss',LK w0 w' n lb nb mb ob km ko (K+1) (M.need i p) S' ss':=by
 obtain ⟨s,hs,hS⟩:=h.sn i hi
 obtain ⟨c0,_,_⟩:=h.c0
 have c1:=h.cn hs
 have hlt:=lt_cells h.blk
 have hiI:(i:Int) < n:=by omega
 have hi0:(0:Int)≤i:=by omega
 have ho:=h.fam.own _ _ _ hS
 have HO:=hide (ho.below (Below.refl _ _).drew)
 have HR:=hide (hr.below (Below.refl _ _).drew)
 have HLn:Hid (((intP (M.N i)).length+1) * 8≤140737488355328):=hide (by rw [intP_len];have:=h.fn i;omega)
 have HSz:Hid (w0.heap.size≤w.drew.heap.size):=hide h.bel.size
 have HD:Hid (LK w0 w.drew n lb nb mb ob km ko K M S ss):=hide (h.on (Below.refl _ _).drew)
 have HS:=hide hs
 have HI:=hide hi
 clear h hr ho hS hs hi hK
 go_enter Tryz.func99,Tryz.ntmps99
 go_wp2_with fail
 go_region_law (refine step_int rfl (.tmp 17) (.tmp 18) rfl w0.heap.size s.val (intP (M.N i)) (by simp [Act.eval]) HO.out ⟨x,0,none⟩ 1 c [(p:Int)] (by simp [Act.eval]) HR.out HLn.out HSz.out ?_;intro a' c' w' o2 g2 l2;have HX:=hide (HD.out.post HI.out HS.out o2 g2 l2);obtain ⟨x0,x1,x2,xl,xn⟩:=HX.out.1;have HY:=hide HX.out.2;clear o2 g2 l2)
 all_goals
  go_end0
  exact ⟨rfl,(Kp.bel (Below.refl _ _).drew).trans HY.out.1,HY.out.2⟩
end Go.Proofs.YthgelfdefkbfeaaGreatDoor
