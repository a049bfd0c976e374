import Derived.Test.YthgelfdefkbfeaaGreatDoorZu00
import Derived.RangeFuncNested
import Derived.RangeFuncBound
import Derived.RangeFuncCalls
import Derived.RangeFuncLeaves
import Derived.Shelf.Abstract
import Derived.Shelf.RegionOpen
import Derived.OwnWalkIn
import Derived.TacticsInMore
import Derived.LoopNIn
import Derived.LoopIn
import Derived.DeepKeys4
import Derived.Deep.RegionLaw
set_option maxRecDepth 8000
set_option maxHeartbeats 8000000
set_option linter.unusedVariables false
namespace Go.Proofs.YthgelfdefkbfeaaGreatDoor.E6
open Go.RowKit Go.Maps
def internV (L:List ByteArray) (s:ByteArray):Value :=
 if isIn L s then .tuple #[.int .i64 (place L s:Int),.int .i64 0] else if roomy L.length (total L) s.size then .tuple #[.int .i64 (L.length:Int),.int .i64 0] else .tuple #[.int .i64 0,.int .i64 3]
def internL (L:List ByteArray) (s:ByteArray):List ByteArray :=
 if isIn L s then L else if roomy L.length (total L) s.size then L++[s] else L
theorem put_any {w:World} {tb:Nat} {S:Nat→Prop} {L:List ByteArray} {v mv:Value} (h:Tab w tb S L v mv) (s:ByteArray) (hin:isIn L s=false) (hr:roomy L.length (total L) s.size=true) :
  Calls Tryz.prog 126 #[.pointer (some ⟨tb,0,none⟩),.string s] w fun e w'=>e=.returned (.int .i64 L.length)∧(∃ v' mv',Tab w' tb (fun k=>S k∨(w.heap.size≤k∧k < w'.heap.size)) (L++[s]) v' mv')∧But S w w':=by
 have hr':=of_decide_eq_true hr
 rcases h.ids with ⟨rfl,_⟩|⟨mb,D,rfl,_⟩
 ·exact put_nil h s hr'.1 (isIn_not.1 hin) (by omega) (by omega)
 ·exact put_map h s hr'.1 (isIn_not.1 hin) (by omega) (by omega)
theorem intern_any {w : World} {tb : Nat} {S : Nat → Prop} {L : List ByteArray} {v mv : Value} (h : Tab w tb S L v mv) (s : ByteArray) (hs : s.size ≤ maxLen) :
    Calls Tryz.prog 61 #[.pointer (some ⟨tb, 0, none⟩), .string s] w fun e w' => e = .returned (internV L s) ∧ (∃ v' mv', Tab w' tb (fun k => S k ∨ (w.heap.size ≤ k ∧ k < w'.heap.size)) (internL L s) v' mv') ∧ But S w w' := by
  have c0 := h.cell0
  have c1 := h.cell1
  have c2 := h.cell2
  obtain ⟨a, c, rfl⟩ := own_form h.own
  have hsum : (total L : Int) ≤ 4194304 := by have := h.sum; omega
  have hz : (s.size : Int) ≤ 9223372036854775807 := by have := hs; unfold maxLen at this; omega
  obtain ⟨b, hb⟩ : ∃ b, isIn L s = b := ⟨_, rfl⟩
  have hlook : ∀ (ops : Array Oper) (rest : List Oper) (o : Oper) (A : Act) (Q : Exit → Act → World → Prop) (m x : Operand), o.guard = none → o.op = Op.lookup 108 m x true → A.eval m = mv → A.eval x = .string s →
      wpList Tryz.prog ops Q rest (A.put o.dst (.tuple #[.int .i64 (if isIn L s then (place L s : Int) else 0), .bool b])) w → wpList Tryz.prog ops Q (o :: rest) A w := by
    intro ops rest o A Q m x hg hop hm hx hK
    rcases h.ids with ⟨e, hL⟩ | ⟨mb, D, e, _, hmm, hi⟩
    · refine wpList_plain hg fun K' hK' => ?_
      have hl := Maps.look_nil (w := w) true law9 Tryz.underlying108 (zero3 w) (key9 hs)
      unfold Oper.wp
      simp [execOp, hop, hm, hx, e, hl, Result.andThen]
      refine hK' _ _ ?_
      have e0 : isIn L s = false := by rw [hL]; rfl
      rw [e0] at hK hb
      subst hb
      simpa using hK
    · refine wpList_lookup_own_ok_int w hg m x 108 hop 9 3 .i64 law9 Tryz.underlying108 Tryz.underlying3 (zero3 _) mb L.length D (hm.trans e) hmm _ _ hx (key9 hs) ?_
      intro c hat _
      rw [atKey_ids hi s hat, hi.has s, hb]
      rw [hb] at hK
      exact hK
  have HL : Hid _ := hide hlook
  have H : Hid (Tab w tb S L (.slice a L.length c) mv) := h
  clear hlook h
  have HB : Hid (isIn L s = b) := hb
  cases b
  · have eV : Hid (internV L s = if roomy L.length (total L) s.size then .tuple #[.int .i64 (L.length : Int), .int .i64 0] else .tuple #[.int .i64 0, .int .i64 3]) := hide (by unfold internV; rw [hb]; rfl)
    have eL : Hid (internL L s = if roomy L.length (total L) s.size then L ++ [s] else L) := hide (by unfold internL; rw [hb]; rfl)
    rw [hb] at HL
    clear hb
    have HR := room_any tb L.length c a (total L) s.size w c0 c2 hsum
    obtain ⟨r, hr⟩ : ∃ r, roomy L.length (total L) s.size = r := ⟨_, rfl⟩
    have Hr : Hid (roomy L.length (total L) s.size = r) := hr
    rw [hr] at HR
    have HR' : Hid _ := hide HR
    clear HR hr
    go_enter Tryz.func61, Tryz.ntmps61
    go_wp2_with (first | (at_lookup; refine HL.out _ _ _ _ _ _ _ rfl rfl rfl rfl ?_) | fail)
    refine HR'.out.mono ?_
    rintro e w' ⟨rfl, rfl⟩
    cases r
    · go_wp2
      go_ret2
      refine ⟨by rw [eV.out, Hr.out]; rfl, ⟨.slice a L.length c, mv, ?_⟩, But.refl _ _⟩
      rw [eL.out, Hr.out]
      exact H.out.mono fun k hk => .inl hk
    · go_wp2_with fail
      refine (clone_any s w' (by have := of_decide_eq_true Hr.out; omega)).mono ?_
      rintro e w1 ⟨rfl, hb1⟩
      have H1 : Hid (Tab w1 tb S L (.slice a L.length c) mv) := hide (H.out.kept (T := fun _ => False) (But.of_below hb1) (fun _ _ e => e))
      go_wp2_with fail
      refine (put_any H1.out s HB.out Hr.out).mono ?_
      rintro e w2 ⟨rfl, ⟨v', mv', ht⟩, hb2⟩
      have HT : Hid _ := hide ht
      clear ht
      go_wp2
      go_ret2
      refine ⟨by rw [eV.out, Hr.out]; rfl, ⟨v', mv', ?_⟩, (But.of_below (S := S) hb1).trans hb2 (fun _ _ e => e)⟩
      rw [eL.out, Hr.out]
      refine HT.out.mono fun k hk => hk.imp id fun e => ⟨Nat.le_trans hb1.size e.1, e.2⟩
  · have eV : Hid (internV L s = .tuple #[.int .i64 (place L s : Int), .int .i64 0]) := hide (by unfold internV; rw [hb]; rfl)
    have eL : Hid (internL L s = L) := hide (by unfold internL; rw [hb]; rfl)
    rw [hb] at HL
    clear hb
    go_enter Tryz.func61, Tryz.ntmps61
    go_wp2_with (first | (at_lookup; refine HL.out _ _ _ _ _ _ _ rfl rfl rfl rfl ?_) | go_in)
    go_ret2
    refine ⟨by rw [eV.out]; rfl, ⟨.slice a L.length c, mv, ?_⟩, But.refl _ _⟩
    rw [eL.out]
    exact H.out.mono fun k hk => .inl hk
end Go.Proofs.YthgelfdefkbfeaaGreatDoor.E6
namespace Go.Proofs.YthgelfdefkbfeaaGreatDoor.E6
open Go.RowKit Go.Maps Go.Shelf
attribute [local go_sem] Oper.semAt_some
theorem range_rounds {P:Program} {g:Operand} {ps:Array Tmp} {assign body:Code} {Q:Exit→Act→World→Prop} {a:Act} {w:World} {n:Nat} (h1:1≤n) {gf:Nat} {lb:Array Value}
  (hg:a.eval g=.func (.func gf) #[] lb) (eg:∀ args w,(callFunc gf args).run P w=.ok (.enter gf args) w)
  (encs:Nat→Array Value) (N:Nat) (hps:∀ k,(encs k).size=ps.size) (I:Nat→World→Prop)
  (hI:∀ (k:Nat) (W:World) (o:Loop) (o':Obj),I k W→W.heap[w.heap.size+1]?=some (.loop o)→I k (W.putObj (w.heap.size+1) o'))
  (h0:∀ o:Loop,I 0 ((w.alloc (.deferred (some []))).alloc (.loop o)))
  (hseq:∀ (l:Nat) (J:Nat→World→Prop) (W:World),(∀ k W,J k W→I k W) →
   (∀ k W1,k < N→J k W1→YieldAt Fence.wide (n - 1 - 1) P l (encs k) W1 fun e W'=>e=.returned (.bool true)∧J (k+1) W')→J 0 W →
   CallsIn Fence.wide (n - 1) P gf (#[.func (.yield l) #[] #[]]++lb) W fun e W'=>(∃ v,e=.returned v)∧J N W')
  (a₁:Nat→Act)
  (hassign:∀ (l k:Nat) (W:World) (K:Act→World→Prop),K (a₁ k) W →
   assign.wpIn (Fence.wide.inRound l) (n - 1 - 1) P (Exit.then K (fun _ _ _=>False)) { tmps:=(ps.zip (encs k)).foldl (fun t (p,v)=>t.setIfInBounds p v) a.tmps,defers:=[] } W)
  (hbody:∀ (l k:Nat) (W:World),k < N→I k W→w.heap.size+1 < W.heap.size →
   body.wpIn (Fence.wide.inRound l) (n - 1 - 1) P (fun e _ W'=>e=.normal∧I (k+1) W'∧W'.heap[w.heap.size]?=W.heap[w.heap.size]?∧W'.heap[w.heap.size+1]?=W.heap[w.heap.size+1]?) (a₁ k) W)
  (hdone:∀ W:World,I N W→W.heap[w.heap.size]?=some (.deferred (some []))→Q .normal { a with defers:={ target:=.collected w.heap.size,args:=#[] } :: a.defers } W) :
  (Code.rangeFunc g ps assign body).wpIn Fence.wide n P Q a w:=by
 refine wpIn_rangeFunc fun fn _=>?_
 obtain ⟨B,hB⟩:∃ B,B=w.heap.size:=⟨_,rfl⟩
 obtain ⟨R,hR⟩:∃ R:LoopState→Loop,R=fun st=>{ state:=st,pending:=none,fn,tmps:=a.tmps,params:=ps,assign,body,defers:=B }:=⟨_,rfl⟩
 obtain ⟨V,hV⟩:∃ V,V=(w.alloc (.deferred (some []))).alloc (.loop (R .ready)):=⟨_,rfl⟩
 have v1:V.heap[B+1]?=some (.loop (R .ready)):=by
  have h:=World.alloc_heap_new (w.alloc (.deferred (some []))) (.loop (R .ready))
  rw [World.size_alloc,← hB] at h;rw [hV];exact h
 have v0:V.heap[B]?=some (.deferred (some [])):=by
  rw [hV,hB];exact (Below.heap_alloc _ _ _ (by simp)).trans (World.alloc_heap_new w _)
 rw [← hB] at hI hbody hdone
 let J:Nat→World→Prop:=fun k W=>I k W∧W.heap[B+1]?=some (.loop (R .ready))∧W.heap[B]?=some (.deferred (some []))
 have hS:=hseq (B+1) J V (fun _ _ h=>h.1) ?_ ⟨by rw [hV];exact h0 _,v1,v0⟩
 ·refine ⟨B+1,[{ target:=.collected B,args:=#[] }],V,{ target:=.fn (.func gf) lb,args:=#[.func (.yield (B+1)) #[] #[]] },V,gf,#[.func (.yield (B+1)) #[] #[]]++lb,V,?_,?_,fun _ _=>trivial,?_,fun _=>h1,?_⟩
  ·rw [hV,hR,hB];exact run_enterLoop_outer _ _ _ _ _
  ·simp only [resolve,hg]
   simp [go_sem]
  ·simp [invoke,go_sem,eg]
  ·refine CallsIn.mono hS ?_
   rintro e W ⟨⟨v,rfl⟩,hi,hl,hk⟩
   refine ⟨none,_,?_,hdone _ (hI _ _ _ (.loop { R .ready with state:=.exhausted }) hi hl) ((World.putObj_heap_other (by omega)).trans hk)⟩
   have h:=run_endLoop (P:=P) hl (by rw [hR];simp)
   rw [hR] at h ⊢;exact h
 ·rintro k W hk ⟨hi,hl,hd⟩
  have hlt:=(Array.getElem?_eq_some_iff.1 hl).1
  have hy:=run_yield (P:=P) (args:=encs k) hl (by rw [hR];exact hps k)
  rw [hR] at hy
  refine ⟨fn,_,assign,body,hy,roundIn_of_wpIn trivial (hassign (B+1) k W _ ⟨_,run_beginRound hl (by rw [hR]),?_⟩)⟩
  obtain ⟨U,hU⟩:∃ U,U=W.putObj (B+1) (.loop { R .ready with state:=.busy }):=⟨_,rfl⟩
  rw [← hU]
  have u1:U.heap[B+1]?=some (.loop { R .ready with state:=.busy }):=by rw [hU];exact World.putObj_heap_same hlt
  have u0:U.heap[B]?=some (.deferred (some [])):=by rw [hU];exact (World.putObj_heap_other (by omega)).trans hd
  refine wpIn_mono (hbody (B+1) k U hk (by rw [hU];exact hI _ _ _ _ hi hl) (Array.getElem?_eq_some_iff.1 u1).1) ?_
  rintro e a' W' ⟨rfl,hi',h0',h1'⟩
  have w1:=h1'.trans u1
  have hE:=run_endRound (P:=P) none w1
  refine ⟨_,_,hE,rfl,hI _ _ _ _ hi' w1,?_,(World.putObj_heap_other (by omega)).trans (h0'.trans u0)⟩
  rw [World.putObj_heap_same (Array.getElem?_eq_some_iff.1 w1).1,hR];rfl
theorem backward_in (n:Nat) (a:Option Addr) (len cap:Nat) (w:World) :
  CallsIn Fence.wide n Tryz.prog 60 #[.slice a len cap] w fun e w'=>e=.returned (.func (.func 124) #[] #[.pointer (some ⟨w.heap.size,0,none⟩)])∧w'=w.alloc (.cells #[.slice a len cap] 41):=by
 refine callsIn_of_wp Tryz.func60 rfl trivial ?_ rfl
 simp only [Tryz.ntmps60,List.size_toArray,List.length_cons,List.length_nil,Nat.reduceAdd,Nat.reduceSub,Array.replicate_succ,Array.replicate_zero,List.push_toArray,List.append_toArray,List.nil_append,List.cons_append]
 gi_wp2
 go_ret
 exact ⟨rfl,rfl⟩
set_option maxRecDepth 100000 in
theorem back1_in (n:Nat) (hn:1≤n) (l Bs len cap:Nat) (a:Option Addr) (L:List ByteArray) (hlen:len≤16) (J:Nat→World→Prop)
  (hJ:∀ k W,J k W→W.cell? ⟨Bs,0,none⟩=some (.slice a len cap)∧SRow W a len L)
  (hY:∀ k W,k < len→J k W→YieldAt Fence.wide (n - 1) Tryz.prog l #[.int .i64 ((len - 1 - k:Nat):Int),.string (L.getD (len - 1 - k) ByteArray.empty)] W fun e W'=>e=.returned (.bool true)∧J (k+1) W')
  (W:World) (h0:J 0 W) :
  CallsIn Fence.wide n Tryz.prog 124 #[.func (.yield l) #[] #[],.pointer (some ⟨Bs,0,none⟩)] W fun e W'=>(∃ v,e=.returned v)∧J len W':=by
 have c0:=(hJ _ _ h0).1
 have hl':(len:Int)≤16:=by omega
 have HJ:Hid _:=hide hJ
 have HY:Hid _:=hide hY
 clear hJ hY
 refine callsIn_of_wp Tryz.func124 rfl trivial ?_ rfl
 simp only [Tryz.ntmps124,List.size_toArray,List.length_cons,List.length_nil,Nat.reduceAdd,Nat.reduceSub,Array.replicate_succ,Array.replicate_zero,List.push_toArray,List.append_toArray,List.nil_append,List.cons_append]
 gi_wp2
 gi_loopw [3] (fun i wr=>∃ k:Nat,k≤len∧i=.int .i64 ((len:Int) - 1 - k)∧J k wr)
  (fun i _=>((intOf i)+1).toNat)
 case atStart=>exact ⟨0,Nat.zero_le _,by simp,h0⟩
 case round =>
  obtain ⟨k,hk,rfl,hJs⟩:=hrel
  obtain ⟨hc,hs⟩:=HJ.out _ _ hJs
  by_cases hlt:k < len
  ·obtain ⟨b,off,ha,hcell⟩:=hs.at (i:=len - 1 - k) (by omega)
   subst ha
   obtain ⟨fn,tmps,assign,body,hy,hR⟩:=HY.out _ _ hlt hJs
   obtain ⟨j,hj⟩:∃ j:Nat,j=len - 1 - k:=⟨_,rfl⟩
   have hj':(len:Int) - 1 - k=(j:Int):=by omega
   have hjl:(j:Int) < len:=by omega
   rw [← hj] at hcell hy
   rw [hj']
   have HK:Hid (k < len∧j=len - 1 - k):=hide ⟨hlt,hj⟩
   generalize L.getD j ByteArray.empty=s at hcell hy
   clear hs hlt hj hj' hk c0
   gi_wp2
   refine hR.mono ?_
   rintro e W3 ⟨rfl,hJ3⟩
   gi_wp2
   go_roundw
   case rel=>exact ⟨k+1,by have:=HK.out;omega,by have:=HK.out;congr 1;omega,hJ3⟩
   case measure=>have:=HK.out;simp [intOf]
  ·obtain rfl:k=len:=by omega
   have hneg:(k:Int) - 1 - k=-1:=by omega
   rw [hneg]
   clear hs c0
   gi_wp2
   go_end0
   exact ⟨⟨_,rfl⟩,hJs⟩
end Go.Proofs.YthgelfdefkbfeaaGreatDoor.E6
namespace Go.Proofs.YthgelfdefkbfeaaGreatDoor.E6
open Go.RowKit Go.Maps Go.Shelf
abbrev Nd:=Nat × Nat
def nodeV (n:Nd):Value:=.agg #[.int .i64 n.1,.int .i64 n.2]
def ncells (N:List Nd):List Value:=N.flatMap fun n=>[.int .i64 (n.1:Int),.int .i64 (n.2:Int)]
theorem ncells_snoc (N:List Nd) (n:Nd):ncells (N++[n])=ncells N++[.int .i64 (n.1:Int),.int .i64 (n.2:Int)]:=by simp [ncells]
theorem laidOut:laidOutB Tryz.prog=true:=by kernel_rfl
theorem rowNode:(120:TypeId) < Tryz.prog.types.size:=of_decide_eq_true (by kernel_rfl)
theorem cellsNode:Tryz.prog.cellsOf 120=2:=by kernel_rfl
theorem lawNode:Keyed Tryz.prog 120:=by
 refine Keyed.of_law (deep_law_laid laidOut (m:=2) ?_ rowNode ?_ ?_)
 ·omega
 ·kernel_rfl
 ·rw [Tryz.underlying120]
def nkey (n:Nd):Lit:=.string (keyBytes [.int .i64 n.1,.int .i64 n.2])
theorem typeNode:Tryz.prog.keyType 120=true:=by kernel_rfl
theorem cells3:Tryz.prog.cellsOf 3=1:=by kernel_rfl
theorem litsNode (d:Nat) {a b:Int} (w1:(Lit.int .i64 a).wf=true) (w2:(Lit.int .i64 b).wf=true):Tryz.prog.keyLits (d+2) 120 [.int .i64 a,.int .i64 b]=some [.int .i64 a,.int .i64 b]:=by
 simp [Program.keyLits,Tryz.underlying120,Tryz.underlying3,cellsNode,cells3,w1,w2]
theorem keyNode {n:Nd} (h1:n.1≤1000000000) (h2:n.2≤1000000000):keyOf Tryz.prog 120 (nodeV n)=some (nkey n):=by
 have w1:(Lit.int .i64 (n.1:Int)).wf=true:=WalkArith.wf_i64 (by omega)
 have w2:(Lit.int .i64 (n.2:Int)).wf=true:=WalkArith.wf_i64 (by omega)
 have hf:(nodeV n).formed Tryz.prog 120=true:=by simp [nodeV,Value.formed,Tryz.underlying120,cellsNode]
 have hk:Tryz.prog.keyLits (Tryz.prog.types.size+1) 120 (nodeV n).cells.toList=some [.int .i64 n.1,.int .i64 n.2]:=by
  have hs:Tryz.prog.types.size+1=(Tryz.prog.types.size - 1)+2:=by have:0 < Tryz.prog.types.size:=Nat.lt_of_le_of_lt (Nat.zero_le _) rowNode;omega
  rw [hs]
  exact litsNode _ w1 w2
 unfold keyOf
 rw [Tryz.underlying120,typeNode,hf,hk]
 rfl
theorem nkey_inj {a b:Nd} (ha:a.1≤1000000000∧a.2≤1000000000) (hb:b.1≤1000000000∧b.2≤1000000000) (h:nkey a=nkey b):a=b:=by
 have:=lawNode.inj (keyNode ha.1 ha.2) (by rw [h];exact keyNode hb.1 hb.2)
 simp [nodeV] at this
 exact Prod.ext (by omega) (by omega)
theorem nkey_key (n:Nd):WideAt.IsKeyLit (nkey n):=by simp [nkey,WideAt.IsKeyLit]
def nid (N:List Nd) (n:Nd):Nat:=if n ∈ N then N.idxOf n+1 else 0
theorem nid_get {N:List Nd} {n:Nd} {i:Nat} (hd:N.Nodup) (h:N[i]?=some n):nid N n=i+1:=by
 have hm:=List.mem_of_getElem? h
 have h1:=(List.getElem?_eq_some_iff.1 h).1
 rw [nid,if_pos hm]
 have:=hd.idxOf_getElem i h1
 rw [(List.getElem?_eq_some_iff.1 h).2] at this
 omega
theorem nid_none {N:List Nd} {n:Nd} (h:n ∉ N):nid N n=0:=by rw [nid,if_neg h]
theorem nid_le (N:List Nd) (n:Nd):nid N n≤N.length:=by
 unfold nid;split
 ·rename_i h;have:=List.idxOf_lt_length_iff.2 h;omega
 ·omega
theorem nid_old {N:List Nd} {n m:Nd} (h:m≠n):nid (N++[n]) m=nid N m:=by
 unfold nid
 by_cases hm:m ∈ N
 ·rw [if_pos (by simp [hm]),if_pos hm,List.idxOf_append,if_pos hm]
 ·rw [if_neg (by simp [hm,h]),if_neg hm]
theorem nid_new {N:List Nd} {n:Nd} (h:n ∉ N):nid (N++[n]) n=N.length+1:=by
 unfold nid
 rw [if_pos (by simp),List.idxOf_append,if_neg h];simp
structure Fids (D:DataW Unit) (N:List Nd):Prop where
 isMap:Maps.IsMap D
 num:∀ n:Nd,n.1≤1000000000→n.2≤1000000000→D.atKey (nkey n) (.lit (.int .i64 0))=.lit (.int .i64 (nid N n:Int))
theorem Fids.nil:Fids (.map []) []:=⟨Maps.isMap_empty,fun n _ _=>by rw [Maps.atKey_of_not_has rfl];rfl⟩
theorem Fids.put {D:DataW Unit} {N:List Nd} (h:Fids D N) {n:Nd} (hn:n.1≤1000000000∧n.2≤1000000000) (hs:n ∉ N):Fids (D.put (nkey n) (.lit (.int .i64 ((N.length+1:Nat):Int)))) (N++[n]):=by
 refine ⟨h.isMap.put _ _,fun m h1 h2=>?_⟩
 by_cases e:m=n
 ·subst e;rw [Maps.atKey_put_same h.isMap (nkey_key _),nid_new hs]
 ·rw [Maps.atKey_put_other (fun c=>e (nkey_inj ⟨h1,h2⟩ hn c)),h.num m h1 h2,nid_old e]
structure Frs (w:World) (fb tb:Nat) (S:Nat→Prop) (N:List Nd) (v:Value) (mb:Nat):Prop where
 blk:w.heap[fb]?=some (.cells #[.pointer (some ⟨tb,0,none⟩),v,.map (some mb)] 107 (0,0))
 own:w.ownsRow 0 120 2 v N.length (ncells N)
 ids:∃ D,w.ownsMap Tryz.prog 120 (plainElem Tryz.prog 3) mb N.length D∧Fids D N
 inS:S fb
 mapS:S mb
 rowS:∀ g,v.ownBlock=some g→S g
 len:N.length≤262144
 small:∀ n ∈ N,n.1≤262144∧n.2≤65536
section
variable {w : World} {fb tb : Nat} {S : Nat → Prop} {N : List Nd} {v : Value} {mb : Nat}
theorem Frs.kept {T:Nat→Prop} {w':World} (h:Frs w fb tb S N v mb) (hb:But T w w') (hd:∀ k,S k→¬ T k):Frs w' fb tb S N v mb :=
 ⟨(hb.block fb (Array.getElem?_eq_some_iff.1 h.blk).1 (hd _ h.inS)).trans h.blk,own_but h.own hb fun g e=>hd g (h.rowS g e),
  h.ids.imp fun _ ⟨hm,hi⟩=>⟨map_but hm hb (hd _ h.mapS),hi⟩,h.inS,h.mapS,h.rowS,h.len,h.small⟩
theorem Frs.cell0 (h:Frs w fb tb S N v mb):w.cell? ⟨fb,0,none⟩=some (.pointer (some ⟨tb,0,none⟩)):=by rw [cell_of_row w fb 0 _ 107 (0,0) h.blk];rfl
theorem Frs.cell1 (h:Frs w fb tb S N v mb):w.cell? ⟨fb,1,none⟩=some v:=by rw [cell_of_row w fb 1 _ 107 (0,0) h.blk];rfl
theorem Frs.cell2 (h:Frs w fb tb S N v mb):w.cell? ⟨fb,2,none⟩=some (.map (some mb)):=by rw [cell_of_row w fb 2 _ 107 (0,0) h.blk];rfl
theorem Frs.lt (h:Frs w fb tb S N v mb):fb < w.heap.size:=(Array.getElem?_eq_some_iff.1 h.blk).1
theorem Frs.row_fb (h:Frs w fb tb S N v mb):∀ g,v.ownBlock=some g→g≠fb:=by
 intro g hg e
 rcases h.own.2 with ⟨hv,_⟩|⟨g',cap,cur,hv,hb,hh,_⟩
 ·rw [hv] at hg;simp [Value.ownBlock] at hg
 ·rw [hv] at hg;simp [Value.ownBlock] at hg;subst hg;subst e
  rw [h.blk] at hh;simp at hh
theorem Frs.map_fb (h:Frs w fb tb S N v mb):fb≠mb:=by obtain ⟨D,⟨es,cl,hh,_⟩,_⟩:=h.ids;exact ne_blocks h.blk hh
theorem Frs.row_map (h:Frs w fb tb S N v mb):∀ g,v.ownBlock=some g→g≠mb:=by obtain ⟨D,⟨es,cl,hh,_⟩,_⟩:=h.ids;exact own_map h.own hh
end
theorem new_f (tb:Nat) (w:World) :
  Calls Tryz.prog 40 #[.pointer (some ⟨tb,0,none⟩)] w fun e w'=>e=.returned (.pointer (some ⟨w.heap.size+1,0,none⟩))∧(∃ v mb,Frs w' (w.heap.size+1) tb (fun k=>w.heap.size≤k∧k < w'.heap.size) [] v mb)∧Below w.heap.size w w':=by
 have hmm:=@run_makeMap Tryz.prog
 go_enter Tryz.func40,Tryz.ntmps40
 go_wp2
 go_ret
 refine ⟨by simp,⟨.slice none 0 0,w.heap.size,?_⟩,((Below.refl _ w).alloc (Nat.le_refl _) _).alloc (by simp) _⟩
 have hm:=World.ownsMap_made w Tryz.prog 120 (plainElem (H:=Unit) Tryz.prog 3)
 have hb:But (fun _=>False) (w.alloc (.map #[] 0)) ((w.alloc (.map #[] 0)).alloc (.cells #[.pointer (some ⟨tb,0,none⟩),.slice none 0 0,.map (some w.heap.size)] 107 (0,0))):=(But.refl _ _).alloc _
 refine ⟨?_,World.ownsRow_nil _ _ _ _,⟨_,map_but hm hb (fun e=>e),Fids.nil⟩,by simp,by simp;omega,by simp [Value.ownBlock],by simp,by simp⟩
 have:=heap_alloc_new (w.alloc (.map #[] 0)) (.cells #[.pointer (some ⟨tb,0,none⟩),.slice none 0 0,.map (some w.heap.size)] 107 (0,0))
 rw [World.size_alloc] at this
 exact this
theorem missing_any (fb tb:Nat) (w:World) (h0:w.cell? ⟨fb,0,none⟩=some (.pointer (some ⟨tb,0,none⟩))) :
  Calls Tryz.prog 57 #[.pointer (some ⟨fb,0,none⟩)] w fun e w'=>e=.returned (.bool false)∧w'=w:=by
 go_enter Tryz.func57,Tryz.ntmps57
 go_wp2
 go_ret
 exact ⟨rfl,rfl⟩
end Go.Proofs.YthgelfdefkbfeaaGreatDoor.E6
namespace Go.Proofs.YthgelfdefkbfeaaGreatDoor.E6
open Go.RowKit Go.Maps Go.Shelf
theorem Tryz.infoNode:(Tryz.prog.info? 120).map (fun i=>(i.zero,i.size,i.bytes))=some (some (.agg #[.int .i64 0,.int .i64 0]),2,16):=by kernel_rfl
theorem step_nodes {ops : Array Oper} {o : Oper} {a : Act} {w : World} {K : Act → World → Prop} {Q : Exit → Act → World → Prop} {E : Prop}
    (hg : o.guard = none) (s x : Operand) (hop : o.op = Op.call { callee := Callee.builtin Builtin.append, args := #[s, x], argTypes := #[105, 105] })
    (v : Value) (N : List Nd) (hs : a.eval s = v) (hown : w.ownsRow 0 120 2 v N.length (ncells N))
    (X : Nat) (n : Nd) (hx : a.eval x = .slice (some ⟨X, 0, none⟩) 1 1) (c0 : w.cell? ⟨X, 0, none⟩ = some (.int .i64 (n.1 : Int))) (c1 : w.cell? ⟨X, 1, none⟩ = some (.int .i64 (n.2 : Int)))
    (hb : (N.length : Int) ≤ 4294967296)
    (h : ∀ (a' : Option Addr) (c' : Nat) w', w'.ownsRow 0 120 2 (.slice a' (N.length + 1) c') (N.length + 1) (ncells (N ++ [n])) → w.grownBy w' v.ownBlock → ((Value.slice a' (N.length + 1) c').ownBlock = v.ownBlock ∨ (Value.slice a' (N.length + 1) c').ownBlock = some w.heap.size) → K (a.put o.dst (.slice a' (N.length + 1) c')) w') :
    if Region.wanted o (yielded ops a.tmps) = true then Oper.wp Tryz.prog o a w K Q else E := by
  have hw : Region.wanted o (yielded ops a.tmps) = true := by simp [Region.wanted, hg]
  rw [if_pos hw]
  obtain ⟨i0, hi, hz0, hz1, hz2⟩ := info_parts Tryz.infoNode
  obtain ⟨v', w', hr, h2, h3, _, h5⟩ := run_append_own_at (P := Tryz.prog) w 0 105 o.type 120 i0 _ 2 16 Tryz.underlying105 hi hz0 hz1 hz2 rfl (by decide) v N.length _ hown ⟨X, 0, none⟩ 1 1 [.int .i64 (n.1 : Int), .int .i64 (n.2 : Int)] rfl
    (by intro j u hu
        match j, hu with
        | 0, hu => simp at hu; subst hu; simpa [Addr.add] using c0
        | 1, hu => simp at hu; subst hu; simpa [Addr.add] using c1)
    (by intro u hu; simp at hu; rcases hu with rfl | rfl <;> rfl) (by unfold maxLen; omega) (by omega) (Nat.zero_le _)
  obtain ⟨a', c', rfl⟩ := own_form h2
  unfold Oper.wp execOp
  simp only [hop, resolve, invoke, builtin, Sem.run_bind, Sem.run_pure, Result.andThen_ok, List.map_toArray, List.map_cons, List.map_nil, hs, hx, hr]
  exact h a' c' w' (by rw [ncells_snoc]; exact h2) h3 h5
theorem own_drew {w:World} {base:Nat} {e:TypeId} {size n:Nat} {v:Value} {xs:List Value} (h:w.ownsRow base e size v n xs):w.drew.ownsRow base e size v n xs:=h
theorem put_f_end {w w2 w3:World} {fb tb:Nat} {S:Nat→Prop} {N:List Nd} {v v':Value} {mb:Nat} {n:Nd} {D:DataW Unit} (h:Frs w fb tb S N v mb) (h1:n.1≤262144) (h2:n.2≤65536) (hin:n ∉ N) (hl:N.length < 262144) (hi:Fids D N)
  (o2:w2.ownsRow 0 120 2 v' (N.length+1) (ncells (N++[n]))) (k2:But (fun k=>v.ownBlock=some k) w w2) (hloc:v'.ownBlock=v.ownBlock∨∃ g,v'.ownBlock=some g∧w.heap.size≤g∧g < w2.heap.size)
  (m3:w3.ownsMap Tryz.prog 120 (plainElem Tryz.prog 3) mb (N.length+1) (D.put (nkey n) (.lit (.int .i64 ((N.length+1:Nat):Int))))) (g3:(w2.setCell ⟨fb,1,none⟩ v').grownBy w3 (some mb)) :
  Frs w3 fb tb (fun k=>S k∨(w.heap.size≤k∧k < w3.heap.size)) (N++[n]) v' mb∧But S w w3∧w3.cell? ⟨fb,1,none⟩=some v':=by
 have hsz:w2.heap.size≤w3.heap.size:=by have:=g3.size;simpa [size_set] using this
 have b2:w2.heap[fb]?=some (.cells #[.pointer (some ⟨tb,0,none⟩),v,.map (some mb)] 107 (0,0)):=(k2.block fb h.lt (fun e=>h.row_fb fb e rfl)).trans h.blk
 have b2':(w2.setCell ⟨fb,1,none⟩ v').heap[fb]?=some (.cells #[.pointer (some ⟨tb,0,none⟩),v',.map (some mb)] 107 (0,0)):=heap_setCell_same w2 fb 1 _ 107 _ b2
 have b3:w3.heap[fb]?=some (.cells #[.pointer (some ⟨tb,0,none⟩),v',.map (some mb)] 107 (0,0)):=(g3.block fb (Array.getElem?_eq_some_iff.1 b2').1 (by simpa using h.map_fb)).trans b2'
 have hm3:=m3
 obtain ⟨es,cl,hmb,_⟩:=hm3
 have hnew:∀ g,v'.ownBlock=some g→(S g∨(w.heap.size≤g∧g < w3.heap.size))∧g≠fb∧g≠mb:=by
  intro g hg
  rcases hloc with e|⟨g',e,hge,hlt⟩
  ·rw [e] at hg;exact ⟨.inl (h.rowS g hg),h.row_fb g hg,h.row_map g hg⟩
  ·rw [e] at hg;cases hg
   have hml:mb < w.heap.size:=by obtain ⟨D,⟨es,cl,hh,_⟩,_⟩:=h.ids;exact (Array.getElem?_eq_some_iff.1 hh).1
   exact ⟨.inr ⟨hge,by omega⟩,by have:=h.lt;omega,by omega⟩
 have o3:w3.ownsRow 0 120 2 v' (N.length+1) (ncells (N++[n])):=by
  refine own_but (S:=fun k=>k=fb∨k=mb) o2 ?_ (fun g e=>by have:=hnew g e;rintro (rfl|rfl) <;> simp_all)
  exact ((But.refl (fun k=>k=fb∨k=mb) w2).setCell ⟨fb,1,none⟩ (fun _=>.inl rfl) _).grown g3 (by intro k _ e;cases e;exact .inr rfl)
 refine ⟨⟨b3,by simpa using o3,⟨_,by simpa using m3,hi.put ⟨by omega,by omega⟩ hin⟩,.inl h.inS,.inl h.mapS,fun g e=>(hnew g e).1,by simp;omega,?_⟩,?_,?_⟩
 ·intro m hm
  rcases List.mem_append.1 hm with hm|hm
  ·exact h.small m hm
  ·simp at hm;subst hm;exact ⟨h1,h2⟩
 ·refine ((k2.mono (T:=S) (fun k e=>h.rowS k e)).setCell ⟨fb,1,none⟩ (fun _=>h.inS) _).grown g3 ?_
  intro k _ e;cases e;exact h.mapS
 ·rw [cell_of_row w3 fb 1 _ 107 (0,0) b3];rfl
theorem own_lt {w:World} {base n:Nat} {e:TypeId} {size:Nat} {v:Value} {xs:List Value} (h:w.ownsRow base e size v n xs):∀ g,v.ownBlock=some g→g < w.heap.size:=by
 intro g hg
 rcases h.2 with ⟨hv,_⟩|⟨g',cap,cur,hv,hb,hh,_⟩
 ·rw [hv] at hg;simp [Value.ownBlock] at hg
 ·rw [hv] at hg;simp [Value.ownBlock] at hg;subst hg;exact (Array.getElem?_eq_some_iff.1 hh).1
theorem put_f {w : World} {fb tb : Nat} {S : Nat → Prop} {N : List Nd} {v : Value} {mb : Nat} (h : Frs w fb tb S N v mb) (n : Nd) (h1 : n.1 ≤ 262144) (h2 : n.2 ≤ 65536) (hin : n ∉ N) (hl : N.length < 262144) :
    Calls Tryz.prog 62 #[.pointer (some ⟨fb, 0, none⟩), nodeV n] w fun e w' => e = .returned (.int .i64 ((N.length + 1 : Nat) : Int)) ∧ (∃ v', Frs w' fb tb (fun k => S k ∨ (w.heap.size ≤ k ∧ k < w'.heap.size)) (N ++ [n]) v' mb) ∧ But S w w' := by
  have c1 := h.cell1
  have c2 := h.cell2
  obtain ⟨a, c, rfl⟩ := own_form h.own
  have H : Hid (Frs w fb tb S N (.slice a N.length c) mb) := h
  have hl' : (N.length : Int) < 262144 := by omega
  have HL : Hid (N.length < 262144) := hl
  have H1 : Hid (n.1 ≤ 262144 ∧ n.2 ≤ 65536) := ⟨h1, h2⟩
  have hfb := h.lt
  obtain ⟨D, hm, hi⟩ := h.ids
  have HI : Hid (Fids D N) := hi
  have hml : mb < w.heap.size := by obtain ⟨es, cl, hh, _⟩ := hm; exact (Array.getElem?_eq_some_iff.1 hh).1
  have hnode : Hid (∃ node : Obj, node = .cells #[.int .i64 (n.1 : Int), .int .i64 (n.2 : Int)] 120 (0, 0)) := ⟨_, rfl⟩
  have oA : Hid (((w.alloc (.cells #[.int .i64 (n.1 : Int), .int .i64 (n.2 : Int)] 120)).alloc (.cells #[.int .i64 (n.1 : Int), .int .i64 (n.2 : Int)] 120)).drew.ownsRow 0 120 2 (.slice a N.length c) N.length (ncells N)) := own_drew ((h.own.alloc _).alloc _)
  have kA : Hid (But (fun k => (Value.slice a N.length c).ownBlock = some k) w ((w.alloc (.cells #[.int .i64 (n.1 : Int), .int .i64 (n.2 : Int)] 120)).alloc (.cells #[.int .i64 (n.1 : Int), .int .i64 (n.2 : Int)] 120)).drew) := (((But.refl _ w).alloc _).alloc _).drew
  have sA : Hid (((w.alloc (.cells #[.int .i64 (n.1 : Int), .int .i64 (n.2 : Int)] 120)).alloc (.cells #[.int .i64 (n.1 : Int), .int .i64 (n.2 : Int)] 120)).drew.heap.size = w.heap.size + 2) := hide (by simp)
  have hrow := heap_alloc_new (w.alloc (.cells #[.int .i64 (n.1 : Int), .int .i64 (n.2 : Int)] 120)) (.cells #[.int .i64 (n.1 : Int), .int .i64 (n.2 : Int)] 120 (0, 0))
  rw [World.size_alloc] at hrow
  have x0 : Hid (((w.alloc (.cells #[.int .i64 (n.1 : Int), .int .i64 (n.2 : Int)] 120)).alloc (.cells #[.int .i64 (n.1 : Int), .int .i64 (n.2 : Int)] 120)).drew.cell? ⟨w.heap.size + 1, 0, none⟩ = some (.int .i64 (n.1 : Int))) := hide (by
    have := cell_of_row _ (w.heap.size + 1) 0 _ 120 (0, 0) hrow; exact this)
  have x1 : Hid (((w.alloc (.cells #[.int .i64 (n.1 : Int), .int .i64 (n.2 : Int)] 120)).alloc (.cells #[.int .i64 (n.1 : Int), .int .i64 (n.2 : Int)] 120)).drew.cell? ⟨w.heap.size + 1, 1, none⟩ = some (.int .i64 (n.2 : Int))) := hide (by
    have := cell_of_row _ (w.heap.size + 1) 1 _ 120 (0, 0) hrow; exact this)
  have r0 : Hid (((w.alloc (.cells #[.int .i64 (n.1 : Int), .int .i64 (n.2 : Int)] 120)).alloc (.cells #[.int .i64 (n.1 : Int), .int .i64 (n.2 : Int)] 120)).drew.heap[w.heap.size]? = some (.cells #[.int .i64 (n.1 : Int), .int .i64 (n.2 : Int)] 120 (0, 0))) := hide ((Below.heap_alloc _ _ _ (by simp)).trans (heap_alloc_new w _))
  have HM : Hid (w.ownsMap Tryz.prog 120 (plainElem Tryz.prog 3) mb N.length D) := hm
  have HN : Hid (n ∉ N) := hin
  clear h hrow hi hm hl hin hnode h1 h2
  unfold nodeV
  go_enter Tryz.func62, Tryz.ntmps62
  go_wp2
  go_region_law (refine step_nodes rfl (.tmp 9) (.tmp 11) rfl (.slice a N.length c) N (by simp [Act.eval]) oA.out (w.heap.size + 1) n (by simp [Act.eval]) x0.out x1.out (by omega) ?_
                 intro a' c' w2 o2 g2 hloc
                 have k2 : Hid (But (fun k => (Value.slice a N.length c).ownBlock = some k) w w2) := hide (kA.out.grown g2 (fun k _ e => e))
                 have hb2 : Hid (w2.heap[fb]? = some (.cells #[.pointer (some ⟨tb, 0, none⟩), .slice a N.length c, .map (some mb)] 107 (0, 0))) := hide ((k2.out.block fb hfb (fun e => H.out.row_fb fb e rfl)).trans H.out.blk)
                 have d1 : w2.cell? ⟨fb, 1, none⟩ = some (.slice a N.length c) := by rw [cell_of_row w2 fb 1 _ 107 (0, 0) hb2.out]; rfl
                 have d2 : w2.cell? ⟨fb, 2, none⟩ = some (.map (some mb)) := by rw [cell_of_row w2 fb 2 _ 107 (0, 0) hb2.out]; rfl
                 have f2 : ∀ j, w2.frozen? ⟨fb, j, none⟩ = false := fun j => frozen_of_row w2 fb j _ 107 hb2.out
                 have hr2 : Hid (w2.heap[w.heap.size]? = some (.cells #[.int .i64 (n.1 : Int), .int .i64 (n.2 : Int)] 120 (0, 0))) := hide ((g2.block _ (Array.getElem?_eq_some_iff.1 r0.out).1 (fun e => by have := own_lt H.out.own _ e.symm; omega)).trans r0.out)
                 have y0 : w2.cell? ⟨w.heap.size, 0, none⟩ = some (.int .i64 (n.1 : Int)) := by rw [cell_of_row w2 w.heap.size 0 _ 120 (0, 0) hr2.out]; rfl
                 have y1 : w2.cell? ⟨w.heap.size, 1, none⟩ = some (.int .i64 (n.2 : Int)) := by rw [cell_of_row w2 w.heap.size 1 _ 120 (0, 0) hr2.out]; rfl
                 have O2 : Hid _ := hide o2
                 have HLo : Hid ((Value.slice a' (N.length + 1) c').ownBlock = (Value.slice a N.length c).ownBlock ∨ ∃ g, (Value.slice a' (N.length + 1) c').ownBlock = some g ∧ w.heap.size ≤ g ∧ g < w2.heap.size) := hide (by
                   rcases hloc with e | e
                   · exact .inl e
                   · rw [sA.out] at e
                     refine .inr ⟨_, e, by omega, ?_⟩
                     rcases o2.2 with ⟨hv, _⟩ | ⟨g', cap, cur, hv, hb, hh, _⟩
                     · rw [hv] at e; simp [Value.ownBlock] at e
                     · rw [hv] at e; simp [Value.ownBlock] at e; rw [← e]; exact (Array.getElem?_eq_some_iff.1 hh).1)
                 clear o2 g2 hloc)
  all_goals
    have hmap2 : w2.ownsMap Tryz.prog 120 (plainElem Tryz.prog 3) mb N.length D := map_but HM.out k2.out (fun e => H.out.row_map mb e rfl)
    have hmap3 : (w2.setCell ⟨fb, 1, none⟩ (.slice a' (N.length + 1) c')).drew.ownsMap Tryz.prog 120 (plainElem Tryz.prog 3) mb N.length D :=
      map_but (S := fun k => k = fb) hmap2 (((But.refl (fun k => k = fb) w2).setCell ⟨fb, 1, none⟩ (fun _ => rfl) _).drew) (fun e => H.out.map_fb e.symm)
    obtain ⟨w3, hrun, m3, g3⟩ := hmap3.update lawNode Tryz.underlying104 (by unfold maxLen; omega) (keyNode (n := n) (by have := H1.out; omega) (by have := H1.out; omega)) (plainElem_int Tryz.underlying3 (a := ((N.length + 1 : Nat) : Int)) (WalkArith.wf_i64 (by omega)))
    have E := put_f_end H.out H1.out.1 H1.out.2 HN.out HL.out HI.out O2.out k2.out HLo.out m3 ⟨g3.os, g3.tape, g3.output, g3.size, g3.block⟩
    have d3 := E.2.2
    have E1 : Hid _ := hide E.1
    have E2 : Hid _ := hide E.2.1
    rw [show ((N.length + 1 : Nat) : Int) = (N.length : Int) + 1 from rfl] at hrun
    unfold nodeV at hrun
    clear E m3 g3 hmap2 hmap3
    go_wp2
    go_region
    all_goals
      go_wp2
      go_ret
      exact ⟨rfl, ⟨_, E1.out⟩, E2.out⟩
end Go.Proofs.YthgelfdefkbfeaaGreatDoor.E6
