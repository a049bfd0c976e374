import Derived.Test.YtimgkhdgliojgaaGreatDoorOg35
import Derived.ProofKit
import Derived.OpenShut
import Derived.SizedLaws
import Derived.SliceStrings
import Derived.Deep.Slices
import Derived.Test.YtimgkhdgliojgaaGreatDoorOg33
import Derived.LaidMore
import Derived.Stop.Joined
set_option maxRecDepth 8000
set_option maxHeartbeats 8000000
set_option linter.unusedVariables false
namespace Go.Proofs.YtimgkhdgliojgaaGreatDoor.E6
open Go.ChangeShapes Go.WideShapes Go.ChangeAt Go.RowKit
theorem add_at (b off i:Nat):(⟨b,off,none⟩:Addr).add i=⟨b,off+i,none⟩:=by unfold Addr.add;split <;> simp_all
theorem bytes9:Tryz.prog.bytesOf 9=16:=by kernel_rfl
theorem weights_all {H:Type} {P:Program} {e:TypeId} {d:DataW H} {n:Nat}:∀ {l:List (DataW H)},d ∈ l→n ∈ d.weights P e→n ∈ DataW.weightsAll P e l
 | [],h,_=>by cases h
 | x :: r,h,hn=>by
  rw [DataW.weightsAll,List.mem_append]
  rcases List.mem_cons.1 h with rfl|h
  ·exact .inl hn
  ·exact .inr (weights_all h hn)
theorem open_strs_in {H:Type} {enc:TypeId × Value→H} {W:World} {v:Value} {fuel:Nat} {d:DataW H} {p:List MemPlace}
  (hf:DataW.trod enc Tryz.prog W 0 (fun _=>true) true fuel 33 [v]=some (d,p)) (hw:∀ n ∈ d.weights Tryz.prog 33,n≤reachBytes) :
  ∃ (z:List ByteArray) (ai:Option Addr) (ci:Nat),v=.slice ai z.length ci∧SRow W ai z.length z∧z.length≤ci∧z.length≤8796093021952∧(∀ s ∈ z,s.size≤maxLen)∧(ai=none→z.length=0∧ci=0):=by
 rcases open_strings Tryz.underlying33 Tryz.underlying9 (by kernel_rfl) hf with ⟨hcs,_⟩|⟨x,l,c,zs,hcs,_,hl,hm,hz,hx,hcell,hwz⟩
 ·simp at hcs
  subst hcs
  exact ⟨[],none,0,rfl,⟨rfl,.inl rfl⟩,Nat.le_refl _,by simp,by simp,fun _=>⟨rfl,rfl⟩⟩
 ·simp at hcs
  subst hcs
  simp only [Prod.mk.injEq] at hx
  have hz':zs.length=c:=by simpa using hz
  have hs:=hw (((strs (zs.take l):List (DataW H)).length+(strs (zs.drop l):List (DataW H)).length) * Tryz.prog.bytesOf 9) (by rw [hx.1];simp [DataW.weights,Tryz.underlying33])
  rw [bytes9] at hs
  simp only [strs,List.length_map,List.length_take,List.length_drop,reachBytes] at hs
  have hlen:(zs.take l).length=l:=by rw [List.length_take];omega
  refine ⟨zs.take l,some x,c,by rw [hlen],?_,by omega,by omega,fun s hs=>hwz s (List.mem_of_mem_take hs),fun h=>(by cases h)⟩
  rw [hlen]
  refine ⟨hlen,?_⟩
  by_cases h0:l=0
  ·exact .inl h0
  ·right
   obtain ⟨b,off,sp⟩:=x
   have h1:=hcell 0 (by omega)
   have hsp:sp=none:=by simpa [Addr.add] using World.cell?_spot h1
   subst hsp
   refine ⟨b,off,rfl,fun i hi=>?_⟩
   have:=hcell i (by omega)
   rw [add_at] at this
   rw [this]
   congr 2
   rw [List.getD_eq_getElem?_getD,List.getD_eq_getElem?_getD,List.getElem?_take_of_lt hi]
instance:Inhabited Ev:=⟨⟨0,0,0,0,none,0,[]⟩⟩
theorem ocells3:Tryz.prog.cellsOf 3=1:=by kernel_rfl
theorem ocellsU:Tryz.prog.cellsOf 32=1:=by kernel_rfl
theorem ocellsS:Tryz.prog.cellsOf 33=1:=by kernel_rfl
theorem ocellsE:Tryz.prog.cellsOf 35=5:=by kernel_rfl
theorem obytesE:Tryz.prog.bytesOf 35=56:=by kernel_rfl
theorem u64_bd {a:Int} (h:(Lit.int .u64 a).wf=true):0≤a∧a≤18446744073709551615:=by
 have hw:IntKind.u64.min≤a∧a≤IntKind.u64.max:=by simpa [Lit.wf] using h
 have e1:IntKind.u64.min=0:=by decide
 have e2:IntKind.u64.max=18446744073709551615:=by decide
 rw [e1,e2] at hw
 exact hw
theorem ofive {α:Type} {l:List α} (h:l.length=5):∃ a b c d e,l=[a,b,c,d,e]:=by
 match l,h with
 | [a,b,c,d,e],_=>exact ⟨a,b,c,d,e,rfl⟩
theorem open_ev_in {H:Type} {enc:TypeId × Value→H} {W:World} {cs:List Value} {fuel:Nat} {d:DataW H} {p:List MemPlace}
  (hf:DataW.trod enc Tryz.prog W 0 (fun _=>true) true fuel 35 cs=some (d,p)) (hw:∀ n ∈ d.weights Tryz.prog 35,n≤reachBytes) :
  ∃ e:Ev,cs=ecell e∧e.ok∧e.at W:=by
 obtain ⟨xs,k,_,hxd,hlen,hxs,hfs⟩:=DataW.trod_struct Tryz.underlying35 hf
 rw [ocellsE] at hlen
 have g0:=hfs 0 _ rfl
 have g1:=hfs 1 _ rfl
 have g2:=hfs 2 _ rfl
 have g3:=hfs 3 _ rfl
 have g4:=hfs 4 _ rfl
 obtain ⟨y0,y1,y2,y3,y4,rfl⟩:=ofive hxs
 obtain ⟨v0,v1,v2,v3,v4,rfl⟩:=ofive hlen
 simp [ocells3,ocellsU,ocellsS] at g0 g1 g2 g3 g4
 obtain ⟨g,e0,_,_⟩:=DataW.trod_int Tryz.underlying3 g0
 obtain ⟨k',e1,_,_⟩:=DataW.trod_int Tryz.underlying3 g1
 obtain ⟨o,e2,_,w2⟩:=DataW.trod_int Tryz.underlying32 g2
 obtain ⟨a,e3,_,w3⟩:=DataW.trod_int Tryz.underlying32 g3
 obtain ⟨z,ai,ci,e4,hs,hzc,hzl,hz,hnil⟩:=open_strs_in g4 (fun n hn=>hw n (by
  rw [(Prod.mk.inj hxd).1]
  simp [DataW.weights,Tryz.underlying35,DataW.weightsEach,hn]))
 simp at e0 e1 e2 e3
 subst e0 e1 e2 e3 e4
 exact ⟨⟨g,k',o,a,ai,ci,z⟩,rfl,⟨u64_bd w2,u64_bd w3,hzl,hz,hzc,hnil⟩,hs⟩
set_option maxRecDepth 20000 in
theorem open_evs {H:Type} {enc:TypeId × Value→H} {W:World} {a:Option Addr} {len cap:Nat} {d:DataW H} {p:List MemPlace} {ts:List TypeId} {ds:List (DataW H)} {j:Nat}
  (h:DataW.Trod enc Tryz.prog W 0 (fun _=>true) true 22 (.slice a len cap) d p)
  (hsz:(DataW.weightsEach Tryz.prog ts ds).all (·≤reachBytes)=true) (ht:ts[j]?=some 22) (hd:ds[j]?=some d) :
  ∃ es,ERow W a len es∧(∀ e ∈ es,e.ok)∧len * 56≤140737488355328∧len≤cap∧(a=none→len=0∧cap=0):=by
 obtain ⟨fuel,hf⟩:=h
 rcases Deep.open_slice Tryz.underlying22 hf with ⟨hcs,_⟩|⟨x,l,c,m,n,D,Pl,hcs,_,hl,hm,hmm,hx,hel⟩
 ·simp [Value.cells] at hcs
  obtain ⟨rfl,rfl,rfl⟩:=hcs
  exact ⟨[],⟨rfl,.inl rfl⟩,by simp,by omega,by omega,fun _=>⟨rfl,rfl⟩⟩
 ·simp [Value.cells] at hcs
  obtain ⟨rfl,rfl,rfl⟩:=hcs
  simp only [Prod.mk.injEq] at hx
  have hm':m=cap:=by simpa using hmm
  subst hm'
  have hall:∀ n ∈ d.weights Tryz.prog 22,n≤reachBytes:=fun n hn=>by
   have:=List.all_eq_true.1 hsz _ (DataW.weights_mem_each ht hd n hn)
   simpa using this
  rw [hx.1] at hall
  have hlen:=hall (((List.range len).map D).length+((List.range (m - len)).map fun j=>D (len+j)).length |> (· * Tryz.prog.bytesOf 35)) (by simp [DataW.weights,Tryz.underlying22])
  rw [obytesE] at hlen
  simp only [List.length_map,List.length_range,reachBytes] at hlen
  have each:∀ i,i < len→∃ q:Ev,q.ok∧q.at W∧∀ t,t < 5→W.cell? (x.add (i * 5+t))=(ecell q)[t]?:=by
   intro i hi
   obtain ⟨cs',h1,h2⟩:=hel i (by omega)
   rw [ocellsE] at h1
   obtain ⟨_,hl5,hcell⟩:=World.cells?_some h1
   obtain ⟨q,e1,e2,e3⟩:=open_ev_in h2 (fun n hn=>hall n (by
    simp only [DataW.weights,Tryz.underlying22,List.mem_cons,List.mem_append]
    exact .inr (.inl (weights_all (List.mem_map.2 ⟨i,List.mem_range.2 hi,rfl⟩) hn))))
   refine ⟨q,e2,e3,fun t ht5=>?_⟩
   have:=hcell t (by omega)
   rw [Deep.add_add] at this
   rw [this,e1]
  obtain ⟨f,hch⟩:=Deep.choose_lt each
  have hget:∀ i e,((List.range len).map f)[i]?=some e→i < len∧f i=e:=by
   intro i e he
   have hi:i < len:=by have:=(List.getElem?_eq_some_iff.1 he).1;simpa using this
   exact ⟨hi,by simpa [hi] using he⟩
  refine ⟨(List.range len).map f,⟨by simp,?_⟩,?_,by omega,by omega,fun h=>by cases h⟩
  ·by_cases h0:len=0
   ·exact .inl h0
   ·right
    obtain ⟨b,off,sp⟩:=x
    have h1:=(hch 0 (by omega)).2.2 0 (by omega)
    have hsp:sp=none:=by
     have:(ecell (f 0))[0]?=some (.int .i64 (f 0).g):=rfl
     rw [this] at h1
     simpa [Addr.add] using World.cell?_spot h1
    subst hsp
    refine ⟨b,off,rfl,fun i e he=>?_⟩
    obtain ⟨hi,rfl⟩:=hget i e he
    obtain ⟨_,hat,hc⟩:=hch i hi
    have hc':∀ t,t < 5→W.cell? ⟨b,off+i * 5+t,none⟩=(ecell (f i))[t]?:=fun t ht5=>by
     have:=hc t ht5
     rw [add_at,← Nat.add_assoc] at this
     exact this
    exact ⟨hc' 0 (by omega),hc' 1 (by omega),hc' 2 (by omega),hc' 3 (by omega),hc' 4 (by omega),hat⟩
  ·intro e he
   obtain ⟨i,hi,rfl⟩:=List.mem_map.1 he
   exact (hch i (List.mem_range.1 hi)).1
end Go.Proofs.YtimgkhdgliojgaaGreatDoor.E6
namespace Go.Proofs.YtimgkhdgliojgaaGreatDoor.E6
open Go.ChangeShapes Go.WideShapes Go.ChangeAt Go.RowKit
theorem kcellsT:Tryz.prog.cellsOf 210=2:=by kernel_rfl
theorem kcells9:Tryz.prog.cellsOf 9=1:=by kernel_rfl
theorem kcells3:Tryz.prog.cellsOf 3=1:=by kernel_rfl
theorem kinds_data {H:Type}:(Rows.laid_hindsight_event_kinds:DataW H)=.agg ((List.range 23).map fun k=>.agg [.lit (.string (kname k).data.toList),.lit (.int .i64 (ksort k:Int))]):=rfl
theorem two_of {α:Type} {l:List α} (h:l.length=2):∃ a b,l=[a,b]:=by
 match l,h with
 | [a,b],_=>exact ⟨a,b,rfl⟩
theorem drop_two {α:Type} {l:List α} {i:Nat} {a b:α} (h:(l.drop i).take 2=[a,b]):l[i]?=some a∧l[i+1]?=some b:=by
 have h0:((l.drop i).take 2)[0]?=some a:=by rw [h];rfl
 have h1:((l.drop i).take 2)[1]?=some b:=by rw [h];rfl
 rw [List.getElem?_take,List.getElem?_drop] at h0 h1
 simp at h0 h1
 exact ⟨h0,h1⟩
theorem kinds_of {H:Type} {enc:TypeId × Value→H} {W:World} {base:Nat} {spare:Nat→Bool} {held:Bool} {fuel:Nat} {cs:List Value} {p:List MemPlace}
  (hd:DataW.trod enc Tryz.prog W base spare held fuel 211 cs=some (Rows.laid_hindsight_event_kinds,p)):∀ k,k < 23→cs[k * 2]?=some (.string (kname k))∧cs[k * 2+1]?=some (.int .i64 (ksort k:Int)):=by
 obtain ⟨xs,m,rfl,hx,_,hn,hel⟩:=DataW.trod_array Tryz.underlying211 hd
 intro k hk
 have he:=hel k hk
 rw [kcellsT] at he
 have hxk:xs[k]?=some xs[k]:=List.getElem?_eq_getElem (by omega)
 rw [hxk] at he
 obtain ⟨ys,m',rfl,hy,hl,hn2,hf⟩:=DataW.trod_struct Tryz.underlying210 he
 rw [kcellsT] at hl
 obtain ⟨u,v,huv⟩:=two_of hl
 have f0:=hf 0 _ rfl
 have f1:=hf 1 _ rfl
 obtain ⟨y0,y1,rfl⟩:=two_of hn2
 rw [huv] at f0 f1
 simp [kcells9,kcells3] at f0 f1
 obtain ⟨s,e0,z0,_⟩:=DataW.trod_string Tryz.underlying9 f0
 obtain ⟨i,e1,z1,_⟩:=DataW.trod_int Tryz.underlying3 f1
 simp at e0 e1
 subst e0 e1
 obtain ⟨g0,g1⟩:=drop_two huv
 have hdat:(xs.map (·.1))[k]?=some (.agg [.lit (.string (kname k).data.toList),.lit (.int .i64 (ksort k:Int))]):=by
  rw [kinds_data] at hx
  have:=(Prod.mk.inj hx).1
  injection this with this
  rw [← this]
  simp [hk]
 rw [List.getElem?_map,hxk,Option.map_some,hy,z0,z1] at hdat
 simp only [List.map_cons,List.map_nil,Option.some.injEq,DataW.agg.injEq,List.cons.injEq,DataW.lit.injEq,Lit.string.injEq,Lit.int.injEq,true_and,and_true] at hdat
 obtain ⟨d1,d2⟩:=hdat
 refine ⟨by rw [g0];congr 2;cases s;congr 1;exact Array.toList_inj.1 d1,by rw [g1,d2]⟩
theorem rcellsT:Tryz.prog.cellsOf 212=2:=by kernel_rfl
theorem rcellsU:Tryz.prog.cellsOf 32=1:=by kernel_rfl
theorem ranges_data {H:Type}:(Rows.laid_hindsight_event_ranges:DataW H)=.agg ((List.range 9).map fun s=>.agg [.lit (.int .u64 (rlo s)),.lit (.int .u64 (rhi s))]):=rfl
theorem ranges_of {H:Type} {enc:TypeId × Value→H} {W:World} {base:Nat} {spare:Nat→Bool} {held:Bool} {fuel:Nat} {cs:List Value} {p:List MemPlace}
  (hd:DataW.trod enc Tryz.prog W base spare held fuel 213 cs=some (Rows.laid_hindsight_event_ranges,p)):∀ k,k < 9→cs[k * 2]?=some (.int .u64 (rlo k))∧cs[k * 2+1]?=some (.int .u64 (rhi k)):=by
 obtain ⟨xs,m,rfl,hx,_,hn,hel⟩:=DataW.trod_array Tryz.underlying213 hd
 intro k hk
 have he:=hel k hk
 rw [rcellsT] at he
 have hxk:xs[k]?=some xs[k]:=List.getElem?_eq_getElem (by omega)
 rw [hxk] at he
 obtain ⟨ys,m',rfl,hy,hl,hn2,hf⟩:=DataW.trod_struct Tryz.underlying212 he
 rw [rcellsT] at hl
 obtain ⟨u,v,huv⟩:=two_of hl
 have f0:=hf 0 _ rfl
 have f1:=hf 1 _ rfl
 obtain ⟨y0,y1,rfl⟩:=two_of hn2
 rw [huv] at f0 f1
 simp [rcellsU] at f0 f1
 obtain ⟨j,e0,z0,_⟩:=DataW.trod_int Tryz.underlying32 f0
 obtain ⟨i,e1,z1,_⟩:=DataW.trod_int Tryz.underlying32 f1
 simp at e0 e1
 subst e0 e1
 obtain ⟨g0,g1⟩:=drop_two huv
 have hdat:(xs.map (·.1))[k]?=some (.agg [.lit (.int .u64 (rlo k)),.lit (.int .u64 (rhi k))]):=by
  rw [ranges_data] at hx
  have:=(Prod.mk.inj hx).1
  injection this with this
  rw [← this]
  simp [hk]
 rw [List.getElem?_map,hxk,Option.map_some,hy,z0,z1] at hdat
 simp only [List.map_cons,List.map_nil,Option.some.injEq,DataW.agg.injEq,List.cons.injEq,DataW.lit.injEq,Lit.int.injEq,true_and,and_true] at hdat
 obtain ⟨d1,d2⟩:=hdat
 exact ⟨by rw [g0,d1],by rw [g1,d2]⟩
theorem gKinds : Tryz.prog.globalNamed "hindsight/event.kinds" = some 0 := by kernel_rfl
theorem tKinds:(Tryz.prog.globals[0]?).map (·.type)=some 211:=by kernel_rfl
theorem gRanges : Tryz.prog.globalNamed "hindsight/event.ranges" = some 1 := by kernel_rfl
theorem tRanges:(Tryz.prog.globals[1]?).map (·.type)=some 213:=by kernel_rfl
abbrev laid2 : List (String × DataW Unit) := [("hindsight/event.kinds", Rows.laid_hindsight_event_kinds), ("hindsight/event.ranges", Rows.laid_hindsight_event_ranges)]
theorem kr_of_laid {W:World} (h:laidMetH Tryz.prog laid2 W):Kr W:=by
 rw [MakeChecks.laidMetH_plain _ _ _ (by kernel_rfl)] at h
 obtain ⟨ps,⟨g0,t0,cs0,f0,p0,q0,hg0,ht0,hv0,hd0,⟨g1,t1,cs1,f1,p1,q1,hg1,ht1,hv1,hd1,_,_⟩,_⟩,_,_⟩:=h
 obtain rfl:=Option.some.inj (gKinds.symm.trans hg0)
 obtain rfl:=Option.some.inj (gRanges.symm.trans hg1)
 obtain rfl:=Option.some.inj (tKinds.symm.trans ht0)
 obtain rfl:=Option.some.inj (tRanges.symm.trans ht1)
 have K:=kinds_of hd0
 have R:=ranges_of hd1
 refine ⟨⟨fun k hk=>?_,fun k hk=>?_⟩,fun k hk=>?_,fun k hk=>?_⟩
 ·rw [World.var?_cell hg0 hv0];simpa using (K k hk).1
 ·rw [World.var?_cell hg0 hv0];simpa using (K k hk).2
 ·rw [World.var?_cell hg1 hv1];simpa using (R k hk).1
 ·rw [World.var?_cell hg1 hv1];simpa using (R k hk).2
end Go.Proofs.YtimgkhdgliojgaaGreatDoor.E6
