import Derived.Test.YthgelfdefkbfeaaGreatDoorRows
import Derived.WalkKit
import Derived.WalkLawsBesides
import Derived.BigQuiet
import Derived.Deep.QuietTactic
import Derived.WalkSpells
import Derived.WalkSmall
import Derived.Maps.OwnSet
import Derived.Maps.OwnOps
import Derived.Maps.AppendAt
import Derived.Laws.AppendOwnNone
import Derived.KernelRfl
import Derived.Shelf.Strconv.Clone
set_option maxRecDepth 8000
set_option maxHeartbeats 8000000
set_option linter.unusedVariables false
namespace Go.Proofs.YthgelfdefkbfeaaGreatDoor.E6
open Go.RowKit Go.Maps
theorem hide {p:Prop} (h:p):Hid p:=h
structure But (S:Nat→Prop) (w w':World):Prop where
 os:w'.os=w.os
 tape:w'.tape=w.tape
 output:w'.output=w.output
 size:w.heap.size≤w'.heap.size
 block:∀ k,k < w.heap.size→¬ S k→w'.heap[k]?=w.heap[k]?
theorem But.refl (S:Nat→Prop) (w:World):But S w w:=⟨rfl,rfl,rfl,Nat.le_refl _,fun _ _ _=>rfl⟩
theorem But.trans {S T:Nat→Prop} {a b c:World} (h:But S a b) (k:But T b c) (hT:∀ i,i < a.heap.size→T i→S i):But S a c :=
 ⟨k.os.trans h.os,k.tape.trans h.tape,k.output.trans h.output,Nat.le_trans h.size k.size,
  fun i hi hs=>(k.block i (Nat.lt_of_lt_of_le hi h.size) (fun e=>hs (hT i hi e))).trans (h.block i hi hs)⟩
theorem But.of_grown {S:Nat→Prop} {w w':World} {row:Option Nat} (hg:w.grownBy w' row) (hS:∀ k,row=some k→S k):But S w w' :=
 ⟨hg.os,hg.tape,hg.output,hg.size,fun k hk hs=>hg.block k hk (fun e=>hs (hS k e.symm))⟩
theorem But.grown {S:Nat→Prop} {w:World} {a w':World} {row:Option Nat} (h:But S a w) (hg:w.grownBy w' row) (hS:∀ k,k < a.heap.size→row=some k→S k):But S a w' :=
 h.trans (T:=fun k=>row=some k) (But.of_grown hg fun _ e=>e) hS
theorem But.alloc {S:Nat→Prop} {a w:World} (h:But S a w) (o:Obj):But S a (w.alloc o) :=
 h.trans (T:=fun _=>False) ⟨rfl,rfl,rfl,by simp,fun k hk _=>Below.heap_alloc _ _ _ hk⟩ (fun _ _ e=>e.elim)
theorem But.drew {S:Nat→Prop} {a w:World} (h:But S a w):But S a w.drew:=⟨h.os,h.tape,h.output,h.size,h.block⟩
theorem But.setCell {S:Nat→Prop} {a w:World} (h:But S a w) (p:Addr) (hp:p.block < a.heap.size→S p.block) (u:Value):But S a (w.setCell p u) :=
 h.trans (T:=fun k=>k=p.block) ⟨rfl,rfl,rfl,by simp [World.setCell],fun k _ hs=>Below.heap_setCell _ _ _ _ hs⟩ (fun i hi e=>by subst e;exact hp hi)
theorem But.below {S:Nat→Prop} {w w':World} {B:Nat} (h:But S w w') (hB:B≤w.heap.size) (hS:∀ k,S k→B≤k):Below B w w' :=
 ⟨h.os,h.tape,h.output,h.size,fun k hk=>h.block k (by omega) (fun e=>by have:=hS k e;omega)⟩
theorem But.of_below {S:Nat→Prop} {w w':World} (h:Below w.heap.size w w'):But S w w':=⟨h.os,h.tape,h.output,h.size,fun k hk _=>h.block k hk⟩
theorem But.mono {S T:Nat→Prop} {w w':World} (h:But S w w') (hT:∀ k,S k→T k):But T w w':=⟨h.os,h.tape,h.output,h.size,fun k hk hs=>h.block k hk fun e=>hs (hT k e)⟩
theorem own_but {S:Nat→Prop} {w w':World} {base:Nat} {e:TypeId} {size n:Nat} {v:Value} {xs:List Value} (h:w.ownsRow base e size v n xs) (hb:But S w w') (hv:∀ g,v.ownBlock=some g→¬ S g):w'.ownsRow base e size v n xs:=by
 obtain ⟨h1,h2⟩:=h
 refine ⟨h1,h2.imp id ?_⟩
 rintro ⟨g,cap,cur,rfl,hg,hh,r⟩
 exact ⟨g,cap,cur,rfl,hg,(hb.block g (Array.getElem?_eq_some_iff.1 hh).1 (hv g rfl)).trans hh,r⟩
theorem map_but {S:Nat→Prop} {w w':World} {H:Type} {P:Program} {k:TypeId} {R:Value→Option (DataW H × List MemPlace)} {b n:Nat} {D:DataW H} (h:w.ownsMap P k R b n D) (hb:But S w w') (hv:¬ S b):w'.ownsMap P k R b n D:=by
 obtain ⟨es,cl,hh,r⟩:=h
 exact ⟨es,cl,(hb.block b (Array.getElem?_eq_some_iff.1 hh).1 hv).trans hh,r⟩
def skey (s:ByteArray):Lit:=.string s.data.toList
theorem skey_inj {a b:ByteArray} (h:skey a=skey b):a=b:=by
 simp only [skey,Lit.string.injEq] at h
 cases a;cases b;simp only [ByteArray.mk.injEq];exact Array.toList_inj.1 h
theorem skey_key (s:ByteArray):WideAt.IsKeyLit (skey s):=by simp [skey,WideAt.IsKeyLit]
def isIn (L:List ByteArray) (s:ByteArray):Bool:=(L.map ByteArray.data).contains s.data
theorem isIn_iff {L:List ByteArray} {s:ByteArray}:isIn L s=true ↔ s ∈ L:=by
 unfold isIn
 rw [List.contains_iff_mem,List.mem_map]
 constructor
 ·rintro ⟨t,ht,e⟩
  cases t;cases s;subst e;exact ht
 ·exact fun h=>⟨s,h,rfl⟩
theorem isIn_not {L:List ByteArray} {s:ByteArray}:isIn L s=false ↔ s ∉ L:=by rw [← isIn_iff];simp
theorem isIn_snoc (L:List ByteArray) (s:ByteArray):isIn (L++[s]) s=true:=isIn_iff.2 (by simp)
theorem isIn_snoc_ne (L:List ByteArray) {s t:ByteArray} (h:t≠s):isIn (L++[s]) t=isIn L t:=by
 rw [Bool.eq_iff_iff,isIn_iff,isIn_iff];simp [h]
structure Ids (D:DataW Unit) (L:List ByteArray):Prop where
 isMap:Maps.IsMap D
 has:∀ s,Maps.has D (skey s)=isIn L s
 place:∀ (i:Nat) s,L[i]?=some s→D.atKey (skey s) (.lit (.int .i64 0))=.lit (.int .i64 (i:Int))
theorem Ids.nil:Ids (.map []) []:=⟨Maps.isMap_empty,fun s=>rfl,fun i s h=>by simp at h⟩
theorem Ids.put {D:DataW Unit} {L:List ByteArray} (h:Ids D L) {s:ByteArray} (hs:s ∉ L):Ids (D.put (skey s) (.lit (.int .i64 (L.length:Int)))) (L++[s]):=by
 refine ⟨h.isMap.put _ _,fun t=>?_,fun i t ht=>?_⟩
 ·by_cases e:t=s
  ·subst e;rw [Maps.has_put_same h.isMap (skey_key _),isIn_snoc]
  ·rw [Maps.has_put_other (fun c=>e (skey_inj c)),h.has t,isIn_snoc_ne L e]
 ·by_cases e:t=s
  ·subst e
   rw [Maps.atKey_put_same h.isMap (skey_key _)]
   by_cases hi:i < L.length
   ·rw [List.getElem?_append_left hi] at ht
    exact absurd (List.mem_of_getElem? ht) hs
   ·have:i < (L++[t]).length:=(List.getElem?_eq_some_iff.1 ht).1
    simp at this
    have:i=L.length:=by omega
    rw [this]
  ·rw [Maps.atKey_put_other (fun c=>e (skey_inj c))]
   refine h.place i t ?_
   by_cases hi:i < L.length
   ·rwa [List.getElem?_append_left hi] at ht
   ·rw [List.getElem?_append_right (by omega)] at ht
    have:=List.mem_of_getElem? ht
    simp at this
    exact absurd this e
def total (L:List ByteArray):Nat:=(L.map ByteArray.size).sum
theorem total_snoc (L:List ByteArray) (s:ByteArray):total (L++[s])=total L+s.size:=by simp [total]
structure Tab (w:World) (tb:Nat) (S:Nat→Prop) (L:List ByteArray) (v mv:Value):Prop where
 blk:w.heap[tb]?=some (.cells #[v,mv,.int .i64 (total L:Nat)] 110 (0,0))
 own:w.ownsRow 0 9 1 v L.length (L.map Value.string)
 ids:(mv=.map none∧L=[])∨∃ mb D,mv=.map (some mb)∧S mb∧w.ownsMap Tryz.prog 9 (plainElem Tryz.prog 3) mb L.length D∧Ids D L
 inS:S tb
 rowS:∀ g,v.ownBlock=some g→S g
 nodup:L.Nodup
 small:∀ s ∈ L,s.size≤65536
 len:L.length≤65536
 sum:total L≤4194304
section
variable {w : World} {tb : Nat} {S : Nat → Prop} {L : List ByteArray} {v mv : Value}
theorem Tab.kept {T:Nat→Prop} {w':World} (h:Tab w tb S L v mv) (hb:But T w w') (hd:∀ k,S k→¬ T k):Tab w' tb S L v mv :=
 ⟨(hb.block tb (Array.getElem?_eq_some_iff.1 h.blk).1 (hd _ h.inS)).trans h.blk,own_but h.own hb fun g e=>hd g (h.rowS g e),
  h.ids.imp id fun ⟨mb,D,e,hs,hm,hi⟩=>⟨mb,D,e,hs,map_but hm hb (hd _ hs),hi⟩,h.inS,h.rowS,h.nodup,h.small,h.len,h.sum⟩
theorem Tab.cell0 (h:Tab w tb S L v mv):w.cell? ⟨tb,0,none⟩=some v:=by rw [cell_of_row w tb 0 _ 110 (0,0) h.blk];rfl
theorem Tab.cell1 (h:Tab w tb S L v mv):w.cell? ⟨tb,1,none⟩=some mv:=by rw [cell_of_row w tb 1 _ 110 (0,0) h.blk];rfl
theorem Tab.cell2 (h:Tab w tb S L v mv):w.cell? ⟨tb,2,none⟩=some (.int .i64 (total L:Nat)):=by rw [cell_of_row w tb 2 _ 110 (0,0) h.blk];rfl
theorem Tab.free (h:Tab w tb S L v mv) (j:Nat):w.frozen? ⟨tb,j,none⟩=false:=frozen_of_row w tb j _ 110 h.blk
theorem Tab.lt (h:Tab w tb S L v mv):tb < w.heap.size:=(Array.getElem?_eq_some_iff.1 h.blk).1
end
theorem own_form {w:World} {base n:Nat} {e:TypeId} {size:Nat} {v:Value} {xs:List Value} (h:w.ownsRow base e size v n xs):∃ a c,v=.slice a n c:=by
 rcases h.2 with ⟨rfl,rfl⟩|⟨g,cap,cur,rfl,_⟩
 ·exact ⟨none,0,rfl⟩
 ·exact ⟨_,cap,rfl⟩
theorem law9:Keyed Tryz.prog 9:=string_keyed Tryz.underlying9
theorem zero3 (w:World):(zeroValue 3).run Tryz.prog w=.ok (.int .i64 0) w:=by kernel_rfl
theorem key9 {s:ByteArray} (h:s.size≤maxLen):keyOf Tryz.prog 9 (.string s)=some (skey s):=Go.WideMaps.keyOf_string_mk Tryz.underlying9 h
end Go.Proofs.YthgelfdefkbfeaaGreatDoor.E6
namespace Go.Proofs.YthgelfdefkbfeaaGreatDoor.E6
open Go.RowKit Go.Maps Go.Shelf
def cloneLays_ren:Go.Shelf.Ren:=⟨fun|316=>160|n=>n,fun|37=>194|127=>195|n=>n,fun|n=>n⟩
theorem cloneLays:Go.Proofs.LaysM.n316 Tryz.prog cloneLays_ren:={
 mixed:=by kernel_rfl
 f316:=Tryz.func160.trans (congrArg some (by kernel_rfl))
 t5:=Tryz.underlying5
 a5:=Tryz.isAgg5
 z5:=Tryz.sizeOf5
 v5:=Tryz.zeroValue5
 t9:=Tryz.underlying9
 a9:=Tryz.isAgg9
 z9:=Tryz.sizeOf9
 v9:=Tryz.zeroValue9
 t3:=Tryz.underlying3
 a3:=Tryz.isAgg3
 z3:=Tryz.sizeOf3
 v3:=Tryz.zeroValue3
 t4:=Tryz.underlying4
 a4:=Tryz.isAgg4
 z4:=Tryz.sizeOf4
 v4:=Tryz.zeroValue4
 t37:=Tryz.underlying194
 a37:=Tryz.isAgg194
 z37:=Tryz.sizeOf194
 v37:=Tryz.zeroValue194
 t0:=Tryz.underlying0
 a0:=Tryz.isAgg0
 z0:=Tryz.sizeOf0
 v0:=Tryz.zeroValue0
 t127:=Tryz.underlying195
 a127:=Tryz.isAgg195
 z127:=Tryz.sizeOf195
 v127:=Tryz.zeroValue195
 i0:=by kernel_rfl
 i3:=by kernel_rfl
 i4:=by kernel_rfl
 i5:=by kernel_rfl
 i9:=by kernel_rfl
 i37:=by kernel_rfl
 i127:=by kernel_rfl }
theorem clone_any (s:ByteArray) (w:World) (hs:s.size≤65536) :
  Calls Tryz.prog 127 #[.string s] w fun e w'=>e=.returned (.string s)∧Below w.heap.size w w':=by
 go_enter Tryz.func127,Tryz.ntmps127
 go_wp2_with fail
 refine (Any.stringslite_Clone cloneLays s w (by omega)).mono ?_
 rintro e w' ⟨rfl,hb⟩
 go_wp2
 go_ret
 exact ⟨rfl,hb⟩
theorem new_any (w:World) :
  Calls Tryz.prog 41 #[] w fun e w'=>e=.returned (.pointer (some ⟨w.heap.size,0,none⟩))∧w'=w.alloc (.cells #[.slice none 0 0,.map none,.int .i64 0] 110):=by
 go_enter Tryz.func41,Tryz.ntmps41
 go_wp2
 go_ret
 exact ⟨rfl,rfl⟩
theorem len_any (tb n c:Nat) (a:Option Addr) (w:World) (h0:w.cell? ⟨tb,0,none⟩=some (.slice a n c)) :
  Calls Tryz.prog 121 #[.pointer (some ⟨tb,0,none⟩)] w fun e w'=>e=.returned (.int .i64 n)∧w'=w:=by
 go_enter Tryz.func121,Tryz.ntmps121
 go_wp2
 go_ret
 exact ⟨rfl,rfl⟩
theorem bytes_any (tb:Nat) (z:Int) (w:World) (h0:w.cell? ⟨tb,2,none⟩=some (.int .i64 z)) :
  Calls Tryz.prog 122 #[.pointer (some ⟨tb,0,none⟩)] w fun e w'=>e=.returned (.int .i64 z)∧w'=w:=by
 go_enter Tryz.func122,Tryz.ntmps122
 go_wp2
 go_ret
 exact ⟨rfl,rfl⟩
def roomy (n t k:Nat):Bool:=decide ((k:Int)≤65536∧(n:Int) < 65536∧(t:Int)+k≤4194304)
theorem ret_bool {a b:Bool} (h:a=b):Ending.returned (.bool a)=.returned (.bool b):=by rw [h]
theorem room_any (tb n c:Nat) (a:Option Addr) (t:Nat) (k:Nat) (w:World) (h0:w.cell? ⟨tb,0,none⟩=some (.slice a n c)) (h2:w.cell? ⟨tb,2,none⟩=some (.int .i64 (t:Int))) (ht:(t:Int)≤4194304) :
  Calls Tryz.prog 125 #[.pointer (some ⟨tb,0,none⟩),.int .i64 (k:Int)] w fun e w'=>e=.returned (.bool (roomy n t k))∧w'=w:=by
 by_cases h1:(k:Int)≤65536
 ·by_cases h3:(n:Int) < 65536
  ·by_cases h4:(t:Int)+k≤4194304
   ·have H:Hid (roomy n t k=true):=by unfold roomy;exact decide_eq_true ⟨h1,h3,h4⟩
    generalize roomy n t k=r at H ⊢
    go_enter Tryz.func125,Tryz.ntmps125
    go_wp2
    go_ret
    exact ⟨ret_bool H.out.symm,rfl⟩
   ·have H:Hid (roomy n t k=false):=by unfold roomy;exact decide_eq_false (fun h=>h4 h.2.2)
    generalize roomy n t k=r at H ⊢
    go_enter Tryz.func125,Tryz.ntmps125
    go_wp2
    go_ret
    exact ⟨ret_bool H.out.symm,rfl⟩
  ·have H:Hid (roomy n t k=false):=by unfold roomy;exact decide_eq_false (fun h=>h3 h.2.1)
   generalize roomy n t k=r at H ⊢
   go_enter Tryz.func125,Tryz.ntmps125
   go_wp2
   go_ret
   exact ⟨ret_bool H.out.symm,rfl⟩
 ·have H:Hid (roomy n t k=false):=by unfold roomy;exact decide_eq_false (fun h=>h1 h.1)
  generalize roomy n t k=r at H ⊢
  go_enter Tryz.func125,Tryz.ntmps125
  go_wp2
  go_ret
  exact ⟨ret_bool H.out.symm,rfl⟩
structure SRow (w:World) (a:Option Addr) (n:Nat) (L:List ByteArray):Prop where
 len:L.length=n
 cells:n=0∨∃ b off,a=some ⟨b,off,none⟩∧∀ i,i < n→w.cell? ⟨b,off+i,none⟩=some (.string (L.getD i ByteArray.empty))
theorem SRow.of_own {w:World} {base n c:Nat} {a:Option Addr} {L:List ByteArray} (h:w.ownsRow base 9 1 (.slice a n c) n (L.map Value.string)):SRow w a n L:=by
 have hl:L.length=n:=by have:=h.1;simpa using this
 rcases h.2 with ⟨hv,h0⟩|⟨g,cap,cur,hv,hb,hg,hn,hm,hs,ht⟩
 ·exact ⟨hl,.inl h0⟩
 ·cases hv
  refine ⟨hl,.inr ⟨g,0,rfl,fun i hi=>?_⟩⟩
  have:=h.cells (g:=g) rfl i (.string (L.getD i ByteArray.empty)) (by simp [hl,hi])
  have ha:(⟨g,0,none⟩:Addr).add i=⟨g,0+i,none⟩:=by unfold Addr.add;split <;> simp_all
  rwa [ha] at this
theorem SRow.at {w:World} {a:Option Addr} {n:Nat} {L:List ByteArray} (h:SRow w a n L) {i:Nat} (hi:i < n):∃ b off,a=some ⟨b,off,none⟩∧w.cell? ⟨b,off+i,none⟩=some (.string (L.getD i ByteArray.empty)):=by
 rcases h.cells with h0|⟨b,off,ha,hc⟩
 ·omega
 ·exact ⟨b,off,ha,hc i hi⟩
def place:List ByteArray→ByteArray→Nat
 | [],_=>0
 | x :: l,s=>if x.data=s.data then 0 else place l s+1
theorem place_get {L:List ByteArray} {s:ByteArray} (h:s ∈ L):L[place L s]?=some s:=by
 induction L with
 | nil=>cases h
 | cons x l ih =>
  unfold place
  by_cases e:x.data=s.data
  ·rw [if_pos e];cases x;cases s;subst e;rfl
  ·rw [if_neg e]
   rcases List.mem_cons.1 h with h|h
   ·exact absurd (by rw [h]) e
   ·simpa using ih h
theorem place_of_get {L:List ByteArray} {s:ByteArray} (hd:L.Nodup) {i:Nat} (h:L[i]?=some s):place L s=i:=by
 have hs:=place_get (List.mem_of_getElem? h)
 have h1:=(List.getElem?_eq_some_iff.1 hs).1
 have h2:=(List.getElem?_eq_some_iff.1 h).1
 exact (List.getElem_inj hd (h₀:=h1) (h₁:=h2)).1 (by rw [(List.getElem?_eq_some_iff.1 hs).2,(List.getElem?_eq_some_iff.1 h).2])
def lookV (L:List ByteArray) (s:ByteArray):Value:=.tuple #[.int .i64 (if isIn L s then (place L s:Int) else 0),.bool (isIn L s)]
theorem atKey_ids {D:DataW Unit} {L:List ByteArray} (h:Ids D L) (s:ByteArray) {c:Int} (hc:D.atKey (skey s) (.lit (.int .i64 0))=.lit (.int .i64 c)):c=(if isIn L s then (place L s:Int) else 0):=by
 cases hi:isIn L s
 ·rw [Maps.atKey_of_not_has (by rw [h.has,hi])] at hc
  simp at hc;simp [← hc]
 ·rw [h.place _ _ (place_get (isIn_iff.1 hi))] at hc
  simp at hc;simp [← hc]
theorem find_any {w:World} {tb:Nat} {S:Nat→Prop} {L:List ByteArray} {v mv:Value} (h:Tab w tb S L v mv) (s:ByteArray) (hs:s.size≤maxLen) :
  Calls Tryz.prog 120 #[.pointer (some ⟨tb,0,none⟩),.string s] w fun e w'=>e=.returned (lookV L s)∧w'=w:=by
 have h1:=h.cell1
 rcases h.ids with ⟨rfl,rfl⟩|⟨mb,D,rfl,_,hm,hi⟩
 ·clear h
  have hl:=fun W:World=>Maps.look_nil (w:=W) true law9 Tryz.underlying108 (zero3 W) (key9 hs)
  go_enter Tryz.func120,Tryz.ntmps120
  go_wp2
  go_ret2
  exact ⟨rfl,rfl⟩
 ·clear h
  have H:Hid (Ids D L):=hi
  have HM:Hid (w.ownsMap Tryz.prog 9 (plainElem Tryz.prog 3) mb L.length D):=hm
  clear hi hm
  go_enter Tryz.func120,Tryz.ntmps120
  go_wp2_with (first|(at_lookup;refine wpList_lookup_own_ok_int _ rfl _ _ 108 rfl 9 3 .i64 law9 Tryz.underlying108 Tryz.underlying3 (zero3 _) mb L.length D rfl HM.out _ _ rfl (key9 hs) ?_;intro c hat hwc)|go_in)
  go_ret2
  exact ⟨by rw [lookV,← atKey_ids H.out s hat,← H.out.has s];rfl,rfl⟩
end Go.Proofs.YthgelfdefkbfeaaGreatDoor.E6
namespace Go.Proofs.YthgelfdefkbfeaaGreatDoor.E6
open Go.RowKit Go.Maps
theorem Tryz.info9:(Tryz.prog.info? 9).map (fun i=>(i.zero,i.size,i.bytes))=some (some (.string ⟨#[]⟩),1,16):=by kernel_rfl
theorem append_str (w:World) {ops:Array Oper} {rest:List Oper} {o:Oper} {a:Act} {Q:Exit→Act→World→Prop} (hgd:o.guard=none) (s x:Operand)
  (ho:o.op=.call { callee:=.builtin .append,args:=#[s,x],argTypes:=#[41,41] }) (base:Nat)
  (v:Value) (L:List ByteArray) (hs:a.eval s=v) (hown:w.ownsRow base 9 1 v L.length (L.map Value.string))
  (X:Nat) (z:ByteArray) (hx:a.eval x=.slice (some ⟨X,0,none⟩) 1 1) (hc:w.cell? ⟨X,0,none⟩=some (.string z))
  (hb:(L.length:Int)≤4294967296) (hbase:base≤w.heap.size)
  (h:∀ (a':Option Addr) (c':Nat) w',w'.ownsRow base 9 1 (.slice a' (L.length+1) c') (L.length+1) ((L++[z]).map Value.string)→w.grownBy w' v.ownBlock→((Value.slice a' (L.length+1) c').ownBlock=v.ownBlock∨(Value.slice a' (L.length+1) c').ownBlock=some w.heap.size)→wpList Tryz.prog ops Q rest (a.put o.dst (.slice a' (L.length+1) c')) w'):wpList Tryz.prog ops Q (o :: rest) a w:=by
 obtain ⟨i0,hi,hz0,hz1,hz2⟩:=info_parts Tryz.info9
 refine wpList_append_own_at w hgd s x 41 ho base 9 i0 (.string ⟨#[]⟩) 1 16 Tryz.underlying41 hi hz0 hz1 hz2 rfl (by decide) v L.length _ hs hown ⟨X,0,none⟩ 1 1 [.string z] hx rfl (by intro t u ht;match t,ht with|0,ht=>simp at ht;subst ht;simpa [Addr.add] using hc) (by intro u hu;simp at hu;subst hu;rfl) (by unfold maxLen;omega) (by omega) hbase ?_
 intro v' w' h1 h2 _ h3
 obtain ⟨a',c',rfl⟩:=own_form h1
 exact h a' c' w' (by rw [List.map_append];exact h1) h2 h3
theorem cell_new (w:World) (u:Value) (t:TypeId):(w.alloc (.cells #[u] t)).cell? ⟨w.heap.size,0,none⟩=some u:=by rw [cell_of_row _ _ 0 _ t (0,0) (heap_alloc_new w _)];rfl
theorem ne_blocks {w:World} {a b:Nat} {x:Array Value} {t:TypeId} {f:Nat × Nat} {es:Array MapEntry} {cl:Nat} (h1:w.heap[a]?=some (.cells x t f)) (h2:w.heap[b]?=some (.map es cl)):a≠b:=by
 intro e;subst e;rw [h1] at h2;cases h2
theorem Tab.mono {w:World} {tb:Nat} {S T:Nat→Prop} {L:List ByteArray} {v mv:Value} (h:Tab w tb S L v mv) (hT:∀ k,S k→T k):Tab w tb T L v mv :=
 ⟨h.blk,h.own,h.ids.imp id fun ⟨mb,D,e,hs,r⟩=>⟨mb,D,e,hT _ hs,r⟩,hT _ h.inS,fun g e=>hT _ (h.rowS g e),h.nodup,h.small,h.len,h.sum⟩
theorem size_set (w:World) (a:Addr) (u:Value):(w.setCell a u).heap.size=w.heap.size:=by simp [World.setCell]
theorem Tab.row_tb {w:World} {tb:Nat} {S:Nat→Prop} {L:List ByteArray} {v mv:Value} (h:Tab w tb S L v mv):∀ g,v.ownBlock=some g→g≠tb:=by
 intro g hg e
 rcases h.own.2 with ⟨hv,_⟩|⟨g',cap,cur,hv,hb,hh,_⟩
 ·rw [hv] at hg;simp [Value.ownBlock] at hg
 ·rw [hv] at hg;simp [Value.ownBlock] at hg;subst hg;subst e
  rw [h.blk] at hh;simp at hh
theorem own_map {w:World} {base n:Nat} {e:TypeId} {size:Nat} {v:Value} {xs:List Value} (h:w.ownsRow base e size v n xs) {mb:Nat} {es:Array MapEntry} {cl:Nat} (hm:w.heap[mb]?=some (.map es cl)):∀ g,v.ownBlock=some g→g≠mb:=by
 intro g hg e
 rcases h.2 with ⟨hv,_⟩|⟨g',cap,cur,hv,hb,hh,_⟩
 ·rw [hv] at hg;simp [Value.ownBlock] at hg
 ·rw [hv] at hg;simp [Value.ownBlock] at hg;subst hg
  exact ne_blocks hh hm e
theorem put_end {w w1 w2:World} {tb mb n:Nat} {S:Nat→Prop} {L:List ByteArray} {v v' mv0:Value} {D:DataW Unit} {s:ByteArray} (h:Tab w tb S L v mv0) (hlt1:w.heap.size≤w1.heap.size) (hSm:S mb∨(w.heap.size≤mb∧mb < w1.heap.size))
  (b1:w1.heap[tb]?=some (.cells #[v,.map (some mb),.int .i64 (total L:Nat)] 110 (0,0))) (hi:Ids D L) (hn:n≤L.length)
  (hm1:w1.ownsMap Tryz.prog 9 (plainElem Tryz.prog 3) mb (n+1) (D.put (skey s) (.lit (.int .i64 (L.length:Int))))) (hw1:But S w w1) (o1:w1.ownsRow 0 9 1 v L.length (L.map Value.string))
  (o2:w2.ownsRow 0 9 1 v' (L.length+1) ((L++[s]).map Value.string)) (g2:(w1.alloc (.cells #[.string s] 9)).grownBy w2 v.ownBlock) (hloc:v'.ownBlock=v.ownBlock∨v'.ownBlock=some (w1.heap.size+1))
  (hin:s ∉ L) (hs:(s.size:Int)≤65536) (hl:L.length < 65536) (ht:total L+s.size≤4194304) :
  Tab ((w2.setCell ⟨tb,0,none⟩ v').setCell ⟨tb,2,none⟩ (.int .i64 ((total L:Int)+s.size))) tb (fun k=>S k∨(w.heap.size≤k∧k < w2.heap.size)) (L++[s]) v' (.map (some mb))∧But S w ((w2.setCell ⟨tb,0,none⟩ v').setCell ⟨tb,2,none⟩ (.int .i64 ((total L:Int)+s.size))):=by
 have hsz:w1.heap.size+1≤w2.heap.size:=by have:=g2.size;simpa using this
 have hm1':=hm1
 obtain ⟨es,cl,hmb,_⟩:=hm1'
 have htm:=ne_blocks b1 hmb
 have htl:=(Array.getElem?_eq_some_iff.1 b1).1
 have hrt:∀ g,v.ownBlock=some g→g≠tb:=h.row_tb
 have hrm:∀ g,v.ownBlock=some g→g≠mb:=own_map o1 hmb
 have hmlt:=(Array.getElem?_eq_some_iff.1 hmb).1
 have k2:But (fun k=>v.ownBlock=some k) w1 w2:=(But.refl _ w1).alloc _ |>.grown g2 (fun k _ e=>e)
 have b2:w2.heap[tb]?=some (.cells #[v,.map (some mb),.int .i64 (total L:Nat)] 110 (0,0)):=(k2.block tb htl (fun e=>hrt tb e rfl)).trans b1
 have hm2:=map_but hm1 k2 (fun e=>hrm mb e rfl)
 have hv':∀ g,v'.ownBlock=some g→(v.ownBlock=some g∨g=w1.heap.size+1):=by
  intro g hg
  rcases hloc with e|e
  ·exact .inl (e.symm.trans hg)
  ·rw [e] at hg;exact .inr (by cases hg;rfl)
 have hv't:∀ g,v'.ownBlock=some g→g≠tb:=by
  intro g hg
  rcases hv' g hg with e|e
  ·exact hrt g e
  ·omega
 have hlt2:=o2.lt
 have hS2:But S w w2:=hw1.trans k2 (fun i _ e=>h.rowS i e)
 have hT:But (fun k=>k=tb) w2 ((w2.setCell ⟨tb,0,none⟩ v').setCell ⟨tb,2,none⟩ (.int .i64 ((total L:Int)+s.size))) :=
  ((But.refl (fun k=>k=tb) w2).setCell ⟨tb,0,none⟩ (fun _=>rfl) v').setCell ⟨tb,2,none⟩ (fun _=>rfl) _
 refine ⟨⟨?_,by rw [List.length_append];exact own_but o2 hT (fun g e=>hv't g e),.inr ⟨mb,_,rfl,?_,map_but (hm2.mono (by simp;omega)) hT (fun e=>htm e.symm),hi.put hin⟩,.inl h.inS,?_,?_,?_,?_,?_⟩,hS2.trans hT (fun i _ e=>by subst e;exact h.inS)⟩
 ·have e1:=heap_setCell_same w2 tb 0 _ 110 v' b2
  have e2:=heap_setCell_same _ tb 2 _ 110 (.int .i64 ((total L:Int)+s.size)) e1
  rw [e2,total_snoc,Int.natCast_add];rfl
 ·rcases hSm with e|e
  ·exact .inl e
  ·exact .inr ⟨e.1,by omega⟩
 ·intro g hg
  rcases hv' g hg with e|e
  ·exact .inl (h.rowS g e)
  ·exact .inr ⟨by omega,(hlt2 g hg).2⟩
 ·rw [List.nodup_append];exact ⟨h.nodup,by simp,by intro x hx y hy;simp at hy;subst hy;exact fun e=>hin (e ▸ hx)⟩
 ·intro t ht;rcases List.mem_append.1 ht with ht|ht
  ·exact h.small t ht
  ·simp at ht;subst ht;omega
 ·simp;omega
 ·rw [total_snoc];exact ht
theorem put_map {w : World} {tb : Nat} {S : Nat → Prop} {L : List ByteArray} {v : Value} {mb : Nat} (h : Tab w tb S L v (.map (some mb))) (s : ByteArray) (hs : (s.size : Int) ≤ 65536) (hin : s ∉ L) (hl : L.length < 65536) (ht : total L + s.size ≤ 4194304) :
    Calls Tryz.prog 126 #[.pointer (some ⟨tb, 0, none⟩), .string s] w fun e w' => e = .returned (.int .i64 L.length) ∧ (∃ v' mv', Tab w' tb (fun k => S k ∨ (w.heap.size ≤ k ∧ k < w'.heap.size)) (L ++ [s]) v' mv') ∧ But S w w' := by
  obtain ⟨D, hSm, hm, hi⟩ : ∃ D, S mb ∧ w.ownsMap Tryz.prog 9 (plainElem Tryz.prog 3) mb L.length D ∧ Ids D L := by
    rcases h.ids with ⟨e, _⟩ | ⟨mb', D, e, r⟩
    · cases e
    · cases e; exact ⟨D, r⟩
  have hne : tb ≠ mb := by obtain ⟨es, cl, hh, _⟩ := hm; exact ne_blocks h.blk hh
  have c0 := h.cell0
  have c1 := h.cell1
  have c2 := h.cell2
  have f := h.free
  obtain ⟨a, c, rfl⟩ := own_form h.own
  have H : Hid (Tab w tb S L (.slice a L.length c) (.map (some mb))) := h
  have HI : Hid (Ids D L) := hi
  have HM : Hid (w.ownsMap Tryz.prog 9 (plainElem Tryz.prog 3) mb L.length D) := hm
  have HL : Hid (L.length < 65536) := hl
  have HT : Hid (total L + s.size ≤ 4194304) := ht
  have hl' : (L.length : Int) < 65536 := by omega
  have ht' : (total L : Int) + s.size ≤ 4194304 := by omega
  have hs' : s.size ≤ maxLen := by unfold maxLen; omega
  have hq := fun W : World => Go.run_eql_map_nil (P := Tryz.prog) W 108 9 3 (some mb) Tryz.underlying108
  clear h hm hi hl ht
  go_enter Tryz.func126, Tryz.ntmps126
  go_wp2_with (first
    | (at_mapUpdate; refine wpList_mapUpdate_own _ rfl _ _ _ 108 rfl 9 3 law9 Tryz.underlying108 _ mb L.length D rfl HM.out (by unfold maxLen; omega) _ _ _ rfl rfl (key9 hs') _ [] (plainElem_int Tryz.underlying3 (WalkArith.wf_i64 (by omega))) ?_
       intro w1 hown1 hgrow1
       have b1 : Hid (w1.heap[tb]? = some (.cells #[.slice a L.length c, .map (some mb), .int .i64 (total L : Nat)] 110 (0, 0))) := hide ((hgrow1.block tb H.out.lt (by simpa using hne)).trans H.out.blk)
       have d0 : w1.cell? ⟨tb, 0, none⟩ = some (.slice a L.length c) := by rw [cell_of_row w1 tb 0 _ 110 (0, 0) b1.out]; rfl
       have d2 : w1.cell? ⟨tb, 2, none⟩ = some (.int .i64 (total L : Nat)) := by rw [cell_of_row w1 tb 2 _ 110 (0, 0) b1.out]; rfl
       have hw1 : Hid (But S w w1) := hide (But.of_grown hgrow1 (by intro k e; cases e; exact hSm))
       have o1 : Hid (w1.ownsRow 0 9 1 (.slice a L.length c) L.length (L.map Value.string)) := hide (own_but (S := fun k => k = mb) H.out.own (But.of_grown hgrow1 (by intro k e; cases e; rfl)) (by obtain ⟨es, cl, hh, _⟩ := HM.out; exact own_map H.out.own hh))
       have m1 : Hid _ := hide hown1
       have hlt1 : Hid _ := hide hgrow1.size
       clear hown1 hgrow1 c0 c1 c2 f)
    | (at_builtin; refine append_str _ rfl _ _ rfl 0 (.slice a L.length c) L rfl (o1.out.alloc _) w1.heap.size s rfl (cell_new _ _ _) (by omega) (Nat.zero_le _) ?_
       intro a' c' w2 o2' g2' hloc'
       have b2 : Hid (w2.heap[tb]? = some (.cells #[.slice a L.length c, .map (some mb), .int .i64 (total L : Nat)] 110 (0, 0))) := hide ((((But.refl (fun k => (Value.slice a L.length c).ownBlock = some k) w1).alloc _ |>.grown g2' (fun k _ e => e)).block tb (Array.getElem?_eq_some_iff.1 b1.out).1 (fun e => H.out.row_tb tb e rfl)).trans b1.out)
       have d0 : w2.cell? ⟨tb, 0, none⟩ = some (.slice a L.length c) := by rw [cell_of_row w2 tb 0 _ 110 (0, 0) b2.out]; rfl
       have d2 : w2.cell? ⟨tb, 2, none⟩ = some (.int .i64 (total L : Nat)) := by rw [cell_of_row w2 tb 2 _ 110 (0, 0) b2.out]; rfl
       have f2 : ∀ j, w2.frozen? ⟨tb, j, none⟩ = false := fun j => frozen_of_row w2 tb j _ 110 b2.out
       have o2 : Hid (w2.ownsRow 0 9 1 (.slice a' (L.length + 1) c') (L.length + 1) ((L ++ [s]).map Value.string)) := hide o2'
       have g2 : Hid _ := hide g2'
       have hloc : Hid _ := hide hloc'
       clear o2' g2' hloc')
    | go_in)
  go_ret
  have E := put_end H.out hlt1.out (.inl hSm) b1.out HI.out (Nat.le_refl _) m1.out hw1.out o1.out o2.out g2.out (by simpa using hloc.out) hin hs HL.out HT.out
  exact ⟨rfl, ⟨_, _, E.1.mono fun k hk => by rw [size_set, size_set]; exact hk⟩, E.2⟩
theorem put_nil {w : World} {tb : Nat} {S : Nat → Prop} {L : List ByteArray} {v : Value} (h : Tab w tb S L v (.map none)) (s : ByteArray) (hs : (s.size : Int) ≤ 65536) (hin : s ∉ L) (hl : L.length < 65536) (ht : total L + s.size ≤ 4194304) :
    Calls Tryz.prog 126 #[.pointer (some ⟨tb, 0, none⟩), .string s] w fun e w' => e = .returned (.int .i64 L.length) ∧ (∃ v' mv', Tab w' tb (fun k => S k ∨ (w.heap.size ≤ k ∧ k < w'.heap.size)) (L ++ [s]) v' mv') ∧ But S w w' := by
  have hL : L = [] := by
    rcases h.ids with ⟨_, e⟩ | ⟨mb', D, e, r⟩
    · exact e
    · cases e
  have c0 := h.cell0
  have c1 := h.cell1
  have c2 := h.cell2
  have f := h.free
  obtain ⟨a, c, rfl⟩ := own_form h.own
  have H : Hid (Tab w tb S L (.slice a L.length c) (.map none)) := h
  have HI : Hid (Ids (.map []) L) := hide (by rw [hL]; exact Ids.nil)
  have htb := h.lt
  obtain ⟨mb, hmb⟩ : ∃ mb, mb = w.heap.size := ⟨_, rfl⟩
  have hne : tb ≠ mb := by omega
  obtain ⟨wA, hA⟩ : ∃ wA, wA = (w.setCell ⟨tb, 1, none⟩ (.map (some mb))).alloc (.map #[] 0) := ⟨_, rfl⟩
  have bA : wA.heap[tb]? = some (.cells #[.slice a L.length c, .map (some mb), .int .i64 (total L : Nat)] 110 (0, 0)) := by
    rw [hA]; exact (Below.heap_alloc _ _ tb (by rw [size_set]; exact htb)).trans (heap_setCell_same w tb 1 _ 110 _ h.blk)
  have kA : But S w wA := by rw [hA]; exact ((But.refl S w).setCell ⟨tb, 1, none⟩ (fun _ => h.inS) _).alloc _
  have sA : wA.heap.size = w.heap.size + 1 := by rw [hA]; simp [World.setCell]
  have mA : wA.ownsMap Tryz.prog 9 (plainElem Tryz.prog 3) mb 0 (.map [] : DataW Unit) := by
    have := World.ownsMap_made (w.setCell ⟨tb, 1, none⟩ (.map (some mb))) Tryz.prog 9 (plainElem (H := Unit) Tryz.prog 3); rw [size_set] at this; rw [hA]; rw [← hmb] at this; exact this
  have oA : wA.ownsRow 0 9 1 (.slice a L.length c) L.length (L.map Value.string) := by
    rw [hA]; exact own_but (S := fun k => k = tb) h.own (((But.refl (fun k => k = tb) w).setCell ⟨tb, 1, none⟩ (fun _ => rfl) _).alloc _) (fun g e => h.row_tb g e)
  have HL : Hid (L.length < 65536) := hl
  have HT : Hid (total L + s.size ≤ 4194304) := ht
  have hl' : (L.length : Int) < 65536 := by omega
  have ht' : (total L : Int) + s.size ≤ 4194304 := by omega
  have hs' : s.size ≤ maxLen := by unfold maxLen; omega
  have hq := fun W : World => Go.run_eql_map_nil (P := Tryz.prog) W 108 9 3 none Tryz.underlying108
  have BA : Hid _ := hide bA
  have KA : Hid (But S w wA) := kA
  have SA : Hid _ := hide sA
  have MA : Hid (wA.ownsMap Tryz.prog 9 (plainElem Tryz.prog 3) mb 0 (.map [] : DataW Unit)) := mA
  have OA : Hid (wA.ownsRow 0 9 1 (.slice a L.length c) L.length (L.map Value.string)) := oA
  have hmm := @run_makeMap Tryz.prog
  clear h hl ht bA kA sA mA oA hL
  subst hA hmb
  go_enter Tryz.func126, Tryz.ntmps126
  go_wp2_with (first
    | (at_mapUpdate; refine wpList_mapUpdate_own _ rfl _ _ _ 108 rfl 9 3 law9 Tryz.underlying108 _ w.heap.size 0 _ rfl MA.out (by unfold maxLen; omega) _ _ _ rfl rfl (key9 hs') _ [] (plainElem_int Tryz.underlying3 (WalkArith.wf_i64 (by omega))) ?_
       intro w1 hown1 hgrow1
       have b1 : Hid (w1.heap[tb]? = some (.cells #[.slice a L.length c, .map (some w.heap.size), .int .i64 (total L : Nat)] 110 (0, 0))) := hide ((hgrow1.block tb (Array.getElem?_eq_some_iff.1 BA.out).1 (by simpa using hne)).trans BA.out)
       have d0 : w1.cell? ⟨tb, 0, none⟩ = some (.slice a L.length c) := by rw [cell_of_row w1 tb 0 _ 110 (0, 0) b1.out]; rfl
       have d2 : w1.cell? ⟨tb, 2, none⟩ = some (.int .i64 (total L : Nat)) := by rw [cell_of_row w1 tb 2 _ 110 (0, 0) b1.out]; rfl
       have hw1 : Hid (But S w w1) := hide (KA.out.grown hgrow1 (by intro k hk e; cases e; omega))
       have o1 : Hid (w1.ownsRow 0 9 1 (.slice a L.length c) L.length (L.map Value.string)) := hide (own_but (S := fun k => k = w.heap.size) OA.out (But.of_grown hgrow1 (by intro k e; cases e; rfl)) (by obtain ⟨es, cl, hh, _⟩ := MA.out; exact own_map OA.out hh))
       have m1 : Hid _ := hide hown1
       have hlt1 : Hid (w.heap.size + 1 ≤ w1.heap.size) := hide (by have := hgrow1.size; have := SA.out; omega)
       clear hown1 hgrow1 c0 c1 c2 f)
    | (at_builtin; refine append_str _ rfl _ _ rfl 0 (.slice a L.length c) L rfl (o1.out.alloc _) w1.heap.size s rfl (cell_new _ _ _) (by omega) (Nat.zero_le _) ?_
       intro a' c' w2 o2' g2' hloc'
       have b2 : Hid (w2.heap[tb]? = some (.cells #[.slice a L.length c, .map (some w.heap.size), .int .i64 (total L : Nat)] 110 (0, 0))) := hide ((((But.refl (fun k => (Value.slice a L.length c).ownBlock = some k) w1).alloc _ |>.grown g2' (fun k _ e => e)).block tb (Array.getElem?_eq_some_iff.1 b1.out).1 (fun e => H.out.row_tb tb e rfl)).trans b1.out)
       have d0 : w2.cell? ⟨tb, 0, none⟩ = some (.slice a L.length c) := by rw [cell_of_row w2 tb 0 _ 110 (0, 0) b2.out]; rfl
       have d2 : w2.cell? ⟨tb, 2, none⟩ = some (.int .i64 (total L : Nat)) := by rw [cell_of_row w2 tb 2 _ 110 (0, 0) b2.out]; rfl
       have f2 : ∀ j, w2.frozen? ⟨tb, j, none⟩ = false := fun j => frozen_of_row w2 tb j _ 110 b2.out
       have o2 : Hid (w2.ownsRow 0 9 1 (.slice a' (L.length + 1) c') (L.length + 1) ((L ++ [s]).map Value.string)) := hide o2'
       have g2 : Hid _ := hide g2'
       have hloc : Hid _ := hide hloc'
       clear o2' g2' hloc')
    | go_in)
  go_ret
  have E := put_end H.out (by have := hlt1.out; omega) (.inr ⟨Nat.le_refl _, hlt1.out⟩) b1.out HI.out (Nat.zero_le _) m1.out hw1.out o1.out o2.out g2.out (by simpa using hloc.out) hin hs HL.out HT.out
  exact ⟨rfl, ⟨_, _, E.1.mono fun k hk => by rw [size_set, size_set]; exact hk⟩, E.2⟩
end Go.Proofs.YthgelfdefkbfeaaGreatDoor.E6
