import Derived.Test.YtimgkhdgliojgaaGreatDoorOg01
import Derived.DeepKeys
import Derived.Laws.Rows
import Derived.Laws.Tables
set_option maxRecDepth 8000
set_option maxHeartbeats 8000000
set_option linter.unusedVariables false
namespace Go.Proofs.YtimgkhdgliojgaaGreatDoor
open Go.RowKit Go.Maps
theorem low_free (m:Nat) (h:m≤16):IntKind.u16.wrap (IntKind.u16.wrap (2 ^ m) - 1)=((2 ^ m - 1:Nat):Int):=by
 have:∀ m:Fin 17,IntKind.u16.wrap (IntKind.u16.wrap (2 ^ m.val) - 1)=((2 ^ m.val - 1:Nat):Int):=by decide
 exact this ⟨m,by omega⟩
theorem over_lt {Z:Nat→Prop} {w:World} {a b:Tr} {pa pb:Nat} (ha:TrAt Z w a pa) (hb:TrAt Z w b pb) (oka:a.ok) (okb:b.ok) {m p:Nat} (hm5:5≤m) (hm:m≤16) (hbl:Lib.bitLen ((a.q * 2 ^ a.k) ^^^ (b.q * 2 ^ b.k))=m) (ia:a.In (m - 1) (2 * p)) (ib:b.In (m - 1) (2 * p+1)) (hp:a.q * 2 ^ a.k / 2 ^ m=p) (hlt:a.q * 2 ^ a.k < b.q * 2 ^ b.k) :
  Calls Tryz.prog 77 #[.pointer (some ⟨pa,0,none⟩),.pointer (some ⟨pb,0,none⟩)] w fun e w'=>∃ z t,e=.returned (.pointer (some ⟨z,0,none⟩))∧TrAt (Nz Z w w') w' t z∧Jn a b t∧Below w.heap.size w w':=by
 obtain ⟨l1,h1,f1,bb1⟩:=ha.blk
 obtain ⟨l2,h2,f2,bb2⟩:=hb.blk
 obtain ⟨a0,a1,a2,a3,a4,a5,al⟩:=tc_cells bb1
 obtain ⟨b0,b1,b2,b3,b4,b5,bl⟩:=tc_cells bb2
 have g1:=Tr.gg_lt oka
 have g2:=Tr.gg_lt okb
 have hz:(a.q * 2 ^ a.k) ^^^ (b.q * 2 ^ b.k) < 65536:=Nat.xor_lt_two_pow (n:=16) g1 g2
 have hlen:=fun W=>len16_any (((a.q * 2 ^ a.k) ^^^ (b.q * 2 ^ b.k):Nat):Int) W (by omega) (by omega)
 rw [Int.toNat_natCast,hbl] at hlen
 have hxor:bits .xor .u16 a.gg b.gg=(((a.q * 2 ^ a.k) ^^^ (b.q * 2 ^ b.k):Nat):Int):=u16_xor_nat _ _ g1 g2
 rw [← hxor] at hlen
 have hnot:bits .andNot .u16 a.gg ((2 ^ m - 1:Nat):Int)=((p * 2 ^ m:Nat):Int):=by
  have h9:=pow_le16 hm
  unfold Tr.gg
  rw [u16_andNot_nat _ _ g1 (by omega),mask_hi _ _ g1 hm,hp]
 have hgt:¬ b.gg < a.gg:=by unfold Tr.gg;omega
 have hlf:=low_free m hm
 have HJ:=hide (Jn.over oka okb hm ia ib hm5)
 have HA:=hide ha
 have HB:=hide hb
 have HL:=hide hlen
 have hmI:(m:Int)≤16:=by omega
 have hm0:(0:Int)≤m:=by omega
 obtain ⟨R,hR⟩:∃ R,((2 ^ m - 1:Nat):Int)=R:=⟨_,rfl⟩
 have HR:=hide hR
 rw [hR] at hlf hnot
 generalize a.gg=A at a0 hxor hnot hgt HL
 generalize b.gg=B at b0 hxor hgt HL
 clear ha hb bb1 bb2 g1 g2 hz hlen hxor hR oka okb ia ib hm hm5 hbl hp hlt a1 a3 a4 a5 b1 b3 b4 b5
 go_enter Tryz.func77,Tryz.ntmps77
 go_wp2_with fail
 go_quiet (fail)
 obtain ⟨V,hV⟩:∃ V,V=w.drewN nq:=⟨_,rfl⟩
 rw [← hV]
 have HV:=hide (show ∃ m,V=w.drewN m from ⟨_,hV⟩)
 have a0':V.cell? ⟨pa,0,none⟩=some (.int .u16 A):=by rw [hV];exact a0
 have b0':V.cell? ⟨pb,0,none⟩=some (.int .u16 B):=by rw [hV];exact b0
 have a2':V.cell? ⟨pa,2,none⟩=some (.int .i32 a.last):=by rw [hV];exact a2
 have b2':V.cell? ⟨pb,2,none⟩=some (.int .i32 b.last):=by rw [hV];exact b2
 have al':pa < V.heap.size:=by rw [hV];exact al
 have bl':pb < V.heap.size:=by rw [hV];exact bl
 clear a0 b0 a2 b2 al bl hV
 go_wp2_with fail
 go_quiet ((go_at_call 141;exact Calls.quiet_of_same (HL.out _)))
 obtain ⟨U,hU⟩:∃ U,U=V.drewN nq:=⟨_,rfl⟩
 rw [← hU]
 have HU:=hide (drew_tr18 HV.out ⟨_,hU⟩)
 have a0'':U.cell? ⟨pa,0,none⟩=some (.int .u16 A):=by rw [hU];exact a0'
 have a2'':U.cell? ⟨pa,2,none⟩=some (.int .i32 a.last):=by rw [hU];exact a2'
 have b2'':U.cell? ⟨pb,2,none⟩=some (.int .i32 b.last):=by rw [hU];exact b2'
 have al'':pa < U.heap.size:=by rw [hU];exact al'
 have HBr:=hide (branch_raw ((p * 2 ^ m:Nat):Int) R a2'' b2'')
 clear a0' b0' a2' b2' al' bl' hU a2'' b2'' HL hlf
 go_wp2_with fail
 refine HBr.out.mono ?_
 rintro e w2 ⟨z,rfl,hz1,hz2,hz3⟩
 have hbw:Below w.heap.size w w2:=(bel_drew18 HU.out).trans (hz3.mono (bel_drew18 HU.out).size)
 have hsz:w.heap.size≤z:=Nat.le_trans (bel_drew18 HU.out).size hz1
 have HT:Hid (TrAt (Nz Z w w2) w2 (.node m p (max a.last b.last) a b) z):=hide ⟨.inr ⟨hsz,lt_heap hz2⟩,pa,pb,by rw [HR.out];exact hz2,TrAt.mono Nz.old (HA.out.bel hbw),TrAt.mono Nz.old (HB.out.bel hbw)⟩
 have HBw:=hide hbw
 clear HBr hz1 hz2 hz3 hbw hsz
 go_wp2
 go_ret
 exact ⟨_,_,rfl,HT.out,HJ.out,HBw.out⟩
theorem over_gt {Z:Nat→Prop} {w:World} {a b:Tr} {pa pb:Nat} (ha:TrAt Z w a pa) (hb:TrAt Z w b pb) (oka:a.ok) (okb:b.ok) {m p:Nat} (hm5:5≤m) (hm:m≤16) (hbl:Lib.bitLen ((a.q * 2 ^ a.k) ^^^ (b.q * 2 ^ b.k))=m) (ia:a.In (m - 1) (2 * p)) (ib:b.In (m - 1) (2 * p+1)) (hp:a.q * 2 ^ a.k / 2 ^ m=p) (hlt:a.q * 2 ^ a.k < b.q * 2 ^ b.k) :
  Calls Tryz.prog 77 #[.pointer (some ⟨pb,0,none⟩),.pointer (some ⟨pa,0,none⟩)] w fun e w'=>∃ z t,e=.returned (.pointer (some ⟨z,0,none⟩))∧TrAt (Nz Z w w') w' t z∧Jn b a t∧Below w.heap.size w w':=by
 obtain ⟨l1,h1,f1,bb1⟩:=ha.blk
 obtain ⟨l2,h2,f2,bb2⟩:=hb.blk
 obtain ⟨a0,a1,a2,a3,a4,a5,al⟩:=tc_cells bb1
 obtain ⟨b0,b1,b2,b3,b4,b5,bl⟩:=tc_cells bb2
 have g1:=Tr.gg_lt oka
 have g2:=Tr.gg_lt okb
 have hz:(a.q * 2 ^ a.k) ^^^ (b.q * 2 ^ b.k) < 65536:=Nat.xor_lt_two_pow (n:=16) g1 g2
 have hlen:=fun W=>len16_any (((a.q * 2 ^ a.k) ^^^ (b.q * 2 ^ b.k):Nat):Int) W (by omega) (by omega)
 rw [Int.toNat_natCast,hbl] at hlen
 have hxor:bits .xor .u16 a.gg b.gg=(((a.q * 2 ^ a.k) ^^^ (b.q * 2 ^ b.k):Nat):Int):=u16_xor_nat _ _ g1 g2
 rw [← hxor] at hlen
 have hnot:bits .andNot .u16 a.gg ((2 ^ m - 1:Nat):Int)=((p * 2 ^ m:Nat):Int):=by
  have h9:=pow_le16 hm
  unfold Tr.gg
  rw [u16_andNot_nat _ _ g1 (by omega),mask_hi _ _ g1 hm,hp]
 have hgt:a.gg < b.gg:=by unfold Tr.gg;omega
 have hlf:=low_free m hm
 have HJ:=hide (Jn.over oka okb hm ia ib hm5)
 have HA:=hide ha
 have HB:=hide hb
 have HL:=hide hlen
 have hmI:(m:Int)≤16:=by omega
 have hm0:(0:Int)≤m:=by omega
 obtain ⟨R,hR⟩:∃ R,((2 ^ m - 1:Nat):Int)=R:=⟨_,rfl⟩
 have HR:=hide hR
 rw [hR] at hlf hnot
 generalize a.gg=A at a0 hxor hnot hgt HL
 generalize b.gg=B at b0 hxor hgt HL
 clear ha hb bb1 bb2 g1 g2 hz hlen hxor hR oka okb ia ib hm hm5 hbl hp hlt a1 a3 a4 a5 b1 b3 b4 b5
 go_enter Tryz.func77,Tryz.ntmps77
 go_wp2_with fail
 go_quiet (fail)
 obtain ⟨V,hV⟩:∃ V,V=w.drewN nq:=⟨_,rfl⟩
 rw [← hV]
 have HV:=hide (show ∃ m,V=w.drewN m from ⟨_,hV⟩)
 have a0':V.cell? ⟨pa,0,none⟩=some (.int .u16 A):=by rw [hV];exact a0
 have b0':V.cell? ⟨pb,0,none⟩=some (.int .u16 B):=by rw [hV];exact b0
 have a2':V.cell? ⟨pa,2,none⟩=some (.int .i32 a.last):=by rw [hV];exact a2
 have b2':V.cell? ⟨pb,2,none⟩=some (.int .i32 b.last):=by rw [hV];exact b2
 have al':pa < V.heap.size:=by rw [hV];exact al
 have bl':pb < V.heap.size:=by rw [hV];exact bl
 clear a0 b0 a2 b2 al bl hV
 go_wp2_with fail
 go_quiet ((go_at_call 141;exact Calls.quiet_of_same (HL.out _)))
 obtain ⟨U,hU⟩:∃ U,U=V.drewN nq:=⟨_,rfl⟩
 rw [← hU]
 have HU:=hide (drew_tr18 HV.out ⟨_,hU⟩)
 have a0'':U.cell? ⟨pa,0,none⟩=some (.int .u16 A):=by rw [hU];exact a0'
 have a2'':U.cell? ⟨pa,2,none⟩=some (.int .i32 a.last):=by rw [hU];exact a2'
 have b2'':U.cell? ⟨pb,2,none⟩=some (.int .i32 b.last):=by rw [hU];exact b2'
 have al'':pa < U.heap.size:=by rw [hU];exact al'
 have HBr:=hide (branch_raw ((p * 2 ^ m:Nat):Int) R a2'' b2'')
 clear a0' b0' a2' b2' al' bl' hU a2'' b2'' HL hlf
 go_wp2_with fail
 refine HBr.out.mono ?_
 rintro e w2 ⟨z,rfl,hz1,hz2,hz3⟩
 have hbw:Below w.heap.size w w2:=(bel_drew18 HU.out).trans (hz3.mono (bel_drew18 HU.out).size)
 have hsz:w.heap.size≤z:=Nat.le_trans (bel_drew18 HU.out).size hz1
 have HT:Hid (TrAt (Nz Z w w2) w2 (.node m p (max a.last b.last) a b) z):=hide ⟨.inr ⟨hsz,lt_heap hz2⟩,pa,pb,by rw [HR.out];exact hz2,TrAt.mono Nz.old (HA.out.bel hbw),TrAt.mono Nz.old (HB.out.bel hbw)⟩
 have HBw:=hide hbw
 clear HBr hz1 hz2 hz3 hbw hsz
 go_wp2
 go_ret
 exact ⟨_,_,rfl,HT.out,HJ.out.symm,HBw.out⟩
theorem over_any {Z:Nat→Prop} {w:World} {a b:Tr} {pa pb:Nat} (ha:TrAt Z w a pa) (hb:TrAt Z w b pb) (oka:a.ok) (okb:b.ok) (hk:b.k≤a.k) (hns:¬ b.q * 2 ^ b.k / 2 ^ a.k=a.q) :
  Calls Tryz.prog 77 #[.pointer (some ⟨pa,0,none⟩),.pointer (some ⟨pb,0,none⟩)] w fun e w'=>∃ z t,e=.returned (.pointer (some ⟨z,0,none⟩))∧TrAt (Nz Z w w') w' t z∧Jn a b t∧Below w.heap.size w w':=by
 have hne:a.q * 2 ^ a.k≠b.q * 2 ^ b.k:=fun e=>hns (by rw [← e];exact Tr.gg_div)
 by_cases hlt:a.q * 2 ^ a.k < b.q * 2 ^ b.k
 ·obtain ⟨m,p,h1,h2,h3,h4,h5,h6⟩:=Tr.apart oka okb hk hns hlt
  exact over_lt ha hb oka okb h1 h2 h3 h4 h5 h6 hlt
 ·obtain ⟨m,p,h1,h2,h3,h4,h5,h6⟩:=Tr.apart2 oka okb hk hns (by omega)
  exact over_gt hb ha okb oka h1 h2 h3 h4 h5 h6 (by omega)
end Go.Proofs.YtimgkhdgliojgaaGreatDoor
namespace Go.Proofs.YtimgkhdgliojgaaGreatDoor
open Go.RowKit Go.Maps
set_option maxRecDepth 20000
theorem l16 {xs:List Int} (h:xs.length=16):∃ x0 x1 x2 x3 x4 x5 x6 x7 x8 x9 x10 x11 x12 x13 x14 x15,xs=[x0,x1,x2,x3,x4,x5,x6,x7,x8,x9,x10,x11,x12,x13,x14,x15]:=by
 match xs,h with
 | [x0,x1,x2,x3,x4,x5,x6,x7,x8,x9,x10,x11,x12,x13,x14,x15],_=>exact ⟨x0,x1,x2,x3,x4,x5,x6,x7,x8,x9,x10,x11,x12,x13,x14,x15,rfl⟩
theorem mapM_some {α β:Type} {f:α→Option β} {g:α→β}:∀ {l:List α},(∀ i ∈ l,f i=some (g i))→l.mapM f=some (l.map g):=by
 intro l
 induction l with
 | nil=>intro _;rfl
 | cons x l ih =>
  intro h
  rw [List.mapM_cons,h x (List.mem_cons.2 (.inl rfl)),ih (fun i hi=>h i (List.mem_cons.2 (.inr hi)))]
  rfl
theorem one_lit {n:Int} (h:0≤n∧n≤1048576) (d:Nat):Tryz.prog.keyLits (d+1) 21 [.int .i32 n]=some [.int .i32 n]:=by
 unfold Program.keyLits
 rw [Tryz.underlying21]
 have e1:IntKind.i32.min=-2147483648:=by decide
 have e2:IntKind.i32.max=2147483647:=by decide
 have hw:(Lit.int .i32 n).wf=true:=by
  have:IntKind.i32.min≤n∧n≤IntKind.i32.max:=by rw [e1,e2];omega
  simpa [Lit.wf] using this
 simp [hw]
theorem cells_i32:Tryz.prog.cellsOf 21=1:=by kernel_rfl
theorem cells_leaf:Tryz.prog.cellsOf 184=16:=by kernel_rfl
theorem leaf_lits {zs:List Int} (hl:zs.length=16) (h:∀ v ∈ zs,0≤v∧v≤1048576):Tryz.prog.keyLits 5 184 (zs.map (Value.int .i32))=some (zs.map (Lit.int IntKind.i32)):=by
 unfold Program.keyLits
 rw [Tryz.underlying184]
 dsimp only
 rw [cells_leaf,cells_i32,if_pos (by rw [List.length_map];exact hl)]
 rw [mapM_some (g:=fun i=>[Lit.int IntKind.i32 (zs.getD i 0)]) (fun i hi=>?_)]
 ·rw [Option.map_some]
  obtain ⟨x0,x1,x2,x3,x4,x5,x6,x7,x8,x9,x10,x11,x12,x13,x14,x15,rfl⟩:=l16 hl
  rfl
 ·have hi16:i < 16:=List.mem_range.1 hi
  have hg:zs[i]?=some (zs.getD i 0):=by rw [List.getD_eq_getElem?_getD,List.getElem?_eq_getElem (by omega)];rfl
  have hd:((zs.map (Value.int .i32)).drop (i * 1)).take 1=[.int .i32 (zs.getD i 0)]:=by
   rw [Nat.mul_one,← List.map_drop,← List.map_take]
   have hlt:i < zs.length:=by omega
   rw [List.drop_eq_getElem_cons hlt,List.take_succ_cons,List.take_zero]
   rw [List.getElem?_eq_getElem hlt] at hg
   rw [Option.some.inj hg]
   rfl
  rw [hd]
  exact one_lit (h _ (List.mem_of_getElem? hg)) 3
theorem lit_inj:∀ {xs ys:List Int},xs.map (Lit.int IntKind.i32)=ys.map (Lit.int IntKind.i32)→xs=ys:=by
 intro xs
 induction xs with
 | nil=>intro ys h;cases ys with
  | nil=>rfl
  | cons y ys=>cases h
 | cons x xs ih =>
  intro ys h
  cases ys with
  | nil=>cases h
  | cons y ys =>
   rw [List.map_cons,List.map_cons] at h
   injection h with h1 h2
   injection h1 with h3 h4
   rw [h4,ih h2]
theorem leaf_eql {xs ys:List Int} (hx:xs.length=16) (hy:ys.length=16) (bx:∀ v ∈ xs,0≤v∧v≤1048576) (by_:∀ v ∈ ys,0≤v∧v≤1048576) (w:World):(binOp .eql 184 (.agg (xs.map (Value.int .i32)).toArray) (.agg (ys.map (Value.int .i32)).toArray)).run Tryz.prog w=.ok (.bool (decide (xs=ys))) w:=by
 have fm:∀ {zs:List Int},zs.length=16→(Value.agg (zs.map (Value.int .i32)).toArray).formed Tryz.prog 184=true:=fun {zs} h=>by
  unfold Value.formed
  rw [Tryz.underlying184]
  dsimp only
  rw [cells_leaf]
  simp [h]
 obtain ⟨r,h1,h2⟩:=run_equalIn_deep (P:=Tryz.prog) 9998 2 184 (by kernel_rfl) w 5 5 (.agg (xs.map (Value.int .i32)).toArray) (.agg (ys.map (Value.int .i32)).toArray) _ _ (fm hx) (fm hy) (leaf_lits hx bx) (leaf_lits hy by_)
 rw [run_eql_struct,show (10000:Nat)=9998+2 from rfl,h1]
 have h3:r=decide (xs=ys):=by
  rw [Bool.eq_iff_iff,h2,decide_eq_true_eq]
  exact ⟨lit_inj,fun e=>by rw [e]⟩
 rw [h3]
 rfl
end Go.Proofs.YtimgkhdgliojgaaGreatDoor
namespace Go.Proofs.YtimgkhdgliojgaaGreatDoor
open Go.RowKit Go.Maps
def zipN (xs ys:List Int) (j:Nat):List Int:=(List.zipWith max xs ys).take j++xs.drop j
theorem zipN_zero (xs ys:List Int):zipN xs ys 0=xs:=by unfold zipN;simp
theorem zipN_all {xs ys:List Int} (hx:xs.length=16) (hy:ys.length=16):zipN xs ys 16=List.zipWith max xs ys:=by
 unfold zipN
 rw [List.take_of_length_le (by rw [List.length_zipWith];omega),List.drop_of_length_le (by omega),List.append_nil]
theorem zipN_len {xs ys:List Int} (hx:xs.length=16) (hy:ys.length=16) {j:Nat} (hj:j≤16):(zipN xs ys j).length=16:=by
 unfold zipN
 rw [List.length_append,List.length_take,List.length_zipWith,List.length_drop]
 omega
theorem zipN_get {xs ys:List Int} (hx:xs.length=16) (hy:ys.length=16) {j:Nat} (hj:j < 16):(zipN xs ys j).getD j 0=xs.getD j 0:=by
 unfold zipN
 rw [List.getD_eq_getElem?_getD,List.getD_eq_getElem?_getD,List.getElem?_append_right (by rw [List.length_take,List.length_zipWith];omega),List.length_take,List.length_zipWith,List.getElem?_drop]
 congr 2
 omega
theorem zipN_set {xs ys:List Int} (hx:xs.length=16) (hy:ys.length=16) {j:Nat} (hj:j < 16):(zipN xs ys j).set j (max (xs.getD j 0) (ys.getD j 0))=zipN xs ys (j+1):=by
 unfold zipN
 have hz:(List.zipWith max xs ys).length=16:=by rw [List.length_zipWith];omega
 rw [List.set_append_right _ _ (by rw [List.length_take];omega),List.length_take,show j - min j (List.zipWith max xs ys).length=0 by omega]
 rw [List.drop_eq_getElem_cons (show j < xs.length by omega),List.set_cons_zero,List.take_succ_eq_append_getElem (show j < (List.zipWith max xs ys).length by omega),List.append_assoc]
 have h1:=zip_max xs ys j (by omega)
 rw [List.getD_eq_getElem?_getD,List.getElem?_eq_getElem (show j < (List.zipWith max xs ys).length by omega)] at h1
 have h2:(List.zipWith max xs ys)[j]=max (xs.getD j 0) (ys.getD j 0):=h1
 rw [h2]
 rfl
structure Lv (w wr:World) (zs:List Int):Prop where
 bel:Below w.heap.size w wr
 blk:wr.heap[w.heap.size]?=some (.cells (zs.map (Value.int .i32)).toArray 184 (0,0))
theorem Lv.on {w wr w':World} {zs:List Int} (h:Lv w wr zs) (hb:Below wr.heap.size wr w'):Lv w w' zs:=⟨h.bel.trans (hb.mono h.bel.size),(hb.block _ (lt_heap h.blk)).trans h.blk⟩
theorem Lv.set {w wr:World} {zs:List Int} (h:Lv w wr zs) {j:Nat} (v:Int):Lv w (wr.setCell ⟨w.heap.size,j,none⟩ (.int .i32 v)) (zs.set j v):=by
 refine ⟨h.bel.setCell (p:=⟨w.heap.size,j,none⟩) (Nat.le_refl _) _,?_⟩
 rw [set1_heap _ h.blk,List.setIfInBounds_toArray,List.map_set]
def zer:Array Value:=#[.int .i32 0,.int .i32 0,.int .i32 0,.int .i32 0,.int .i32 0,.int .i32 0,.int .i32 0,.int .i32 0,.int .i32 0,.int .i32 0,.int .i32 0,.int .i32 0,.int .i32 0,.int .i32 0,.int .i32 0,.int .i32 0]
theorem row_new (w:World) {zs:List Int} (h:zs.length=16):Below w.heap.size w ((w.alloc (.cells zer 184)).setRow w.heap.size (zs.map (Value.int .i32)).toArray)∧((w.alloc (.cells zer 184)).setRow w.heap.size (zs.map (Value.int .i32)).toArray).heap[w.heap.size]?=some (.cells (zs.map (Value.int .i32)).toArray 184 (0,0)):=by
 have h1:=setRow_heap (w.alloc (.cells zer 184)) w.heap.size zer (zs.map (Value.int .i32)).toArray 184 (0,0) (heap_new _ _)
 refine ⟨⟨rfl,rfl,rfl,by simp,fun k hk=>?_⟩,h1⟩
 rw [setRow_other _ _ _ _ (by omega)]
 exact Below.heap_alloc _ _ _ hk
theorem infoLeaf:(Tryz.prog.info? 184).map (·.size)=some 16:=by kernel_rfl
theorem leaf_size {zs:List Int} (h:zs.length=16):(zs.map (Value.int .i32)).toArray.size=16:=by simp [h]
theorem leaf_info {zs:List Int} (h:zs.length=16):(Tryz.prog.info? 184).map (·.size)=some (zs.map (Value.int .i32)).toArray.size:=by rw [leaf_size h];exact infoLeaf
theorem leaf_one (zs:List Int):(zs.map (Value.int .i32)).toArray.all (·.oneCell')=true:=by
 rw [Array.all_eq_true_iff_forall_mem]
 intro x hx
 simp at hx
 obtain ⟨a,_,rfl⟩:=hx
 rfl
theorem joinLeaves_any {Z:Nat→Prop} {w:World} {q:Nat} {la lb:Int} {xs ys:List Int} {pa pb:Nat} (ha:TrAt Z w (.leaf q la xs) pa) (hb:TrAt Z w (.leaf q lb ys) pb) (oka:(Tr.leaf q la xs).ok) (okb:(Tr.leaf q lb ys).ok) :
  Calls Tryz.prog 78 #[.pointer (some ⟨pa,0,none⟩),.pointer (some ⟨pb,0,none⟩)] w fun e w'=>∃ z t,e=.returned (.pointer (some ⟨z,0,none⟩))∧TrAt (Nz Z w w') w' t z∧Jn (.leaf q la xs) (.leaf q lb ys) t∧Below w.heap.size w w':=by
 have HTA:=hide ha
 have HTB:=hide hb
 obtain ⟨_,lpa,_,ba,hla⟩:=ha
 obtain ⟨_,lpb,_,bb,hlb⟩:=hb
 have hx:=oka.2.1
 have hy:=okb.2.1
 have HX:=hide hx
 have HY:=hide hy
 have HLA:=hide hla
 have HLB:=hide hlb
 have HOA:=hide oka
 have HOB:=hide okb
 obtain ⟨a0,a1,a2,a3,a4,a5,al⟩:=tc_cells ba
 obtain ⟨b0,b1,b2,b3,b4,b5,bl⟩:=tc_cells bb
 have hlal:=lt_heap hla
 have hlbl:=lt_heap hlb
 unfold ptr at a5 b5
 have HCx:Hid (∀ X,Below w.heap.size w X→X.cell? ⟨pa,0,none⟩=some (.int .u16 ((q * 16:Nat):Int))∧X.cell? ⟨pa,1,none⟩=some (.int .u16 15)∧X.cell? ⟨pa,2,none⟩=some (.int .i32 la)∧X.cell? ⟨pb,2,none⟩=some (.int .i32 lb)∧X.cell? ⟨pa,5,none⟩=some (.pointer (some ⟨lpa,0,none⟩))∧X.cell? ⟨pb,5,none⟩=some (.pointer (some ⟨lpb,0,none⟩))∧pa < X.heap.size∧pb < X.heap.size∧lpa < X.heap.size∧lpb < X.heap.size):=hide (fun X hX=>⟨(hX.cell (p:=⟨pa,0,none⟩) al).trans a0,(hX.cell (p:=⟨pa,1,none⟩) al).trans a1,(hX.cell (p:=⟨pa,2,none⟩) al).trans a2,(hX.cell (p:=⟨pb,2,none⟩) bl).trans b2,(hX.cell (p:=⟨pa,5,none⟩) al).trans a5,(hX.cell (p:=⟨pb,5,none⟩) bl).trans b5,Nat.lt_of_lt_of_le al hX.size,Nat.lt_of_lt_of_le bl hX.size,Nat.lt_of_lt_of_le hlal hX.size,Nat.lt_of_lt_of_le hlbl hX.size⟩)
 have HInf:=hide (leaf_info hx)
 have HInfy:=hide (leaf_info hy)
 have HOne:=hide (leaf_one xs)
 have HSz:Hid ((16:Nat)=(xs.map (Value.int .i32)).toArray.size):=hide (leaf_size hx).symm
 obtain ⟨W2,hW2⟩:∃ W2,W2=(w.alloc (.cells zer 184)).setRow w.heap.size (xs.map (Value.int .i32)).toArray:=⟨_,rfl⟩
 obtain ⟨r1,r2⟩:=row_new w hx
 rw [← hW2] at r1 r2
 have HL0:Hid (Lv w W2 (zipN xs ys 0)):=hide (by rw [zipN_zero];exact ⟨r1,r2⟩)
 have HW2:=hide hW2
 unfold zer at HW2
 obtain ⟨_,_,_,_,_,y5,_,yl,_,_⟩:=HCx.out W2 r1
 clear hx hy hla hlb oka okb ba bb a0 a1 a2 a3 a4 b0 b1 b2 b3 b4 hW2 r1 r2
 go_enter Tryz.func78,Tryz.ntmps78
 go_wp2_with (first
  | (refine wpList_load_row rfl 184 (.tmp 13) rfl lpa rfl 184 (xs.map (Value.int .i32)).toArray (0,0) _ HLA.out Tryz.underlying184 rfl HInf.out ?_)
  | (refine wpList_store_row rfl 184 (.tmp 5) (.tmp 14) rfl w.heap.size (xs.map (Value.int .i32)).toArray rfl rfl 184 _ (heap_new _ _) HInf.out HSz.out HOne.out ?_;rw [← HW2.out]))
 clear HW2 a5 b5 al bl hlal hlbl y5 yl
 go_loopw [19] (fun i wr=>∃ j:Nat,j≤16∧i=.int .i64 j∧Hid (Lv w wr (zipN xs ys j))) (fun i _=>16 - (intOf i).toNat)
 case atStart=>exact ⟨0,by omega,rfl,HL0⟩
 case round =>
  clear HL0
  obtain ⟨j,hj,rfl,HJ⟩:=hrel
  obtain ⟨a0,a1,a2,b2,a5,b5,al,bl,lal,lbl⟩:=HCx.out wr HJ.out.bel
  by_cases hlt:j < 16
  ·have hjI:(j:Int) < 16:=by omega
   have hj0:(0:Int)≤j:=by omega
   have hyc:wr.cell? ⟨lpb,j,none⟩=some (.int .i32 (ys.getD j 0)):=leaf_cell ((HJ.out.bel.block lpb (lt_heap HLB.out)).trans HLB.out) HY.out hlt
   have hgl:=lt_heap HJ.out.blk
   have hxc:wr.cell? ⟨w.heap.size,j,none⟩=some (.int .i32 (xs.getD j 0)):=by
    have h9:=leaf_cell HJ.out.blk (zipN_len HX.out HY.out (by omega)) hlt
    rw [zipN_get HX.out HY.out hlt] at h9
    exact h9
   have hfz:wr.frozen? ⟨w.heap.size,j,none⟩=false:=frz HJ.out.blk j
   have HJ2:Hid (∀ m,Lv w ((wr.drewN m).setCell ⟨w.heap.size,j,none⟩ (.int .i32 (max (xs.getD j 0) (ys.getD j 0)))) (zipN xs ys (j+1))):=hide (fun m=>by rw [← zipN_set HX.out HY.out hlt];exact (HJ.out.on (below_drewN (Below.refl _ _) m)).set _)
   generalize ys.getD j 0=yv at hyc HJ2
   generalize xs.getD j 0=xv at hxc HJ2
   generalize w.heap.size=gb at hgl hxc hfz HJ2 ⊢
   clear HJ a0 a1 a2 b2 a5 b5 al bl lal hlt
   go_wp2_with fail
   go_quiet (fail)
   go_wp2
   exact ⟨⟨j+1,by omega,by go_num,hide (HJ2.out _)⟩,by simp [intOf];omega⟩
  ·have hjI:¬ (j:Int) < 16:=by omega
   obtain rfl:j=16:=by omega
   clear hj hlt
   have HZ:Hid (Lv w wr (List.zipWith max xs ys)):=hide (by have h9:=HJ.out;rw [zipN_all HX.out HY.out] at h9;exact h9)
   clear HJ
   have HJn:=hide (Jn.leaf HOA.out HOB.out)
   obtain ⟨zs,hzs⟩:∃ zs,List.zipWith max xs ys=zs:=⟨_,rfl⟩
   have HZs:=hide hzs
   rw [hzs] at HZ HJn
   have HZl:Hid (zs.length=16):=hide HJn.out.ok.2.1
   have HZb:Hid (∀ v ∈ zs,0≤v∧v≤1048576):=hide HJn.out.ok.2.2.1
   have hq1:=fun W=>leaf_eql HZl.out HX.out HZb.out HOA.out.2.2.1 W
   have hq2:=fun W=>leaf_eql HZl.out HY.out HZb.out HOB.out.2.2.1 W
   have HInfz:=hide (leaf_info HZl.out)
   have HLAr:Hid (wr.heap[lpa]?=some (.cells (xs.map (Value.int .i32)).toArray 184 (0,0))):=hide ((HZ.out.bel.block lpa (lt_heap HLA.out)).trans HLA.out)
   have HLBr:Hid (wr.heap[lpb]?=some (.cells (ys.map (Value.int .i32)).toArray 184 (0,0))):=hide ((HZ.out.bel.block lpb (lt_heap HLB.out)).trans HLB.out)
   have HLZr:=hide HZ.out.blk
   have HBel:=hide HZ.out.bel
   have hgl:=lt_heap HZ.out.blk
   clear hzs
   by_cases h1:zs=xs
   ·have hd:=decide_eq_true h1
    rw [hd] at hq1
    have HR:Hid (Jn (.leaf q la xs) (.leaf q lb ys) (.leaf q la xs)):=hide (Jn.left HOA.out (fun x=>by
     have h9:=HJn.out.tm x
     rw [h1] at h9
     have h8:(Tr.leaf q (max la lb) xs).tm x=(Tr.leaf q la xs).tm x:=rfl
     rw [h8] at h9
     omega))
    clear h1 hd
    go_wp2_with (first
     | (refine wpList_load_row rfl 184 (.tmp 5) rfl w.heap.size rfl 184 (zs.map (Value.int .i32)).toArray (0,0) _ HLZr.out Tryz.underlying184 rfl HInfz.out ?_)
     | (refine wpList_load_row rfl 184 (.tmp 39) rfl lpa rfl 184 (xs.map (Value.int .i32)).toArray (0,0) _ HLAr.out Tryz.underlying184 rfl HInf.out ?_))
    go_ret
    exact ⟨pa,rfl,.leaf q la xs,TrAt.mono Nz.old (HTA.out.bel HBel.out),HR.out,HBel.out⟩
   ·have hd:=decide_eq_false h1
    rw [hd] at hq1
    clear h1 hd
    by_cases h2:zs=ys
    ·have hd:=decide_eq_true h2
     rw [hd] at hq2
     have HR:Hid (Jn (.leaf q la xs) (.leaf q lb ys) (.leaf q lb ys)):=hide (Jn.right HOB.out (fun x=>by
      have h9:=HJn.out.tm x
      rw [h2] at h9
      have h8:(Tr.leaf q (max la lb) ys).tm x=(Tr.leaf q lb ys).tm x:=rfl
      rw [h8] at h9
      omega))
     clear h2 hd
     go_wp2_with (first
      | (refine wpList_load_row rfl 184 (.tmp 5) rfl w.heap.size rfl 184 (zs.map (Value.int .i32)).toArray (0,0) _ HLZr.out Tryz.underlying184 rfl HInfz.out ?_)
      | (refine wpList_load_row rfl 184 (.tmp 39) rfl lpa rfl 184 (xs.map (Value.int .i32)).toArray (0,0) _ HLAr.out Tryz.underlying184 rfl HInf.out ?_)
      | (refine wpList_load_row rfl 184 (.tmp 48) rfl lpb rfl 184 (ys.map (Value.int .i32)).toArray (0,0) _ HLBr.out Tryz.underlying184 rfl HInfy.out ?_))
     go_ret
     exact ⟨pb,rfl,.leaf q lb ys,TrAt.mono Nz.old (HTB.out.bel HBel.out),HR.out,HBel.out⟩
    ·have hd:=decide_eq_false h2
     rw [hd] at hq2
     clear h2 hd
     have HOnez:=hide (leaf_one zs)
     have HSzz:Hid ((16:Nat)=(zs.map (Value.int .i32)).toArray.size):=hide (leaf_size HZl.out).symm
     obtain ⟨W4,hW4⟩:∃ W4,W4=(wr.alloc (.cells zer 184)).setRow wr.heap.size (zs.map (Value.int .i32)).toArray:=⟨_,rfl⟩
     obtain ⟨r1,r2⟩:=row_new wr HZl.out
     rw [← hW4] at r1 r2
     have HB4:=hide (HBel.out.trans (r1.mono HBel.out.size))
     have HW4:=hide hW4
     have HR2:=hide r2
     have HS4:Hid (wr.heap.size < W4.heap.size):=hide (lt_heap r2)
     unfold zer at HW4
     obtain ⟨c0,c1,c2,d2,c5,d5,cl,dl,cll,dll⟩:=HCx.out W4 HB4.out
     have HSx:Hid (∀ X,Below W4.heap.size W4 X→X.cell? ⟨pa,0,none⟩=some (.int .u16 ((q * 16:Nat):Int))∧X.cell? ⟨pa,1,none⟩=some (.int .u16 15)∧X.cell? ⟨pa,2,none⟩=some (.int .i32 la)∧X.cell? ⟨pb,2,none⟩=some (.int .i32 lb)):=hide (fun X hX=>⟨(hX.cell (p:=⟨pa,0,none⟩) cl).trans c0,(hX.cell (p:=⟨pa,1,none⟩) cl).trans c1,(hX.cell (p:=⟨pa,2,none⟩) cl).trans c2,(hX.cell (p:=⟨pb,2,none⟩) dl).trans d2⟩)
     generalize hqq:((q * 16:Nat):Int)=Q at HSx c0 a0
     have HQ:=hide hqq
     have H0:=hide (Below.refl W4.heap.size W4)
     have H1:=hide ((Below.refl W4.heap.size W4).drew)
     have H2:=hide ((below_alloc1 W4 (.cells #[.int .u16 Q,.int .u16 15,.int .i32 (max la lb),.pointer none,.pointer none,.pointer (some ⟨wr.heap.size,0,none⟩)] 166)).drew)
     have HN:Hid ((W4.alloc (.cells #[.int .u16 Q,.int .u16 15,.int .i32 (max la lb),.pointer none,.pointer none,.pointer (some ⟨wr.heap.size,0,none⟩)] 166)).drew.heap[W4.heap.size]?=some (.cells (tC Q 15 (max la lb) (.pointer none) (.pointer none) (ptr wr.heap.size)) 166 (0,0))):=hide (heap_new _ _)
     clear hW4 r1 r2 hqq c5 d5 cll dll
     go_wp2_with (first
      | (refine wpList_load_row rfl 184 (.tmp 5) rfl w.heap.size rfl 184 (zs.map (Value.int .i32)).toArray (0,0) _ HLZr.out Tryz.underlying184 rfl HInfz.out ?_)
      | (refine wpList_load_row rfl 184 (.tmp 39) rfl lpa rfl 184 (xs.map (Value.int .i32)).toArray (0,0) _ HLAr.out Tryz.underlying184 rfl HInf.out ?_)
      | (refine wpList_load_row rfl 184 (.tmp 48) rfl lpb rfl 184 (ys.map (Value.int .i32)).toArray (0,0) _ HLBr.out Tryz.underlying184 rfl HInfy.out ?_)
      | (refine wpList_store_row rfl 184 (.tmp 8) (.tmp 52) rfl wr.heap.size (zs.map (Value.int .i32)).toArray rfl rfl 184 _ (heap_new _ _) HInfz.out HSzz.out HOnez.out ?_;rw [← HW4.out]))
     clear HW4 a0 a1 a2 b2 a5 b5 al bl lal lbl hq1 hq2
     go_region_held3 (fun X=>X.cell? ⟨pa,0,none⟩=some (.int .u16 Q)∧X.cell? ⟨pa,1,none⟩=some (.int .u16 15)∧X.cell? ⟨pa,2,none⟩=some (.int .i32 la)∧X.cell? ⟨pb,2,none⟩=some (.int .i32 lb))
      (first|with_reducible exact HSx.out _ H0.out|with_reducible exact HSx.out _ H1.out|with_reducible exact HSx.out _ H2.out)
      (fail)
     have HB5:=hide (HB4.out.trans (H2.out.mono HB4.out.size))
     have HT5:Hid (TrAt (Nz Z w (W4.alloc (.cells #[.int .u16 Q,.int .u16 15,.int .i32 (max la lb),.pointer none,.pointer none,.pointer (some ⟨wr.heap.size,0,none⟩)] 166)).drew) (W4.alloc (.cells #[.int .u16 Q,.int .u16 15,.int .i32 (max la lb),.pointer none,.pointer none,.pointer (some ⟨wr.heap.size,0,none⟩)] 166)).drew (.leaf q (max la lb) zs) W4.heap.size):=hide (by
      have s1:=HBel.out.size
      have s2:=HS4.out
      have s3:=lt_heap HN.out
      refine ⟨.inr ⟨by omega,s3⟩,wr.heap.size,.inr ⟨by omega,by omega⟩,by rw [HQ.out];exact HN.out,(H2.out.block _ s2).trans HR2.out⟩)
     go_wp2
     go_ret
     exact ⟨_,_,rfl,HT5.out,HJn.out,HB5.out⟩
end Go.Proofs.YtimgkhdgliojgaaGreatDoor
