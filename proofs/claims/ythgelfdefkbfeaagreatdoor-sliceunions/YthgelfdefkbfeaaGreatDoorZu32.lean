import Derived.Test.YthgelfdefkbfeaaGreatDoorZu31
import Derived.Deep.DeepCutAuto
set_option maxRecDepth 8000
set_option maxHeartbeats 8000000
set_option linter.unusedVariables false
namespace Go.Proofs.YthgelfdefkbfeaaGreatDoor
open Go.RowKit Go.Maps Go.Shelf
theorem zInfoU:(Tryz.prog.info? 4).map (fun i=>(i.zero,i.size,i.bytes))=some (some (.bool false),1,1):=by kernel_rfl
abbrev mkB (n:Nat):Obj:=.cells (madeCells (Value.bool false).cells (n * 1)) 4
theorem mades_b (w:World) (n:Nat) (hn:n≤1048576):(Instr.makeSlice 23 (.int .i64 (n:Int)) (.int .i64 (n:Int))).run Tryz.prog w=.ok (.slice (some ⟨w.heap.size,0,none⟩) n n) (w.alloc (mkB n)):=by
 obtain ⟨i,hi,hz,hs,hb⟩:=info_parts zInfoU
 have h:=run_make (P:=Tryz.prog) w 23 4 i _ Tryz.underlying23 hi hz .i64 .i64 (n:Int) (n:Int) (by omega) (Int.le_refl _) (by rw [hb];omega) (by omega)
 rw [hs] at h
 exact h
theorem own_mk (w:World) (n:Nat) (hn:n≤1048576) (base:Nat) (hb:base≤w.heap.size):Own sB 4 (w.alloc (mkB n)) base (.slice (some ⟨w.heap.size,0,none⟩) n n) (List.replicate n false):=by
 have e:(madeCells (Value.bool false).cells (n * 1)).toList=sB.fl (List.replicate n false):=by
  rw [Nat.mul_one,show (Value.bool false).cells=#[Value.bool false] from rfl,toList_madeCells_one]
  clear hn
  induction n with
  | zero=>rfl
  | succ n ih=>rw [List.replicate_succ,List.replicate_succ,sB.fl_cons,ih];rfl
 unfold Own
 rw [List.length_replicate,← e]
 refine ⟨by rw [Array.length_toList,size_madeCells];rfl,.inr ⟨w.heap.size,n,madeCells (Value.bool false).cells (n * 1),rfl,hb,heap_new _ _,Nat.le_refl _,by unfold maxLen;omega,size_madeCells _ _,?_⟩⟩
 rw [List.take_of_length_le (by rw [Array.length_toList,size_madeCells];exact Nat.le_refl _)]
theorem own_base {α:Type} {y:Lay α} {e:TypeId} {w:World} {b base:Nat} {v:Value} {L:List α} (h:Own y e w b v L) (hg:∀ g,v.ownBlock=some g→base≤g):Own y e w base v L:=by
 refine ⟨h.1,?_⟩
 rcases h.2 with h1|⟨g,cap,cur,hv,h0,h1⟩
 ·exact .inl h1
 ·exact .inr ⟨g,cap,cur,hv,hg g (by rw [hv];rfl),h1⟩
section
variable {wb w w' : World} {b n bk bl kb : Nat} {v : Si} {s : List Bool × List Nat} {l : List Nat} {q : Nat}
theorem Kst.pop (h:Kst wb w b n bk bl kb v s) (hl:s.2=l++[q]) :
  (∃ g,v.a=some ⟨g,0,none⟩∧w.cell? ⟨g,l.length,none⟩=some (.int .i64 (q:Int))∧l.length < v.c)∧v.n=l.length+1∧Kst wb (w.setCell ⟨bl,0,none⟩ (.slice v.a l.length v.c)) b n bk bl kb ⟨v.a,l.length,v.c⟩ (s.1,l):=by
 have hlo:=h.lo
 rw [hl,intP_snoc] at hlo
 have hlen:(intP l++[(q:Int)]).length=l.length+1:=by rw [List.length_append,intP_len];rfl
 obtain ⟨g,c,hv,_,_,hc⟩:=hlo.frm (by rw [hlen];omega)
 rw [hlen] at hv hc
 obtain ⟨va,vn,vc⟩:=v
 have hv:Value.slice va vn vc=_:=hv
 cases hv
 have hlo:Own sI 3 w b (.slice (some ⟨g,0,none⟩) (l.length+1) c) (intP l++[(q:Int)]):=hlo
 have hcut:=Own.cut (k:=l.length) hlo hlen (by omega)
 have ht:(intP l++[(q:Int)]).take l.length=intP l:=by
  rw [← intP_len l,List.take_left]
 rw [ht] at hcut
 have hx:(intP l++[(q:Int)])[l.length]?=some (q:Int):=by
  rw [← intP_len l,List.getElem?_append_right (Nat.le_refl _),Nat.sub_self]
  rfl
 have h2:=hlo.cell hx 0 rfl
 rw [Nat.add_zero,show l.length * sI.z=l.length from Nat.mul_one _] at h2
 have b3:But (fun r=>r=bl) w (w.setCell ⟨bl,0,none⟩ (.slice (some ⟨g,0,none⟩) l.length c)):=(But.refl (fun r=>r=bl) w).setCell ⟨bl,0,none⟩ (fun _=>rfl) _
 have n4:(Value.slice (some ⟨g,0,none⟩) l.length c).ownBlock≠some bl:=own_ne_cells hcut h.l (by decide)
 refine ⟨⟨g,rfl,h2,Nat.lt_of_lt_of_le (Nat.lt_succ_self _) hc⟩,rfl,(b3.block _ (lt_cells h.k) h.ne).trans h.k,one_setCell h.l,hcut.but b3 (fun r hr e=>n4 (by have e9:r=bl:=e;rw [← e9];exact hr)),h.own.but b3 (fun r hr e=>?_),h.len,h.gel,h.but.setCell ⟨bl,0,none⟩ (fun _=>.inr h.gel) _⟩
 have e9:r=bl:=e
 have e8:kb=r:=by simpa [Value.ownBlock] using hr
 exact h.kl (e8.trans e9)
def muW (n bl kb:Nat) (w:World):Nat:=2 * (List.range n).countP (fun p=>match w.cell? ⟨kb,p,none⟩ with|some (.bool false)=>true|_=>false)+(match w.cell? ⟨bl,0,none⟩ with|some (.slice _ k _)=>k|_=>0)
theorem Kst.mu (h:Kst wb w b n bk bl kb v s):muW n bl kb w=muK s:=by
 unfold muW muK
 have e1:(List.range n).countP (fun p=>match w.cell? ⟨kb,p,none⟩ with|some (.bool false)=>true|_=>false)=s.1.count false:=by
  have e2:s.1=(List.range n).map fun p=>s.1[p]?.getD true:=by
   apply List.ext_getElem?
   intro p
   rw [List.getElem?_map]
   by_cases hp:p < n
   ·rw [List.getElem?_range hp]
    show _=some (s.1[p]?.getD true)
    rw [List.getElem?_eq_getElem (by rw [h.len];exact hp)]
    rfl
   ·rw [List.getElem?_eq_none (by rw [h.len];omega),List.getElem?_eq_none (by simp;omega)]
    rfl
  have e3:s.1.count false=((List.range n).map fun p=>s.1[p]?.getD true).countP (· == false):=by rw [← e2];rfl
  rw [e3,List.countP_map]
  apply List.countP_congr
  intro p hp
  have hp:p < n:=List.mem_range.1 hp
  obtain ⟨x,hx⟩:∃ x,s.1[p]?=some x:=⟨_,List.getElem?_eq_getElem (by rw [h.len];exact hp)⟩
  have:=(h.cell hx).1
  rw [this]
  show _ ↔ ((s.1[p]?.getD true) == false)=true
  rw [hx]
  cases x <;> simp
 have e4:v.n=s.2.length:=by
  obtain ⟨a,c,hv,_⟩:=own_form h.lo
  have hv:Value.slice v.a v.n v.c=_:=hv
  injection hv with _ e _
  rw [e,intP_len]
 rw [e1,cell_of_one h.l]
 simp [e4]
end
structure NR (w:World) (n nb:Nat) (N:Nat→List Nat):Prop where
 at_:∀ i,i < n→∃ s:Si,w.cell? ⟨nb,i,none⟩=some (.slice s.a s.n s.c)∧TRow sI w s.a s.n (intP (N i))∧(∀ a,s.a=some a→∃ cur,w.heap[a.block]?=some (.cells cur 3 (0,0)))∧s.n≤6 * n
 nb:∃ cur,w.heap[nb]?=some (.cells cur 34 (0,0))
theorem nr_of {w0 w:World} {n lb nb mb ob km ko:Nat} {M:Ls} {S:Fam} {ss:List Si} (h:LK w0 w n lb nb mb ob km ko (6 * n) M S ss):NR w n nb M.N:=by
 refine ⟨fun i hi=>?_,h.rty⟩
 obtain ⟨s,hs,hS⟩:=h.sn i hi
 have hso:=h.fam.own _ _ _ hS
 have hnl:s.n=(M.N i).length:=by
  obtain ⟨a,c,hv,_⟩:=own_form hso
  have hv:Value.slice s.a s.n s.c=_:=hv
  injection hv with _ e _
  rw [e,intP_len]
 refine ⟨s,h.cn hs,Own.row hso (by rw [intP_len,hnl]),fun a ha=>?_,by rw [hnl];exact h.fn i⟩
 have hob:s.val.ownBlock=some a.block:=by
  show (Value.slice s.a s.n s.c).ownBlock=_
  rw [ha];rfl
 exact own_ty hso hob
theorem cell_butU {S:Nat→Prop} {w w':World} {b i:Nat} {v:Value} (hb:But S w w') (hS:¬ S b) (h:w.cell? ⟨b,i,none⟩=some v):w'.cell? ⟨b,i,none⟩=some v:=by
 have h1:=hb.block b (World.block_lt_of_cell? w _ h) hS
 unfold World.cell? at h ⊢
 simp only at h ⊢
 rw [h1]
 exact h
theorem NR.but {S:Nat→Prop} {w w':World} {n nb:Nat} {N:Nat→List Nat} (h:NR w n nb N) (hb:But S w w') (hS:∀ q cur T,S q→w.heap[q]?=some (.cells cur T (0,0))→T≠3∧T≠34):NR w' n nb N:=by
 obtain ⟨cn,hn⟩:=h.nb
 have n1:¬ S nb:=fun e=>(hS nb _ _ e hn).2 rfl
 refine ⟨fun i hi=>?_,cn,(hb.block nb (lt_cells hn) n1).trans hn⟩
 obtain ⟨s,h1,h2,h3,h4⟩:=h.at_ i hi
 have n2:∀ a,s.a=some a→¬ S a.block:=fun a ha e=>by
  obtain ⟨c3,h5⟩:=h3 a ha
  exact (hS _ _ _ e h5).1 rfl
 refine ⟨s,cell_butU hb n1 h1,trow_but h2 hb n2,fun a ha=>?_,h4⟩
 obtain ⟨c3,h5⟩:=h3 a ha
 exact ⟨c3,(hb.block _ (lt_cells h5) (n2 a ha)).trans h5⟩
theorem NR.on {w w':World} {n nb:Nat} {N:Nat→List Nat} (h:NR w n nb N) (hb:Below w.heap.size w w'):NR w' n nb N:=h.but (But.of_below (S:=fun _=>False) hb) (fun _ _ _ e=>e.elim)
theorem NR.box {w:World} {n nb bk:Nat} {N:Nat→List Nat} {cs:Array Value} {v:Value} (h:NR w n nb N) (hz:w.heap[bk]?=some (.cells cs 23 (0,0))):NR (w.setCell ⟨bk,0,none⟩ v) n nb N :=
 h.but ((But.refl (fun q=>q=bk) w).setCell ⟨bk,0,none⟩ (fun _=>rfl) _) (fun q cur T e hq=>by
  have e9:q=bk:=e
  rw [e9,hz] at hq
  injection hq with hq
  injection hq with _ e2 _
  subst e2
  exact ⟨by decide,by decide⟩)
def RgB (es:List E6.Ev) (w:World) (n:Nat) (sn sk:Value) (wx:World):Prop :=
 ∃ nb kb bk,sn=.slice (some ⟨nb,0,none⟩) n n∧sk=.pointer (some ⟨bk,0,none⟩)∧NR wx n nb (nds es)∧Own sB 4 wx w.heap.size (.slice (some ⟨kb,0,none⟩) n n) (List.replicate n false)∧wx.heap[bk]?=some (.cells #[.slice (some ⟨kb,0,none⟩) n n] 23 (0,0))∧Below w.heap.size w wx
def Bz (a b:World):Prop:=Below a.heap.size a b
theorem bz_refl (a:World):Bz a a:=Below.refl _ _
theorem bz_alloc {a b:World} (h:Bz a b) (o:Obj):Bz a (b.alloc o):=h.trans ((below_alloc1 b o).mono h.size)
theorem bz_drew {a b:World} (h:Bz a b):Bz a b.drew:=h.drew
theorem bz_call {a b c:World} (h:Bz a b) (k:Below b.heap.size b c):Bz a c:=h.trans (k.mono h.size)
theorem sz_set (a:World) (p:Addr) (v:Value):(a.setCell p v).heap.size=a.heap.size:=by simp [World.setCell]
section
variable {w w8 : World} {n nb : Nat} {es : List E6.Ev}
abbrev bxB (n kb:Nat):Obj:=.cells #[.slice (some ⟨kb,0,none⟩) n n] 23
abbrev bx0:Obj:=.cells #[.slice none 0 0] 23
theorem rg1 (hn:n≤1048576) (h8:Bz w w8) (hN:NR w8 n nb (nds es)):RgB es w n (.slice (some ⟨nb,0,none⟩) n n) (.pointer (some ⟨w8.heap.size+1,0,none⟩)) ((w8.alloc (mkB n)).alloc (bxB n w8.heap.size)) :=
 ⟨nb,w8.heap.size,w8.heap.size+1,rfl,rfl,hN.on (below_alloc2 _ _ _),(own_mk w8 n hn _ h8.size).below (below_alloc1 _ _),heap_new2 w8 _ _,bz_alloc (bz_alloc h8 _) _⟩
theorem rg2 (hn:n≤1048576) (h8:Bz w w8) (hN:NR w8 n nb (nds es)):RgB es w n (.slice (some ⟨nb,0,none⟩) n n) (.pointer (some ⟨w8.heap.size,0,none⟩)) ((w8.alloc (bxB n (w8.heap.size+1))).alloc (mkB n)):=by
 have h1:=own_mk (w8.alloc (bxB n (w8.heap.size+1))) n hn w.heap.size (bz_alloc h8 _).size
 rw [World.size_alloc] at h1
 exact ⟨nb,w8.heap.size+1,w8.heap.size,rfl,rfl,hN.on (below_alloc2 _ _ _),h1,((below_alloc1 _ _).block _ (by rw [World.size_alloc];omega)).trans (heap_new w8 _),bz_alloc (bz_alloc h8 _) _⟩
theorem rg3 (hn:n≤1048576) (h8:Bz (w.alloc (mkB n)) w8) (hN:NR w8 n nb (nds es)):RgB es w n (.slice (some ⟨nb,0,none⟩) n n) (.pointer (some ⟨w8.heap.size,0,none⟩)) (w8.alloc (bxB n w.heap.size)) :=
 ⟨nb,w.heap.size,w8.heap.size,rfl,rfl,hN.on (below_alloc1 _ _),((own_mk w n hn w.heap.size (Nat.le_refl _)).below h8).below (below_alloc1 _ _),heap_new w8 _,bz_alloc (bz_call (bz_alloc (bz_refl w) _) h8) _⟩
theorem own_box {bk kb b:Nat} {L:List Bool} {v:Value} (h:Own sB 4 w8 b (.slice (some ⟨kb,0,none⟩) n n) L) (hne:kb≠bk):Own sB 4 (w8.setCell ⟨bk,0,none⟩ v) b (.slice (some ⟨kb,0,none⟩) n n) L :=
 h.but ((But.refl (fun q=>q=bk) w8).setCell ⟨bk,0,none⟩ (fun _=>rfl) _) (fun g hg e=>by
  have e9:g=bk:=e
  have e8:kb=g:=by simpa [Value.ownBlock] using hg
  exact hne (e8.trans e9))
theorem bz_set {bk:Nat} {v:Value} (h:Bz w w8) (hk:w.heap.size≤bk):Bz w (w8.setCell ⟨bk,0,none⟩ v):=h.setCell (p:=⟨bk,0,none⟩) hk v
theorem rg4 (hn:n≤1048576) (h8:Bz ((w.alloc (mkB n)).alloc bx0) w8) (hN:NR w8 n nb (nds es)) (hz:w8.heap[w.heap.size+1]?=some (.cells #[.slice none 0 0] 23 (0,0))):RgB es w n (.slice (some ⟨nb,0,none⟩) n n) (.pointer (some ⟨w.heap.size+1,0,none⟩)) (w8.setCell ⟨w.heap.size+1,0,none⟩ (.slice (some ⟨w.heap.size,0,none⟩) n n)) :=
 ⟨nb,w.heap.size,w.heap.size+1,rfl,rfl,hN.box hz,own_box (((own_mk w n hn w.heap.size (Nat.le_refl _)).below (below_alloc1 _ _)).below h8) (by omega),one_setCell hz,bz_set (bz_call (bz_alloc (bz_alloc (bz_refl w) _) _) h8) (by omega)⟩
theorem rg5 (hn:n≤1048576) (h8:Bz (w.alloc bx0) w8) (hN:NR w8 n nb (nds es)) (hz:w8.heap[w.heap.size]?=some (.cells #[.slice none 0 0] 23 (0,0))):RgB es w n (.slice (some ⟨nb,0,none⟩) n n) (.pointer (some ⟨w.heap.size,0,none⟩)) ((w8.setCell ⟨w.heap.size,0,none⟩ (.slice (some ⟨w8.heap.size,0,none⟩) n n)).alloc (mkB n)):=by
 have b1:=bz_call (bz_alloc (bz_refl w) _) h8
 have h1:=own_mk (w8.setCell ⟨w.heap.size,0,none⟩ (.slice (some ⟨w8.heap.size,0,none⟩) n n)) n hn w.heap.size (by rw [sz_set];exact b1.size)
 rw [sz_set] at h1
 exact ⟨nb,w8.heap.size,w.heap.size,rfl,rfl,(hN.box hz).on (below_alloc1 _ _),h1,((below_alloc1 _ _).block _ (by rw [sz_set];exact lt_cells hz)).trans (one_setCell hz),bz_alloc (bz_set b1 (Nat.le_refl _)) _⟩
theorem rg6 (hn:n≤1048576) (h8:Bz ((w.alloc bx0).alloc (mkB n)) w8) (hN:NR w8 n nb (nds es)) (hz:w8.heap[w.heap.size]?=some (.cells #[.slice none 0 0] 23 (0,0))):RgB es w n (.slice (some ⟨nb,0,none⟩) n n) (.pointer (some ⟨w.heap.size,0,none⟩)) (w8.setCell ⟨w.heap.size,0,none⟩ (.slice (some ⟨w.heap.size+1,0,none⟩) n n)):=by
 have h1:=own_mk (w.alloc bx0) n hn w.heap.size (by rw [World.size_alloc];omega)
 rw [World.size_alloc] at h1
 exact ⟨nb,w.heap.size+1,w.heap.size,rfl,rfl,hN.box hz,own_box (h1.below h8) (by omega),one_setCell hz,bz_set (bz_call (bz_alloc (bz_alloc (bz_refl w) _) _) h8) (Nat.le_refl _)⟩
end
end Go.Proofs.YthgelfdefkbfeaaGreatDoor
namespace Go.Proofs.YthgelfdefkbfeaaGreatDoor
open Go.RowKit Go.Maps Go.Shelf
theorem least_any (ad : Option Addr) (n c : Nat) (es : List E6.Ev) (w : World) (hr : E6.ERow w ad n es) (hok : ∀ e ∈ es, e.ok) (hE : wnE es = 0) (qd : Option Addr) (m d : Nat) (ps : List Nat) (hq : TRow sI w qd m (intP ps)) (hps : ∀ p ∈ ps, p < n) (hmn : m ≤ n) :
    Calls Tryz.prog 19 #[.slice ad n c, .slice qd m d] w fun r w' => ∃ kb, r = .returned (.slice (some ⟨kb, 0, none⟩) n n) ∧ Own sB 4 w' w.heap.size (.slice (some ⟨kb, 0, none⟩) n n) (clo (nds es) (· ∈ ps) n) ∧ Below w.heap.size w w' := by
  have hn : n ≤ 1048576 := by rw [← hr.len]; exact (wn_rch hE hok).1
  have hnI : (n : Int) ≤ 9223372036854775806 := by omega
  have HN0 := hide (fun (X : World) (h : Bz w X) => needs_run ad n c es X (hr.bel h) hok hE)
  have hms := fun (X : World) => mades_b X n hn
  have HOw := hide (fun (X : World) (base : Nat) (h : base ≤ X.heap.size) => own_mk X n hn base h)
  have HLn := hide hr.len
  have HQ := hide (And.intro hq hps)
  have HB := hide (nds_lt (es := es))
  rw [hr.len] at HB
  have HNn := hide (And.intro hn hmn)
  clear hr hok hE hq hps hn hmn
  go_enter Tryz.func19, Tryz.ntmps19
  go_upto_region 1 with fail
  go_cut [5, 6] (fun sn sk wx => RgB es w n sn sk wx)
  case first =>
    go_region_held3 (fun X => True)
      (trivial)
      (first
        | (go_at_call 31; go_must (refine (HN0.out _ (by ((repeat (first | exact bz_refl _ | refine bz_drew ?_ | refine bz_alloc ?_ _)); done))).mono ?_; rintro e8 w8 ⟨nb, lb, mb, ob, km, ko, S, ss, rfl, hLK⟩; have hb8 := hLK.bel; first
            | (have z0 : w8.heap[w.heap.size + 1]? = some (.cells #[.slice none 0 0] 23 (0, 0)) := (hb8.block _ (by show _ < (World.alloc _ _).heap.size; (repeat rw [World.size_alloc]); omega)).trans (heap_new2 w _ _); have z1 := cell_of_one z0; have z2 := free_of_one z0; have z3 := lt_cells z0)
            | (have z0 : w8.heap[w.heap.size]? = some (.cells #[.slice none 0 0] 23 (0, 0)) := (hb8.block _ (by show _ < (World.alloc _ _).heap.size; (repeat rw [World.size_alloc]); omega)).trans (heap_new w _); have z1 := cell_of_one z0; have z2 := free_of_one z0; have z3 := lt_cells z0)
            | (have z0 : w8.heap[w.heap.size]? = some (.cells #[.slice none 0 0] 23 (0, 0)) := (hb8.block _ (by show _ < (World.alloc _ _).heap.size; (repeat rw [World.size_alloc]); omega)).trans (((below_alloc1 (w.alloc (.cells #[.slice none 0 0] 23)) (mkB n)).block _ (by rw [World.size_alloc]; omega)).trans (heap_new w _)); have z1 := cell_of_one z0; have z2 := free_of_one z0; have z3 := lt_cells z0)
            | skip)))
    all_goals go_wp2_with fail
    all_goals go_meet
    all_goals
      have hNR : NR w8 n nb (nds es) := by
        have h9 := nr_of hLK
        have e9 : (lsAt (es.map me) n).N = nds es := by unfold nds; rw [HLn.out]
        rw [e9] at h9
        exact h9
      first
        | exact rg1 HNn.out.1 (bz_call (bz_drew (bz_refl _)) hb8) hNR
        | exact rg2 HNn.out.1 (bz_call (bz_drew (bz_refl _)) hb8) hNR
        | exact rg3 HNn.out.1 (bz_call (bz_drew (bz_refl _)) hb8) hNR
        | exact rg4 HNn.out.1 (bz_call (bz_drew (bz_refl _)) hb8) hNR z0
        | exact rg5 HNn.out.1 (bz_call (bz_drew (bz_refl _)) hb8) hNR z0
        | exact rg6 HNn.out.1 (bz_call (bz_drew (bz_refl _)) hb8) hNR z0
  case rest =>
  obtain ⟨nb, kb, bk, rfl, rfl, hN, hO, hbx, hbel⟩ := hcut
  have hkb : w.heap.size ≤ kb := (hO.lt kb rfl).1
  obtain ⟨ck, hck⟩ := own_ty hO (b := kb) rfl
  obtain ⟨cn, hcn⟩ := hN.nb
  have hnk : nb ≠ kb := fun e => by
    rw [e, hck] at hcn
    injection hcn with hcn
    injection hcn with _ e2 _
    exact absurd e2 (by decide)
  have hbk := lt_cells hbx
  have hnb := lt_cells hcn
  have HK0 : Hid (Kst wc (wc.alloc (.cells #[.slice none 0 0] 34)) wc.heap.size n bk wc.heap.size kb ⟨none, 0, 0⟩ (List.replicate n false, [])) := hide
    ⟨((below_alloc1 _ _).block _ hbk).trans hbx, heap_new _ _, Own.nil _ _ _ _, (hO.mono (Nat.zero_le _)).below (below_alloc1 _ _), by simp, Nat.le_refl _, But.of_below (S := fun q => q = kb ∨ wc.heap.size ≤ q) (below_alloc1 _ _)⟩
  have HQc : Hid (TRow sI wc qd m (intP ps) ∧ (0 < m → ∀ a, qd = some a → a.block ≠ kb ∧ a.block < wc.heap.size)) := hide ⟨HQ.out.1.below hbel, fun h0 a ha => by
    obtain ⟨p, hp⟩ : ∃ p, (intP ps)[0]? = some p := ⟨_, List.getElem?_eq_getElem (by rw [HQ.out.1.len]; exact h0)⟩
    obtain ⟨b1, o1, e1, d1⟩ := sI_cell HQ.out.1 hp
    have := World.block_lt_of_cell? w _ d1
    rw [ha] at e1
    injection e1 with e1
    subst e1
    have h2 := hbel.size
    exact ⟨fun e => by have e : b1 = kb := e; have h3 : b1 < w.heap.size := this; omega, Nat.lt_of_lt_of_le this h2⟩⟩
  have HNR := hide hN
  have HCk : Hid (∃ cur, wc.heap[kb]? = some (.cells cur 4 (0, 0))) := hide ⟨ck, hck⟩
  have HBel := hide hbel
  have HNe := hide (And.intro hnk (And.intro hnb hkb))
  have HKp := hide (keep_any (d := d) HK0.out HQc.out.1 HQc.out.2 (below_alloc1 wc (.cells #[.slice none 0 0] 34)).size HQ.out.2 (by have := HNn.out; show (0 + m + 1) * 8 ≤ _; omega) HNn.out.1)
  clear hN hO hbx hbel hck hcn hkb hms HN0 HOw HK0
  go_wp2_with fail
  refine HKp.out.mono ?_
  rintro r w1 ⟨rfl, v1, hK1⟩
  have HJ1 : Hid (∃ s v, Kst wc w1 wc.heap.size n bk wc.heap.size kb v s ∧ Jk (nds es) (· ∈ ps) n s) := hide ⟨_, v1, hK1, jk_new HQ.out.2⟩
  clear hK1 HKp hnk hnb hbk
  go_wp2
  go_loopw [9] (fun _ wr => Hid (∃ s v, Kst wc wr wc.heap.size n bk wc.heap.size kb v s ∧ Jk (nds es) (· ∈ ps) n s)) (fun _ wr => muW n wc.heap.size kb wr)
  case atStart => exact HJ1
  case round =>
    clear HJ1
    obtain ⟨s, v, hK, hJ⟩ := hrel.out
    clear hrel
    by_cases h0 : s.2 = []
    · obtain ⟨va, vn, vc⟩ := v
      have hn0 : vn = 0 := by
        obtain ⟨a, c, hv, _⟩ := own_form hK.lo
        have hv : Value.slice va vn vc = _ := hv
        injection hv with _ e _
        rw [e, intP_len, h0]; rfl
      subst hn0
      have cl := cell_of_one hK.l
      have ck := cell_of_one hK.k
      have hs := hJ.fin (HB.out) (fun p hp => HQ.out.2 p hp) h0
      have HFin : Hid (Own sB 4 wr w.heap.size (.slice (some ⟨kb, 0, none⟩) n n) (clo (nds es) (· ∈ ps) n) ∧ Below w.heap.size w wr) := hide ⟨by
        rw [← hs]
        exact own_base hK.own (fun g hg => by have e8 : kb = g := by simpa [Value.ownBlock] using hg
                                              rw [← e8]; exact HNe.out.2.2), HBel.out.trans (hK.but.below HBel.out.size (fun q hq => by
        rcases hq with e | e
        · rw [e]; exact HNe.out.2.2
        · exact Nat.le_trans HBel.out.size e))⟩
      clear hs hK hJ h0
      go_wp2
      go_ret
      exact ⟨kb, rfl, HFin.out⟩
    · obtain ⟨l, q, hl⟩ := last_split h0
      obtain ⟨⟨g, hva, hcell, hlc⟩, hvn, hK2⟩ := hK.pop hl
      obtain ⟨va, vn, vc⟩ := v
      have hmu := hK.mu
      have hJ2 := hJ.pop HB.out hl
      have hqn : q < n := by
        have h1 := hJ.lft q (by rw [hl]; simp)
        have := (List.getElem?_eq_some_iff.1 h1).1
        rw [hJ.len] at this
        exact this
      have hll : l.length ≤ 2 * n := by have := hJ.left; rw [hl] at this; simp at this; omega
      have cl0 := cell_of_one hK.l
      have fl := free_of_one hK.l
      have hbl := lt_cells hK.l
      obtain ⟨u, u1, u2, u3, u4⟩ := HNR.out.at_ q hqn
      have hnb := HNe.out.2.1
      have cq0 : wr.cell? ⟨nb, q, none⟩ = some (.slice u.a u.n u.c) := cell_butU hK.but (fun e => by
        rcases e with e | e
        · exact HNe.out.1 e
        · omega) u1
      have HKp0 := hide (keep_any (d := u.c) hK2 u2 (fun _ a ha => by
        obtain ⟨c3, h3⟩ := u3 a ha
        refine ⟨fun e => ?_, lt_cells h3⟩
        obtain ⟨ck, hck⟩ := HCk.out
        rw [e, hck] at h3
        injection h3 with h3
        injection h3 with _ e2 _
        exact absurd e2 (by decide)) hK2.but.size (HB.out q) (by have := HNn.out.1; show (l.length + u.n + 1) * 8 ≤ _; omega) HNn.out.1)
      have HJ2 := hide hJ2
      have HMu := hide hmu
      obtain ⟨ua, un, uc⟩ := u
      have hva : va = _ := hva
      have hvn : vn = _ := hvn
      have hlc : l.length < vc := hlc
      have HKp : Hid (Calls Tryz.prog 32 #[.slice ua un uc, .pointer (some ⟨bk, 0, none⟩), .pointer (some ⟨wc.heap.size, 0, none⟩)] (wr.setCell ⟨wc.heap.size, 0, none⟩ (.slice va l.length vc)) fun r w' => r = .returned (.tuple #[]) ∧ ∃ v', Kst wc w' wc.heap.size n bk wc.heap.size kb v' (kpAll (s.1, l) (nds es q))) := HKp0
      have cq : wr.cell? ⟨nb, q, none⟩ = some (.slice ua un uc) := cq0
      have cl : wr.cell? ⟨wc.heap.size, 0, none⟩ = some (.slice va vn vc) := cl0
      clear cl0 cq0 HKp0
      subst hva
      subst hvn
      clear hK hJ hJ2 hmu hK2 u1 u2 u3 u4 h0 hl
      obtain ⟨k, hk⟩ : ∃ k, l.length = k := ⟨_, rfl⟩
      rw [hk] at hcell hlc hll HKp cl
      clear hk
      have hne : ¬ nb = wc.heap.size := by omega
      have hne2 : ¬ wc.heap.size = nb := by omega
      have hgl : g < wr.heap.size := World.block_lt_of_cell? wr _ hcell
      have hnl : nb < wr.heap.size := World.block_lt_of_cell? wr _ cq
      have hqI : (q : Int) < n := by omega
      have hq0 : (0 : Int) ≤ q := by omega
      have hk0 : (0 : Int) ≤ k := by omega
      have hkI : (k : Int) ≤ 1000000000 := by have := HNn.out.1; omega
      have hw1 : IntKind.i64.wrap (((k + 1 : Nat) : Int) - 1) = k := by rw [IntKind.wrap_i64]; omega
      have hkk : (k : Int) < ((k + 1 : Nat) : Int) := by omega
      have hkp : (0 : Int) < ((k + 1 : Nat) : Int) := by omega
      have hkc : k ≤ vc := Nat.le_of_lt hlc
      go_wp2_with fail
      refine HKp.out.mono ?_
      rintro r w2 ⟨rfl, v2, hK3⟩
      have hmu3 := hK3.mu
      have HR : Hid (∃ s v, Kst wc w2 wc.heap.size n bk wc.heap.size kb v s ∧ Jk (nds es) (· ∈ ps) n s) := hide ⟨_, v2, hK3, HJ2.out.1⟩
      have HM : Hid (muW n wc.heap.size kb w2 < muW n wc.heap.size kb wr) := hide (by rw [hmu3, HMu.out]; exact HJ2.out.2)
      clear hK3 hmu3 HKp HJ2 HMu
      go_wp2
      exact ⟨HR, HM.out⟩
end Go.Proofs.YthgelfdefkbfeaaGreatDoor
namespace Go.Proofs.YthgelfdefkbfeaaGreatDoor
open Go.RowKit Go.Maps Go.Shelf
theorem results_three {fn:Func} {t u v:Tmp} (h:fn.results=#[.tmp t,.tmp u,.tmp v]) (tmps:Array Value) (P:Program) (w:World) :
  (results fn tmps).run P w=.ok (.tuple #[tmps.getD t undef,tmps.getD u undef,tmps.getD v undef]) w:=by
 simp [results,h]
theorem plc_mem (ks:List Bool):∀ n p,p ∈ plc ks n ↔ p < n∧ks[p]?=some true
 | 0,p=>by simp [plc]
 | n+1,p=>by
  have ih:=plc_mem ks n p
  rw [plc]
  split
  ·rename_i h
   rw [List.mem_append,ih,List.mem_singleton]
   constructor
   ·rintro (⟨a,b⟩|rfl)
    ·exact ⟨by omega,b⟩
    ·exact ⟨Nat.lt_succ_self _,h⟩
   ·rintro ⟨a,b⟩
    by_cases e:p=n
    ·exact .inr e
    ·exact .inl ⟨by omega,b⟩
  ·rename_i h
   rw [ih]
   constructor
   ·rintro ⟨a,b⟩;exact ⟨by omega,b⟩
   ·rintro ⟨a,b⟩
    refine ⟨?_,b⟩
    by_cases e:p=n
    ·rw [e] at b;exact absurd b h
    ·omega
noncomputable def cl (es:List E6.Ev) (ks:List Bool):List Bool:=clo (nds es) (· ∈ plc ks es.length) es.length
theorem closed_ok (ad:Option Addr) (n c:Nat) (es:List E6.Ev) (kd:Option Addr) (kc:Nat) (ks:List Bool) (w:World) (hK:E6.Kr w) (hr:E6.ERow w ad n es) (hok:∀ e ∈ es,e.ok) (hE:wnE es=0) (hk:TRow sB w kd n ks) :
  Calls Tryz.prog 9 #[.slice ad n c,.slice kd n kc] w fun r w'=>∃ kb,r=.returned (.tuple #[.slice (some ⟨kb,0,none⟩) n n,.int .i64 (-1),.int .i64 0])∧Own sB 4 w' w.heap.size (.slice (some ⟨kb,0,none⟩) n n) (cl es ks)∧Below w.heap.size w w':=by
 have hn:n≤1048576:=by rw [← hr.len];exact (wn_rch hE hok).1
 have hnI:(n:Int)≤9223372036854775806:=by omega
 have HC:=hide (wanted_any ad n c es w hK hr hok hnI)
 rw [hE,wn_place hE] at HC
 have HP:=hide (fun X (h:Below w.heap.size w X)=>places_any kd n kc ks X (hk.below h) (by omega))
 have HL:=hide (fun X (h:Below w.heap.size w X) (qd:Option Addr) (m d:Nat) (ps:List Nat) hq hps hmn=>least_any ad n c es X (hr.bel h) hok hE qd m d ps hq hps hmn)
 have HLn:=hide hr.len
 clear hK hr hok hE hk hn
 go_enter Tryz.func9,Tryz.ntmps9
 go_wp2_with fail
 refine HC.out.mono ?_
 rintro r w1 ⟨rfl,hb1⟩
 have HP1:=hide (HP.out w1 hb1)
 have HB1:=hide hb1
 clear hb1 HC HP
 go_wp2_with fail
 refine HP1.out.mono ?_
 rintro r w2 ⟨v,rfl,hL⟩
 obtain ⟨a3,c3,rfl,hrow⟩:=hL.frm
 rw [intP_len] at hrow
 have HB2:=hide (Below.on HB1.out hL.bel)
 have HL2:=hide (HL.out w2 HB2.out a3 (plc ks n).length c3 (plc ks n) hrow (plc_lt ks n) (plc_le ks n))
 have HCl:Hid (clo (nds es) (· ∈ plc ks n) n=cl es ks):=hide (by unfold cl;rw [HLn.out])
 rw [HCl.out] at HL2
 rw [intP_len]
 obtain ⟨m,hm⟩:∃ m,m=(plc ks n).length:=⟨_,rfl⟩
 rw [← hm] at HL2 ⊢
 clear hm hrow hL HP1 HL HCl HB1
 go_wp2_with fail
 refine HL2.out.mono ?_
 rintro r w3 ⟨kb,rfl,ho,hb3⟩
 have HO:=hide (ho.mono HB2.out.size)
 have HB3:=hide (Below.on HB2.out hb3)
 clear ho hb3 HL2 HB2
 go_wp2
 (try simp only [Exit.inBlock,Exit.then]);refine bodyPost_ret (results_three rfl _ _ _) rfl ?_
 exact ⟨kb,rfl,HO.out,HB3.out⟩
def chL (n:Nat) (ks:List Bool):List Bool:=(List.range n).map fun i=>ks[i]?.getD false
theorem chL_len {n:Nat} {ks:List Bool}:(chL n ks).length=n:=by simp [chL]
theorem chL_succ {n:Nat} {ks:List Bool}:chL (n+1) ks=chL n ks++[ks[n]?.getD false]:=by
 unfold chL
 rw [List.range_succ,List.map_append]
 rfl
structure LbU (w0 wr:World) (v:Value) (L:List Bool):Prop where
 own:Own sB 4 wr w0.heap.size v L
 bel:Below w0.heap.size w0 wr
theorem LbU.on {w0 wr w':World} {v:Value} {L:List Bool} (h:LbU w0 wr v L) (hb:Below wr.heap.size wr w'):LbU w0 w' v L:=⟨h.own.below hb,h.bel.trans (hb.mono h.bel.size)⟩
theorem LbU.push {w0 wr w':World} {v v':Value} {P Q:List Bool} (h:LbU w0 wr v P) (ho:Own sB 4 w' w0.heap.size v' Q) (hg:wr.grownBy w' v.ownBlock):LbU w0 w' v' Q :=
 ⟨ho,h.bel.grown hg h.bel.size (fun k hk=>(h.own.lt k hk).1)⟩
theorem LbU.nil (w:World):LbU w w (.slice none 0 0) []:=⟨Own.nil _ _ _ _,Below.refl _ _⟩
theorem LbU.frm {w0 wr:World} {v:Value} {L:List Bool} (h:LbU w0 wr v L):∃ a c,v=.slice a L.length c∧TRow sB wr a L.length L:=by
 obtain ⟨a,c,hv,_⟩:=own_form h.own
 have ho:=h.own
 rw [hv] at ho
 exact ⟨a,c,hv,ho.row rfl⟩
theorem choice_any (ad:Option Addr) (n c:Nat) (kd:Option Addr) (kn kc:Nat) (ks:List Bool) (w:World) (hn:n≤1048576) (hk:TRow sB w kd kn ks) (hkn:(kn:Int)≤9223372036854775806) :
  Calls Tryz.prog 8 #[.slice ad n c,.slice kd kn kc] w fun r w'=>∃ v,r=.returned v∧LbU w w' v (chL n ks):=by
 have HK:=hide hk
 have HN:=hide hn
 have HL:=hide hk.len
 have hnI:(n:Int)≤9223372036854775806:=by omega
 obtain ⟨i0,hi0,hz0,hz1,hz2⟩:=info_parts zInfoU
 clear hk hn
 go_enter Tryz.func8,Tryz.ntmps8
 go_wp2
 go_loopw [5,6] (fun s5 s6 wr=>∃ j:Nat,j≤n∧s6=.int .i64 j∧Hid (LbU w wr s5 (chL j ks))) (fun _ s _=>n - (intOf s).toNat)
 case atStart=>exact ⟨0,Nat.zero_le _,rfl,hide (LbU.nil w)⟩
 case round =>
  obtain ⟨j,hj,rfl,HJ⟩:=hrel
  by_cases hlt:j < n
  ·have hjI:(j:Int) < n:=by omega
   have hj0:(0:Int)≤j:=by omega
   by_cases hjk:j < kn
   ·have hjkI:(j:Int) < kn:=by omega
    obtain ⟨x,hx⟩:∃ x,ks[j]?=some x:=⟨_,List.getElem?_eq_getElem (by rw [HL.out];exact hjk)⟩
    obtain ⟨b1,o1,e1,d1⟩:=sB_cell (HK.out.below HJ.out.bel) hx
    have HJ2:Hid (chL (j+1) ks=chL j ks++[x]):=hide (by rw [chL_succ,hx];rfl)
    subst e1
    have HJ3:=hide (HJ.out.on (below_alloc1 wr (.cells #[.bool x] 4)))
    have HT:=hide (TRow.one (y:=sB) (w:=wr.alloc (.cells #[.bool x] 4)) (B:=wr.heap.size) (x:=x) (heap_new wr (.cells #[.bool x] 4)))
    have HLn:Hid ((chL j ks).length≤j):=hide (by rw [chL_len];exact Nat.le_refl _)
    clear hx
    generalize chL j ks=PP at HJ HJ2 HJ3 HLn
    go_wp2_with (at_builtin;refine append_lay sB _ 23 4 i0 _ 1 Tryz.underlying23 hi0 hz0 hz1 hz2 rfl rfl _ _ rfl w.heap.size _ PP rfl HJ3.out.own _ 1 1 [x] rfl HT.out (fun e=>by cases e) ?b1 ?b2 HJ3.out.bel.size ?_)
    case b1=>unfold maxLen;have:=HLn.out;have:=HN.out;omega
    case b2=>have:=HLn.out;have:=HN.out;omega
    intro v' w' o2 g2 l2
    have HJ4:Hid (LbU w w' v' (chL (j+1) ks)):=hide (by rw [HJ2.out];exact HJ3.out.push o2 g2)
    clear o2 g2 l2
    go_wp2
    exact ⟨⟨j+1,by omega,by go_num,HJ4⟩,by simp [intOf];omega⟩
   ·have hjkI:¬ (j:Int) < kn:=by omega
    have HJ2:Hid (chL (j+1) ks=chL j ks++[false]):=hide (by rw [chL_succ,List.getElem?_eq_none (by rw [HL.out];omega)];rfl)
    have HJ3:=hide (HJ.out.on (below_alloc1 wr (.cells #[.bool false] 4)))
    have HT:=hide (TRow.one (y:=sB) (w:=wr.alloc (.cells #[.bool false] 4)) (B:=wr.heap.size) (x:=false) (heap_new wr (.cells #[.bool false] 4)))
    have HLn:Hid ((chL j ks).length≤j):=hide (by rw [chL_len];exact Nat.le_refl _)
    clear hjk
    generalize chL j ks=PP at HJ HJ2 HJ3 HLn
    go_wp2_with (at_builtin;refine append_lay sB _ 23 4 i0 _ 1 Tryz.underlying23 hi0 hz0 hz1 hz2 rfl rfl _ _ rfl w.heap.size _ PP rfl HJ3.out.own _ 1 1 [false] rfl HT.out (fun e=>by cases e) ?b1 ?b2 HJ3.out.bel.size ?_)
    case b1=>unfold maxLen;have:=HLn.out;have:=HN.out;omega
    case b2=>have:=HLn.out;have:=HN.out;omega
    intro v' w' o2 g2 l2
    have HJ4:Hid (LbU w w' v' (chL (j+1) ks)):=hide (by rw [HJ2.out];exact HJ3.out.push o2 g2)
    clear o2 g2 l2
    go_wp2
    exact ⟨⟨j+1,by omega,by go_num,HJ4⟩,by simp [intOf];omega⟩
  ·have h9:j=n:=by omega
   subst h9
   have hjI:¬ (j:Int) < j:=by omega
   go_wp2
   go_ret
   exact ⟨_,rfl,HJ.out⟩
end Go.Proofs.YthgelfdefkbfeaaGreatDoor
