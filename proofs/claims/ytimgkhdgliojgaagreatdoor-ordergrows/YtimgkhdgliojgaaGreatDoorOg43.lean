import Derived.Test.YtimgkhdgliojgaaGreatDoorOg42
set_option maxRecDepth 8000
set_option maxHeartbeats 8000000
set_option linter.unusedVariables false
namespace Go.Proofs.YtimgkhdgliojgaaGreatDoor
open Go.RowKit Go.Maps
section
variable {pl : Nat → Int → Int} {L L1 L2 : LF} {w X Y w' : World} {fb gm om N K vb : Nat} {F F' : FS} {fg : Int → Option Value} {fo : Int → Int → Option Value} {e : Me} {sk : Value} {s o : Int} {v : Vw} {g : Nat} {c : Clk} {p o9 : Option Addr}
theorem gm_look {eg:Int} (hm:HM X 74 .u16 gm N (.pointer none) fg) (hv:fg eg=some (gPtr vb)) (g0:0≤eg) (g1:eg≤65535):(Instr.lookup 120 (.map (some gm)) (.int .u16 eg) false).run Tryz.prog X=.ok (.pointer (some ⟨vb,0,none⟩)) X:=by
 have h1:=hm.look law16 Tryz.underlying120 (z:=.pointer none) (e:=119) (by kernel_rfl) (key16 g0 g1)
 rw [hv] at h1;exact h1
structure S3 (pl:Nat→Int→Int) (L:LF) (w:World) (fb gm om N K:Nat) (F:FS) (fg:Int→Option Value) (fo:Int→Int→Option Value) (g:Nat) (v:Vw) (vb:Nat) (p:Option Addr) (c:Clk):Prop where
 fx:FX (fun l=>l=.vw g) pl L w fb gm om N K F fg fo
 lv:L vb=some (.vw g)
 hv:∃ ty,w.heap[vb]?=some (.cells (vC (.pointer p) v.tm v.pl (v.g:Int)) ty (0,0))
 ht:TL pl L w (.pointer p) (lrn v.kn c v.g v.tm)
theorem ln_any (hpl:Rise2 pl) (h:FM pl L X fb gm om N K F fg fo) (hv:F.gs g=some v) (hvb:fg (g:Int)=some (gPtr vb)) (hd:TL pl L X (.pointer o9) c) :
  Calls Tryz.prog 55 #[.pointer (some ⟨vb,0,none⟩),.pointer o9] X fun x w3=>x=.returned (.tuple #[])∧∃ p,S3 pl L w3 fb gm om N K F fg fo g v vb p c∧But (fun k=>k=vb) X w3:=by
 obtain ⟨hg,hvg,vb2,h1,h2,h3⟩:=h.vw g v hv
 rw [hvb] at h1
 have hvv:vb2=vb:=by
  unfold gPtr at h1
  injection h1 with h1
  injection h1 with h1
  injection h1 with h1
  injection h1 with h1
  exact h1.symm
 subst hvv
 obtain ⟨kv,ty,hc,hT⟩:=h3 (fun e=>e)
 have hZ:¬ TW L X vb2:=fun h9=>by have:=h9.1;rw [h2] at this;cases this
 refine (learn_any hpl hc hZ hT hd (by rw [hvg];exact hg)).mono ?_
 rintro x w3 ⟨rfl,⟨k',a1,a2⟩,hb⟩
 have hT3:=TL.new a2 h.lt hb.size
 obtain ⟨p,rfl⟩:=hT3.form
 refine ⟨rfl,p,⟨h.but (fun _ e=>e.elim) hb (fun k e9 _=>⟨.vw g,by rw [e9];exact h2,rfl⟩) (fun s o l e9 h9=>by subst e9;exact h9.elim) (LEx.refl _ _) (h.lt.on hb.size) (Nat.le_refl _) (Nat.le_refl _),h2,⟨ty,a1⟩,hT3⟩,hb⟩
def tkU (X:World) (vb fb:Nat) (tm tk:Int):World:=(((X.setCell ⟨vb,1,none⟩ (.int .i32 (tm+1))).setCell ⟨vb,2,none⟩ (.int .i32 tk)).setCell ⟨fb,0,none⟩ (.int .i32 (tk+1)))
structure S4 (pl:Nat→Int→Int) (L:LF) (w:World) (fb gm om N K:Nat) (F:FS) (fg:Int→Option Value) (fo:Int→Int→Option Value) (g:Nat) (v:Vw) (vb:Nat) (p:Option Addr) (c:Clk):Prop where
 fx:FX (fun l=>l=.vw g∨l=.top∨False) pl L w fb gm om N K F fg fo
 lv:L vb=some (.vw g)
 hv:∃ ty,w.heap[vb]?=some (.cells (vC (.pointer p) (v.tm+1) (F.taken:Int) (v.g:Int)) ty (0,0))
 hf:w.heap[fb]?=some (.cells #[.int .i32 ((F.taken:Int)+1),.map (some gm),.map (some om)] 123 (0,0))
 ht:TL pl L w (.pointer p) (lrn v.kn c v.g v.tm)
theorem S3.sets (h:S3 pl L X fb gm om N K F fg fo g v vb p c) (hY:Below (tkU X vb fb v.tm F.taken).heap.size (tkU X vb fb v.tm F.taken) Y):S4 pl L Y fb gm om N K F fg fo g v vb p c:=by
 obtain ⟨ty,hc⟩:=h.hv
 have hf:=h.fx.top (by simp)
 have hne:vb≠fb:=fun e9=>by have:=h.lv;rw [e9,h.fx.lf] at this;cases this
 have hB:But (fun k=>k=vb∨k=fb) X (tkU X vb fb v.tm F.taken):=(((But.refl (fun k=>k=vb∨k=fb) X).setCell ⟨vb,1,none⟩ (fun _=>.inl rfl) _).setCell ⟨vb,2,none⟩ (fun _=>.inl rfl) _).setCell ⟨fb,0,none⟩ (fun _=>.inr rfl) _
 have hBY:=hB.on hY
 have s1:=set1_heap (i:=1) (.int .i32 (v.tm+1)) hc
 have s2:=set1_heap (i:=2) (.int .i32 (F.taken:Int)) s1
 have s3:(tkU X vb fb v.tm F.taken).heap[vb]?=some (.cells (vC (.pointer p) (v.tm+1) (F.taken:Int) (v.g:Int)) ty (0,0)):=(((But.refl (fun j=>j=fb) _).setCell ⟨fb,0,none⟩ (fun _=>rfl) _).block vb (lt_heap s2) hne).trans s2
 have t1:((X.setCell ⟨vb,1,none⟩ (.int .i32 (v.tm+1))).setCell ⟨vb,2,none⟩ (.int .i32 (F.taken:Int))).heap[fb]?=some (.cells #[.int .i32 (F.taken:Int),.map (some gm),.map (some om)] 123 (0,0)):=((((But.refl (fun j=>j=vb) X).setCell ⟨vb,1,none⟩ (fun _=>rfl) _).setCell ⟨vb,2,none⟩ (fun _=>rfl) _).block fb (lt_heap hf) (fun e9=>hne e9.symm)).trans hf
 have t2:=set1_heap (i:=0) (.int .i32 ((F.taken:Int)+1)) t1
 refine ⟨h.fx.but (fun l e=>.inl e) hBY (fun k e9 _=>?_) (fun s o l e9 h9=>?_) (LEx.refl _ _) (h.fx.lt.on hBY.size) (Nat.le_refl _) (Nat.le_refl _),h.lv,⟨ty,(hY.block vb (lt_heap s3)).trans s3⟩,(hY.block fb (lt_heap t2)).trans t2,h.ht.but hBY (fun k e9 _ e8=>?_) (LEx.refl _ _)⟩
 ·rcases e9 with e9|e9
  ·exact ⟨.vw g,by rw [e9];exact h.lv,.inl rfl⟩
  ·exact ⟨.top,by rw [e9];exact h.fx.lf,.inr (.inl rfl)⟩
 ·rcases e9 with e9|e9|e9
  ·subst e9;exact h9.elim
  ·subst e9;exact h9.elim
  ·exact e9.elim
 ·rcases e9 with e9|e9
  ·rw [e9,h.lv] at e8;cases e8
  ·rw [e9,h.fx.lf] at e8;cases e8
theorem S4.kept (h : S4 pl L Y fb gm om N K F fg fo g v vb p c) (hv : F.gs g = some v) (hvb : fg (g : Int) = some (gPtr vb)) {Zs : Lf → Prop} {S : Nat → Prop} (hb : But S Y w') (hS : ∀ k, S k → k < Y.heap.size → ∃ l, L k = some l ∧ Zs l) (hZ : ∀ s o l, Zs l → l.of s o → Zs (.ob s o)) (hL : LEx L L2 Y) (hl : Llt L2 w')
    (z0 : ¬ Zs .top) (z1 : ¬ Zs .gm) (z2 : ¬ Zs .om) (z3 : ∀ g u, F.gs g = some u → ¬ Zs (.vw g))
    (hgs : F'.gs = setN F.gs g (some (v.next c F.taken))) (htk : F'.taken = F.taken + 1)
    (hob : ∀ s o x ob, Rng s o → fo s o = some x → x = .iface (dyT s) (gPtr ob) → L2 ob = some (.ob s o) → Zs (.ob s o) → ObM pl L2 w' ob s o (K + 1) F') (hsm : ∀ s o, ¬ Zs (.ob s o) → Sm s o F F') (hz : ∀ s o, Rng s o → Zs (.ob s o) → fo s o ≠ none) :
    FM pl L2 w' fb gm om N (K + 1) F' fg fo ∧ (∃ ty, w'.heap[vb]? = some (.cells (vC (.pointer p) (v.tm + 1) (F.taken : Int) (v.g : Int)) ty (0, 0))) ∧ TL pl L2 w' (.pointer p) (lrn v.kn c v.g v.tm) := by
  obtain ⟨hg, hvg, _⟩ := h.fx.vw g v hv
  obtain ⟨ty, hc⟩ := h.hv
  have no : ∀ k l, L k = some l → ¬ Zs l → ¬ S k := fun k l hk hy hs => by
    obtain ⟨l2, h1, h2⟩ := hS k hs (h.fx.lt k l hk)
    rw [hk] at h1
    cases h1
    exact hy h2
  have hS2 : ∀ k, S k → k < Y.heap.size → L k ≠ none := fun k hs hk e => by
    obtain ⟨l2, h1, _⟩ := hS k hs hk
    rw [e] at h1; cases h1
  have hF : FX (fun l => l = .vw g ∨ l = .top ∨ Zs l) pl L2 w' fb gm om N (K + 1) F fg fo := h.fx.but (fun l e => by
      rcases e with e | e | e
      · exact .inl e
      · exact .inr (.inl e)
      · exact e.elim) hb (fun k e9 hk => by
      obtain ⟨l, h1, h2⟩ := hS k e9 hk
      exact ⟨l, h1, .inr (.inr h2)⟩) (fun s o l e9 h9 => by
      rcases e9 with e9 | e9 | e9
      · subst e9; exact h9.elim
      · subst e9; exact h9.elim
      · exact .inr (.inr (hZ s o l e9 h9))) hL hl (Nat.le_refl _) (Nat.le_succ K)
  have hc' := (hb.block vb (lt_heap hc) (no vb _ h.lv (z3 g v hv))).trans hc
  have hf' := (hb.block fb (lt_heap h.hf) (no fb _ h.fx.lf z0)).trans h.hf
  have hT' := h.ht.but hb hS2 hL
  have hlv : L2 vb = some (.vw g) := (hL vb (h.fx.lt _ _ h.lv)).trans h.lv
  refine ⟨hF.fin hgs hg hvg ?_ hvb hlv ⟨_, ty, hc', hT'⟩ hob hsm hz z1 z2 z3, ⟨ty, hc'⟩, hT'⟩
  rw [htk, Int.natCast_add]
  exact hf'
end
end Go.Proofs.YtimgkhdgliojgaaGreatDoor
namespace Go.Proofs.YtimgkhdgliojgaaGreatDoor
open Go.RowKit Go.Maps
theorem m_gives {s : Int} (h1 : 1 ≤ s) (h5 : s ≤ 5) (n : Nat) (V : Value) (X : World) : (method (n + 1) (dyT s) V "hindsight/flow.gives").run Tryz.prog X = .ok (gvF s, V) X := by
 have hc:s=1∨s=2∨s=3∨s=4∨s=5:=by omega
 rcases hc with rfl|rfl|rfl|rfl|rfl
 ·show (method (n + 1) 224 V "hindsight/flow.gives").run Tryz.prog X = .ok (245, V) X; kernel_rfl
 ·show (method (n + 1) 227 V "hindsight/flow.gives").run Tryz.prog X = .ok (247, V) X; kernel_rfl
 ·show (method (n + 1) 232 V "hindsight/flow.gives").run Tryz.prog X = .ok (255, V) X; kernel_rfl
 ·show (method (n + 1) 235 V "hindsight/flow.gives").run Tryz.prog X = .ok (257, V) X; kernel_rfl
 ·show (method (n + 1) 238 V "hindsight/flow.gives").run Tryz.prog X = .ok (259, V) X; kernel_rfl
theorem m_keeps {s : Int} (h1 : 1 ≤ s) (h5 : s ≤ 5) (n : Nat) (V : Value) (X : World) : (method (n + 1) (dyT s) V "hindsight/flow.keeps").run Tryz.prog X = .ok (kpF s, V) X := by
 have hc:s=1∨s=2∨s=3∨s=4∨s=5:=by omega
 rcases hc with rfl|rfl|rfl|rfl|rfl
 ·show (method (n + 1) 224 V "hindsight/flow.keeps").run Tryz.prog X = .ok (246, V) X; kernel_rfl
 ·show (method (n + 1) 227 V "hindsight/flow.keeps").run Tryz.prog X = .ok (248, V) X; kernel_rfl
 ·show (method (n + 1) 232 V "hindsight/flow.keeps").run Tryz.prog X = .ok (256, V) X; kernel_rfl
 ·show (method (n + 1) 235 V "hindsight/flow.keeps").run Tryz.prog X = .ok (258, V) X; kernel_rfl
 ·show (method (n + 1) 238 V "hindsight/flow.keeps").run Tryz.prog X = .ok (260, V) X; kernel_rfl
theorem c_gives {s:Int} (h1:1≤s) (h5:s≤5) (args:Array Value) (X:World):(callFunc (gvF s) args).run Tryz.prog X=.ok (.enter (gvF s) args) X:=by
 have hc:s=1∨s=2∨s=3∨s=4∨s=5:=by omega
 rcases hc with rfl|rfl|rfl|rfl|rfl
 ·exact run_enter Tryz.func245 (by kernel_rfl) rfl args X
 ·exact run_enter Tryz.func247 (by kernel_rfl) rfl args X
 ·exact run_enter Tryz.func255 (by kernel_rfl) rfl args X
 ·exact run_enter Tryz.func257 (by kernel_rfl) rfl args X
 ·exact run_enter Tryz.func259 (by kernel_rfl) rfl args X
theorem c_keeps {s:Int} (h1:1≤s) (h5:s≤5) (args:Array Value) (X:World):(callFunc (kpF s) args).run Tryz.prog X=.ok (.enter (kpF s) args) X:=by
 have hc:s=1∨s=2∨s=3∨s=4∨s=5:=by omega
 rcases hc with rfl|rfl|rfl|rfl|rfl
 ·exact run_enter Tryz.func246 (by kernel_rfl) rfl args X
 ·exact run_enter Tryz.func248 (by kernel_rfl) rfl args X
 ·exact run_enter Tryz.func256 (by kernel_rfl) rfl args X
 ·exact run_enter Tryz.func258 (by kernel_rfl) rfl args X
 ·exact run_enter Tryz.func260 (by kernel_rfl) rfl args X
theorem n_keeps {s : Int} (h1 : 1 ≤ s) (h5 : s ≤ 5) (n b : Nat) (X : World) : (nilAhead (n + 1) (dyT s) (gPtr b) "hindsight/flow.keeps").run Tryz.prog X = .ok (some false) X := by
 have hc:s=1∨s=2∨s=3∨s=4∨s=5:=by omega
 rcases hc with rfl|rfl|rfl|rfl|rfl
 ·show (nilAhead (n + 1) 224 (.pointer (some ⟨b, 0, none⟩)) "hindsight/flow.keeps").run Tryz.prog X = .ok (some false) X; kernel_rfl
 ·show (nilAhead (n + 1) 227 (.pointer (some ⟨b, 0, none⟩)) "hindsight/flow.keeps").run Tryz.prog X = .ok (some false) X; kernel_rfl
 ·show (nilAhead (n + 1) 232 (.pointer (some ⟨b, 0, none⟩)) "hindsight/flow.keeps").run Tryz.prog X = .ok (some false) X; kernel_rfl
 ·show (nilAhead (n + 1) 235 (.pointer (some ⟨b, 0, none⟩)) "hindsight/flow.keeps").run Tryz.prog X = .ok (some false) X; kernel_rfl
 ·show (nilAhead (n + 1) 238 (.pointer (some ⟨b, 0, none⟩)) "hindsight/flow.keeps").run Tryz.prog X = .ok (some false) X; kernel_rfl
theorem a_begun {s:Int} (h1:1≤s) (h5:s≤5) (V:Value) (X:World):(Instr.typeAssert (.iface (dyT s) V) 133 138 true).run Tryz.prog X=.ok (.tuple #[.pointer none,.bool false]) X:=by
 have hc:s=1∨s=2∨s=3∨s=4∨s=5:=by omega
 rcases hc with rfl|rfl|rfl|rfl|rfl
 ·show (Instr.typeAssert (.iface 224 V) 133 138 true).run Tryz.prog X=.ok (.tuple #[.pointer none,.bool false]) X;kernel_rfl
 ·show (Instr.typeAssert (.iface 227 V) 133 138 true).run Tryz.prog X=.ok (.tuple #[.pointer none,.bool false]) X;kernel_rfl
 ·show (Instr.typeAssert (.iface 232 V) 133 138 true).run Tryz.prog X=.ok (.tuple #[.pointer none,.bool false]) X;kernel_rfl
 ·show (Instr.typeAssert (.iface 235 V) 133 138 true).run Tryz.prog X=.ok (.tuple #[.pointer none,.bool false]) X;kernel_rfl
 ·show (Instr.typeAssert (.iface 238 V) 133 138 true).run Tryz.prog X=.ok (.tuple #[.pointer none,.bool false]) X;kernel_rfl
theorem a_ended {s:Int} (h1:1≤s) (h5:s≤5) (V:Value) (X:World):(Instr.typeAssert (.iface (dyT s) V) 133 141 true).run Tryz.prog X=.ok (.tuple #[.pointer none,.bool false]) X:=by
 have hc:s=1∨s=2∨s=3∨s=4∨s=5:=by omega
 rcases hc with rfl|rfl|rfl|rfl|rfl
 ·show (Instr.typeAssert (.iface 224 V) 133 141 true).run Tryz.prog X=.ok (.tuple #[.pointer none,.bool false]) X;kernel_rfl
 ·show (Instr.typeAssert (.iface 227 V) 133 141 true).run Tryz.prog X=.ok (.tuple #[.pointer none,.bool false]) X;kernel_rfl
 ·show (Instr.typeAssert (.iface 232 V) 133 141 true).run Tryz.prog X=.ok (.tuple #[.pointer none,.bool false]) X;kernel_rfl
 ·show (Instr.typeAssert (.iface 235 V) 133 141 true).run Tryz.prog X=.ok (.tuple #[.pointer none,.bool false]) X;kernel_rfl
 ·show (Instr.typeAssert (.iface 238 V) 133 141 true).run Tryz.prog X=.ok (.tuple #[.pointer none,.bool false]) X;kernel_rfl
structure TkH (pl:Nat→Int→Int) (L:LF) (w:World) (fb gm om N K:Nat) (F:FS) (fg:Int→Option Value) (fo:Int→Int→Option Value) (e:Me) (v:Vw):Prop where
 hpl:Rise2 pl
 fm:FM pl L w fb gm om N K F fg fo
 hv:F.gs e.g.toNat=some v
 g:0≤e.g∧e.g≤65535
 o:0≤e.o∧e.o≤18446744073709551615
 a:0≤e.a∧e.a≤18446744073709551615
 ok:ChOk (F.ch e.o) e
 vk:∀ g u,F.gs g=some u→Vok pl u.g u.tm u.pl
 nw:Vok pl v.g (v.tm+1) (F.taken:Int)
 t0:0≤v.tm
 nN:N≤1048576
 nK:K≤1048576
 fk:e.k=7→e.a≤65535∧e.a.toNat≠v.g∧F.gs e.a.toNat=none
 jn:e.k=8→e.a≤65535∧e.a.toNat≠v.g∧∃ u,F.gs e.a.toNat=some u
def Flw:Lf→Prop
 | .vw n=>n < 65536
 | _=>True
def Fl9 (L:LF) (k:Nat):Prop:=∃ l,L k=some l∧Flw l
def TkR (pl:Nat→Int→Int) (L:LF) (w:World) (fb gm om N K:Nat) (F:FS) (e:Me) (v:Vw) (x:Ending) (w':World):Prop :=
 ∃ p L' fg' fo',x=.returned (.agg #[.pointer p,.int .i32 (v.tm+1),.int .i32 (F.taken:Int),.int .u16 (v.g:Int)])∧TL pl L' w' (.pointer p) (v.next (F.give e) F.taken).kn∧FM pl L' w' fb gm om (N+1) (K+1) (F.next e (v.next (F.give e) F.taken)) fg' fo'∧LEx L L' w∧But (Fl9 L) w w'
structure LBk (L:LF) (w:World) (L1:LF):Prop where
 ex:LEx L L1 w
 no:L1 w.heap.size=none
 rs:L1 (w.heap.size+1)=some (.vw 65536)
def LW (L:LF) (w:World):LF:=fun k=>if k=w.heap.size+1 then some (.vw 65536) else L k
section
variable {pl : Nat → Int → Int} {L L1 L2 : LF} {w X Y w' w5 : World} {fb gm om N K vb : Nat} {F F' : FS} {fg fg' : Int → Option Value} {fo fo' : Int → Int → Option Value} {e : Me} {sk : Value} {s o : Int} {v V : Vw} {g : Nat} {c : Clk} {p o9 : Option Addr} {x : Ending}
theorem lw_ex (L:LF) (w:World):LEx L (LW L w) w:=fun k hk=>if_neg (by omega)
theorem lw_lt (h:Llt L w) (hX:w.heap.size+2≤X.heap.size):Llt (LW L w) X:=fun k l hk=>by
 unfold LW at hk
 by_cases e9:k=w.heap.size+1
 ·omega
 ·rw [if_neg e9] at hk;have:=h k l hk;omega
theorem lw_fm (h:FM pl L w fb gm om N K F fg fo) (hb:Below w.heap.size w X) (hX:w.heap.size+2≤X.heap.size):FM pl (LW L w) X fb gm om N K F fg fo :=
 h.but (S:=fun _=>False) (fun _ e=>e) (But.of_below hb) (fun _ e=>e.elim) (fun _ _ _ e _=>e) (lw_ex L w) (lw_lt h.lt hX) (Nat.le_refl _) (Nat.le_refl _)
theorem LBk.of (hl:Llt L w) (hX:w.heap.size+2≤X.heap.size) (h:LEx (LW L w) L1 X):LBk L w L1:=by
 refine ⟨fun k hk=>(h k (by omega)).trans (lw_ex L w k hk),(h _ (by omega)).trans ?_,(h _ (by omega)).trans (if_pos rfl)⟩
 unfold LW
 rw [if_neg (by omega)]
 cases hq:L w.heap.size with
 | none=>rfl
 | some l=>have:=hl _ l hq;omega
theorem LBk.on (h:LBk L w L1) (hl:Llt L1 Y) (h2:LEx L1 L2 Y) (hb:w.heap.size < Y.heap.size):LBk L w L2:=⟨fun k hk=>(h2 k (by omega)).trans (h.ex k hk),(h2 _ hb).trans h.no,(h2 _ (hl _ _ h.rs)).trans h.rs⟩
theorem gPtr_inj {a b:Nat} (h:gPtr a=gPtr b):a=b:=by
 unfold gPtr at h
 injection h with h
 injection h with h
 injection h with h
theorem FX.drop (h:FX (fun l=>l=.vw 65536) pl L w fb gm om N K F fg fo):FM pl L w fb gm om N K F fg fo:=by
 refine ⟨h.lt,h.lf,h.lg,h.lo,fun _=>h.top (by simp),fun _=>h.hg (by simp),fun _=>h.ho (by simp),h.gn,fun g v hv=>?_,h.on,fun s o x hr hx=>?_⟩
 ·obtain ⟨a1,a2,vb,a3,a4,a5⟩:=h.vw g v hv
  refine ⟨a1,a2,vb,a3,a4,fun _=>a5 (fun e9=>?_)⟩
  injection e9 with e9
  omega
 ·obtain ⟨ob,a1,a2,a3⟩:=h.ob s o x hr hx
  exact ⟨ob,a1,a2,fun _=>a3 (by simp)⟩
theorem tk_end (hx:x=.returned (.agg #[.pointer p,.int .i32 (v.tm+1),.int .i32 (F.taken:Int),.int .u16 (v.g:Int)])) (hT:TL pl L2 w5 (.pointer p) (lrn v.kn (F.give e) v.g v.tm)) (hF:FM pl L2 w5 fb gm om (N+1) (K+1) (F.next e (v.next (F.give e) F.taken)) fg' fo') (hL:LBk L w L2) (hb:But (Fl9 L) w w5) (hb2:But (fun k=>k=w.heap.size+1) w5 w'):TkR pl L w fb gm om N K F e v x w':=by
 refine ⟨p,L2,fg',fo',hx,hT.but hb2 (fun k e9 _ e8=>?_) (LEx.refl _ _),?_,hL.ex,hb.trans hb2 (fun k hk e9=>?_)⟩
 ·rw [e9,hL.rs] at e8;cases e8
 ·exact (hF.but (Y:=fun l=>l=.vw 65536) (fun _ e=>e.elim) hb2 (fun k e9 _=>⟨.vw 65536,by rw [e9];exact hL.rs,rfl⟩) (fun s o l e9 h9=>by subst e9;exact h9.elim) (LEx.refl _ _) (hF.lt.on hb2.size) (Nat.le_refl _) (Nat.le_refl _)).drop
 ·have e9:k=w.heap.size+1:=e9
  omega
theorem ob_next (h:ObM pl L w vb s o N (F.keep e V)):ObM pl L w vb s o N (F.next e V):=⟨h.lb,h.s1,h.s2,h.s3,h.s4,h.s5⟩
theorem sm_next (h:Sm s o F (F.keep e V)):Sm s o F (F.next e V):=⟨h.s1,h.s2,h.s3,h.s4,h.s5⟩
theorem gor_no (h7:e.k≠7) (h8:e.k≠8):(F.next e V).gs=setN F.gs V.g (some V):=by
 show F.gor e V=_
 unfold FS.gor
 rw [if_neg h7,if_neg h8]
theorem tk_look {gs:Nat} (hm:HM X 74 .u16 gm N (.pointer none) fg) (hv:fg ((e.g.toNat:Nat):Int)=some (gPtr vb)) (hg:0≤e.g∧e.g≤65535) (ht:X.heap[fb]?=some (.cells #[.int .i32 (gs:Int),.map (some gm),.map (some om)] 123 (0,0))):X.cell? ⟨fb,1,none⟩=some (.map (some gm))∧(Instr.lookup 120 (.map (some gm)) (.int .u16 e.g) false).run Tryz.prog X=.ok (.pointer (some ⟨vb,0,none⟩)) X:=by
 have hc:((e.g.toNat:Nat):Int)=e.g:=by omega
 rw [hc] at hv
 exact ⟨cell_at ht rfl,gm_look hm hv hg.1 hg.2⟩
theorem fl_vw {b n:Nat} (h:L b=some (.vw n)) (hn:n < 65536):Fl9 L b:=⟨_,h,hn⟩
theorem flw_of {l:Lf} (h:l.of s o):Flw l:=by
 cases l with
 | vw n=>exact h.elim
 | _=>trivial
theorem no_lab (h:Llt L w) {k:Nat} (hk:w.heap.size≤k):L k=none:=by
 cases hq:L k with
 | none=>rfl
 | some l=>have:=h k l hq;omega
theorem fm_ob {Xs:Lf→Prop} {ob:Nat} (h:FX Xs pl L w fb gm om N K F fg fo) (hr:Rng s o) (hfo:fo s o=some (.iface (dyT s) (gPtr ob))) (hx:¬ Xs (.ob s o)):ObM pl L w ob s o K F:=by
 obtain ⟨ob2,a1,a2,a3⟩:=h.ob s o _ hr hfo
 injection a1 with _ a1
 rw [gPtr_inj a1]
 exact a3 hx
theorem take_sort (H:TkH pl L w fb gm om N K F fg fo e v) (h0:srt e.k≠0) :
  Calls Tryz.prog 31 #[.pointer (some ⟨fb,0,none⟩),.agg (evA e.g e.k e.o e.a sk)] w (TkR pl L w fb gm om N K F e v):=by
 have f0:¬ False:=fun e=>e
 obtain ⟨hg,hvg,vb,hvb,hlv,_⟩:=H.fm.vw _ v H.hv
 have hbd:=srt_bd e.k
 have s1:1≤srt e.k:=by omega
 have hr:Rng (srt e.k) e.o:=⟨by omega,hbd.2,H.o.1,H.o.2⟩
 have h7:e.k≠7:=fun e9=>h0 (by rw [e9];rfl)
 have h8:e.k≠8:=fun e9=>h0 (by rw [e9];rfl)
 have hnN:=H.nN
 have hvb2:vb≠fb:=fun e9=>by have:=H.fm.lf;rw [← e9,hlv] at this;cases this
 refine (take_walk (Lb9:=fun k=>Fl9 L k∨w.heap.size+2≤k) (T:=dyT (srt e.k)) (fgn:=gvF (srt e.k)) (fkn:=kpF (srt e.k)) (l:=v.pl) (G:=(v.g:Int)) (tm:=v.tm) (tk:=(F.taken:Int)) (gm:=gm) (om:=om) (vb:=vb)
  (Q1:=fun V X=>∃ ob L1 fo1,V=gPtr ob∧FM pl L1 X fb gm om (N+1) K F fg fo1∧fo1 (srt e.k) e.o=some (.iface (dyT (srt e.k)) (gPtr ob))∧L1 ob=some (.ob (srt e.k) e.o)∧LBk L w L1)
  (Q2:=fun V X o9=>∃ ob L1 fo1,V=gPtr ob∧FM pl L1 X fb gm om (N+1) K F fg fo1∧fo1 (srt e.k) e.o=some (.iface (dyT (srt e.k)) (gPtr ob))∧L1 ob=some (.ob (srt e.k) e.o)∧LBk L w L1∧TL pl L1 X (.pointer o9) (F.give e))
  (Q3:=fun V X p=>∃ ob L1 fo1,V=gPtr ob∧S3 pl L1 X fb gm om (N+1) K F fg fo1 e.g.toNat v vb p (F.give e)∧fo1 (srt e.k) e.o=some (.iface (dyT (srt e.k)) (gPtr ob))∧L1 ob=some (.ob (srt e.k) e.o)∧LBk L w L1)
  (Q5:=fun V X p=>∃ L2 fo1,LBk L w L2∧FM pl L2 X fb gm om (N+1) (K+1) (F.next e (v.next (F.give e) F.taken)) fg fo1∧(∃ ty,X.heap[vb]?=some (.cells (vC (.pointer p) (v.tm+1) (F.taken:Int) (v.g:Int)) ty (0,0)))∧TL pl L2 X (.pointer p) (lrn v.kn (F.give e) v.g v.tm))
  ?_ H.g.1 H.g.2 H.t0 (by have:=H.nw.ft.2;omega) (by omega) H.nw.fl.2 (m_gives s1 hbd.2) (m_keeps s1 hbd.2) (c_gives s1 hbd.2) (c_keeps s1 hbd.2) ?_ (a_begun s1 hbd.2) (a_ended s1 hbd.2)).mono ?_
 ·refine ⟨⟨fun e9=>?_,fun e9=>?_⟩,hvb2,fun X hb=>?_,fun X hb hX=>?_,?_,?_,?_,?_,⟨.inl (fl_vw hlv hg),.inl ⟨_,H.fm.lf,trivial⟩⟩,?_,?_⟩
  ·rcases e9 with ⟨l9,e9,_⟩|e9
   ·rw [no_lab H.fm.lt (Nat.le_refl _)] at e9;cases e9
   ·omega
  ·rcases e9 with ⟨l9,e9,_⟩|e9
   ·rw [no_lab H.fm.lt (by omega)] at e9;cases e9
   ·omega
  ·exact tk_look ((H.fm.hg f0).below hb) hvb H.g ((hb.block fb (lt_heap (H.fm.top f0))).trans (H.fm.top f0))
  ·refine (met_sort (lw_fm H.fm hb hX) hr h0 (by omega)).mono ?_
   rintro x w1 ⟨ob,L1,fo1,rfl,hF,hfo,hlo,hLE,hbt⟩
   exact ⟨gPtr ob,rfl,⟨ob,L1,fo1,rfl,hF,hfo,hlo,LBk.of H.fm.lt hX hLE⟩,hbt.mono (fun k e9=>.inl ⟨.om,by rw [e9];exact H.fm.lo,trivial⟩)⟩
  ·rintro V X ⟨ob,L1,fo1,rfl,hF,_⟩
   exact tk_look (hF.hg f0) hvb H.g (hF.top f0)
  ·rintro V X ⟨ob,L1,fo1,rfl,hF,hfo,hlo,hLB⟩
   refine (ob_gives (fm_ob hF hr hfo f0) h0 H.ok H.g).mono ?_
   rintro x w2 ⟨y,rfl,hT,hb⟩
   obtain ⟨o9,rfl⟩:=hT.form
   exact ⟨o9,rfl,⟨ob,L1,fo1,rfl,hF.below (fun _ _ _ e _=>e) hb,hfo,hlo,hLB,hT⟩,But.of_below hb⟩
  ·rintro V X o9 ⟨ob,L1,fo1,rfl,hF,hfo,hlo,hLB,hT⟩
   refine (ln_any H.hpl hF H.hv hvb hT).mono ?_
   rintro x w3 ⟨rfl,p,hS,hb⟩
   exact ⟨rfl,p,⟨ob,L1,fo1,rfl,hS,hfo,hlo,hLB⟩,hb.mono (fun k e9=>.inl (by rw [e9];exact fl_vw hlv hg))⟩
  ·rintro V X p ⟨ob,L1,fo1,rfl,hS,_⟩
   exact ⟨hS.hv,hS.fx.top (by simp)⟩
  ·rintro V X p Y ⟨ob,L1,fo1,rfl,hS,hfo,hlo,hLB⟩ hY
   have h4:=hS.sets hY
   have hOb:=fm_ob h4.fx hr hfo (by simp)
   have hYs:w.heap.size < Y.heap.size:=by have:=h4.fx.lt _ _ hLB.rs;omega
   refine (ob_keeps (V:=v.next (F.give e) F.taken) H.hpl h4.fx.lt hOb h0 H.ok h4.ht H.nw (by have:=H.t0;show 1≤v.tm+1;omega) H.nK H.a).mono ?_
   rintro x w5 ⟨rfl,⟨L2,k1,k2,k3,k4⟩,hb⟩
   have hsb:∀ k l,L1 k=some l→l.of (srt e.k) e.o→Fl9 L k∨w.heap.size+2≤k:=fun k l hk hof=>by
    by_cases hw:w.heap.size+2≤k
    ·exact .inr hw
    ·by_cases h9:k=w.heap.size+1
     ·rw [h9,hLB.rs] at hk;cases hk;exact hof.elim
     ·by_cases h10:k=w.heap.size
      ·rw [h10,hLB.no] at hk;cases hk
      ·rw [hLB.ex k (by omega)] at hk
       exact .inl ⟨l,hk,flw_of hof⟩
   obtain ⟨q1,q2,q3⟩:=h4.kept H.hv hvb (F':=F.next e (v.next (F.give e) F.taken)) (Zs:=fun l=>l.of (srt e.k) e.o) hb (fun k e9 _=>e9) (fun s o l a1 a2=>by obtain ⟨b1,b2⟩:=of_inj a1 a2;exact ⟨b1,b2⟩) k1 k2 (fun e9=>e9.elim) (fun e9=>e9.elim) (fun e9=>e9.elim) (fun _ _ _ e9=>e9.elim) ((gor_no h7 h8).trans (by show setN F.gs v.g _=_;rw [hvg])) rfl
    (fun s o y ob2 hr2 hy hy2 hl2 hz=>by
     obtain ⟨b1,b2⟩:s=srt e.k∧o=e.o:=hz
     subst b1 b2
     rw [hfo,hy2] at hy
     injection hy with hy
     injection hy with _ hy
     rw [← gPtr_inj hy]
     exact ob_next k4)
    (fun s o hz=>sm_next (keep_sm hz))
    (fun s o hr2 hz e9=>by
     obtain ⟨b1,b2⟩:s=srt e.k∧o=e.o:=hz
     rw [b1,b2,hfo] at e9;cases e9)
   exact ⟨rfl,⟨L2,fo1,hLB.on h4.fx.lt k1 hYs,q1,q2,q3⟩,hb.mono (fun k e9=>by obtain ⟨l,a1,a2⟩:=e9;exact hsb k l a1 a2)⟩
  ·rintro V X p ⟨L2,fo1,hLB,hF,hh,hT⟩
   refine ⟨hh,?_⟩
   have h9:=hF.top f0
   rw [show (F.next e (v.next (F.give e) F.taken)).taken=F.taken+1 from rfl,Int.natCast_add] at h9
   exact h9
 ·rintro n V X Y ⟨ob,_,_,rfl,_⟩
  exact n_keeps s1 hbd.2 n ob X
 ·rintro x w' ⟨V,w5,p,rfl,⟨L2,fo1,hLB,hF,_,hT⟩,hb,hb2⟩
  exact tk_end rfl hT hF hLB ⟨hb.os,hb.tape,hb.output,hb.size,fun k hk hn=>hb.block k hk (fun e9=>by rcases e9 with e9|e9;exact hn e9;omega)⟩ hb2
end
end Go.Proofs.YtimgkhdgliojgaaGreatDoor
namespace Go.Proofs.YtimgkhdgliojgaaGreatDoor
open Go.RowKit Go.Maps
section
variable {pl : Nat → Int → Int} {L L1 L2 : LF} {w X Y w' w5 : World} {fb gm om N K vb : Nat} {F F' : FS} {fg fg' : Int → Option Value} {fo fo' : Int → Int → Option Value} {e : Me} {sk : Value} {s o : Int} {v V : Vw} {g : Nat} {c : Clk} {p o9 : Option Addr} {x : Ending}
theorem srt_0 (h:srt e.k=0):¬ (3≤e.k∧e.k≤6)∧¬ (9≤e.k∧e.k≤13)∧¬ (14≤e.k∧e.k≤15)∧e.k≠16∧¬ (17≤e.k∧e.k≤19):=by
 unfold srt at h
 repeat' split at h
 all_goals omega
theorem keep_0 (h:srt e.k=0):F.keep e V=F:=by
 obtain ⟨h1,h2,h3,h4,h5⟩:=srt_0 h
 unfold FS.keep
 rw [if_neg (by omega),if_neg (by omega),if_neg h2,if_neg (by omega),if_neg h4,if_neg (by omega)]
theorem give_0 (h:srt e.k=0) (h8:e.k≠8):F.give e=zc:=by
 obtain ⟨h1,h2,h3,h4,h5⟩:=srt_0 h
 unfold FS.give
 rw [if_neg (by omega),if_neg (by omega),if_neg h8,if_neg h2,if_neg (by omega),if_neg h4,if_neg (by omega)]
theorem sm_0 (h:srt e.k=0) (s o:Int):Sm s o F (F.next e V):=sm_next (by rw [keep_0 h];exact Sm.refl _ _ _)
theorem s4_still (h4:S4 pl L1 Y fb gm om N K F fg fo g v vb p c) (hv:F.gs g=some v) (hvb:fg (g:Int)=some (gPtr vb)) (hb:Below Y.heap.size Y w') (hgs:F'.gs=setN F.gs g (some (v.next c F.taken))) (htk:F'.taken=F.taken+1) (hsm:∀ s o,Sm s o F F') :
  FM pl L1 w' fb gm om N (K+1) F' fg fo∧(∃ ty,w'.heap[vb]?=some (.cells (vC (.pointer p) (v.tm+1) (F.taken:Int) (v.g:Int)) ty (0,0)))∧TL pl L1 w' (.pointer p) (lrn v.kn c v.g v.tm) :=
 h4.kept hv hvb (Zs:=fun _=>False) (S:=fun _=>False) (But.of_below hb) (fun _ e=>e.elim) (fun _ _ _ e _=>e) (LEx.refl _ _) (h4.fx.lt.on hb.size) (fun e=>e) (fun e=>e) (fun e=>e) (fun _ _ _ e=>e) hgs htk (fun _ _ _ _ _ _ _ _ e=>e.elim) (fun s o _=>hsm s o) (fun _ _ _ e=>e.elim)
theorem but_lb {S:Nat→Prop} (hb:But (fun k=>Fl9 L k∨w.heap.size+2≤k) w X):But (Fl9 L) w X:=⟨hb.os,hb.tape,hb.output,hb.size,fun k hk hn=>hb.block k hk (fun e9=>by rcases e9 with e9|e9;exact hn e9;omega)⟩
theorem lab9 (h:Llt L w):(¬ (Fl9 L w.heap.size∨w.heap.size+2≤w.heap.size))∧¬ (Fl9 L (w.heap.size+1)∨w.heap.size+2≤w.heap.size+1):=by
 refine ⟨fun e9=>?_,fun e9=>?_⟩
 ·rcases e9 with ⟨l9,e9,_⟩|e9
  ·rw [no_lab h (Nat.le_refl _)] at e9;cases e9
  ·omega
 ·rcases e9 with ⟨l9,e9,_⟩|e9
  ·rw [no_lab h (by omega)] at e9;cases e9
  ·omega
theorem top_next (hF:FM pl L2 X fb gm om N K F' fg fo) {n:Nat} (ht:F'.taken=n+1):X.heap[fb]?=some (.cells #[.int .i32 ((n:Int)+1),.map (some gm),.map (some om)] 123 (0,0)):=by
 have h9:=hF.top (fun e=>e)
 rw [ht,Int.natCast_add] at h9
 exact h9
theorem take_no (H:TkH pl L w fb gm om N K F fg fo e v) (h0:srt e.k=0) (h7:e.k≠7) (h8:e.k≠8) :
  Calls Tryz.prog 31 #[.pointer (some ⟨fb,0,none⟩),.agg (evA e.g e.k e.o e.a sk)] w (TkR pl L w fb gm om N K F e v):=by
 have f0:¬ False:=fun e=>e
 obtain ⟨hg,hvg,vb,hvb,hlv,_⟩:=H.fm.vw _ v H.hv
 have hvb2:vb≠fb:=fun e9=>by have:=H.fm.lf;rw [← e9,hlv] at this;cases this
 refine (take_walk (Lb9:=fun k=>Fl9 L k∨w.heap.size+2≤k) (T:=181) (fgn:=242) (fkn:=243) (l:=v.pl) (G:=(v.g:Int)) (tm:=v.tm) (tk:=(F.taken:Int)) (gm:=gm) (om:=om) (vb:=vb)
  (Q1:=fun V X=>∃ L1,V=.agg #[]∧FM pl L1 X fb gm om (N+1) K F fg fo∧LBk L w L1)
  (Q2:=fun V X o9=>∃ L1,V=.agg #[]∧FM pl L1 X fb gm om (N+1) K F fg fo∧LBk L w L1∧TL pl L1 X (.pointer o9) (F.give e))
  (Q3:=fun V X p=>∃ L1,V=.agg #[]∧S3 pl L1 X fb gm om (N+1) K F fg fo e.g.toNat v vb p (F.give e)∧LBk L w L1)
  (Q5:=fun V X p=>∃ L2,LBk L w L2∧FM pl L2 X fb gm om (N+1) (K+1) (F.next e (v.next (F.give e) F.taken)) fg fo∧(∃ ty,X.heap[vb]?=some (.cells (vC (.pointer p) (v.tm+1) (F.taken:Int) (v.g:Int)) ty (0,0)))∧TL pl L2 X (.pointer p) (lrn v.kn (F.give e) v.g v.tm))
  ?_ H.g.1 H.g.2 H.t0 (by have:=H.nw.ft.2;omega) (by omega) H.nw.fl.2 (fun n V X=>by kernel_rfl) (fun n V X=>by kernel_rfl) (fun args X=>run_enter Tryz.func242 (by kernel_rfl) rfl args X) (fun args X=>run_enter Tryz.func243 (by kernel_rfl) rfl args X) ?_ (fun V X=>by kernel_rfl) (fun V X=>by kernel_rfl)).mono ?_
 ·refine ⟨lab9 H.fm.lt,hvb2,fun X hb=>?_,fun X hb hX=>?_,?_,?_,?_,?_,⟨.inl (fl_vw hlv hg),.inl ⟨_,H.fm.lf,trivial⟩⟩,?_,?_⟩
  ·exact tk_look ((H.fm.hg f0).below hb) hvb H.g ((hb.block fb (lt_heap (H.fm.top f0))).trans (H.fm.top f0))
  ·refine (met_no h7 h8 h0).mono ?_
   rintro x w1 ⟨rfl,hbt⟩
   refine ⟨_,rfl,⟨LW L w,rfl,(lw_fm H.fm hb hX).but (S:=fun _=>False) (fun _ e=>e) hbt (fun _ e=>e.elim) (fun _ _ _ e _=>e) (LEx.refl _ _) ((lw_lt H.fm.lt hX).on hbt.size) (Nat.le_succ N) (Nat.le_refl _),LBk.of H.fm.lt hX (LEx.refl _ _)⟩,hbt.mono (fun _ e=>e.elim)⟩
  ·rintro V X ⟨L1,rfl,hF,_⟩
   exact tk_look (hF.hg f0) hvb H.g (hF.top f0)
  ·rintro V X ⟨L1,rfl,hF,hLB⟩
   refine nothing_gives.mono ?_
   rintro x w2 ⟨rfl,hb⟩
   exact ⟨_,rfl,⟨L1,rfl,hF.below (fun _ _ _ e _=>e) hb,hLB,by rw [give_0 h0 h8];exact TL.nil _ _ _⟩,But.of_below hb⟩
  ·rintro V X o9 ⟨L1,rfl,hF,hLB,hT⟩
   refine (ln_any H.hpl hF H.hv hvb hT).mono ?_
   rintro x w3 ⟨rfl,p,hS,hb⟩
   exact ⟨rfl,p,⟨L1,rfl,hS,hLB⟩,hb.mono (fun k e9=>.inl (by rw [e9];exact fl_vw hlv hg))⟩
  ·rintro V X p ⟨L1,rfl,hS,_⟩
   exact ⟨hS.hv,hS.fx.top (by simp)⟩
  ·rintro V X p Y ⟨L1,rfl,hS,hLB⟩ hY
   have h4:=hS.sets hY
   refine nothing_keeps.mono ?_
   rintro x w5 ⟨rfl,hb⟩
   obtain ⟨q1,q2,q3⟩:=s4_still h4 H.hv hvb hb (F':=F.next e (v.next (F.give e) F.taken)) ((gor_no h7 h8).trans (by show setN F.gs v.g _=_;rw [hvg])) rfl (sm_0 h0)
   exact ⟨rfl,⟨L1,hLB,q1,q2,q3⟩,But.of_below hb⟩
  ·rintro V X p ⟨L2,hLB,hF,hh,hT⟩
   exact ⟨hh,top_next hF rfl⟩
 ·rintro n V X Y ⟨_,rfl,_⟩
  kernel_rfl
 ·rintro x w' ⟨V,w5,p,rfl,⟨L2,hLB,hF,_,hT⟩,hb,hb2⟩
  exact tk_end rfl hT hF hLB (but_lb (S:=fun _=>False) hb) hb2
end
end Go.Proofs.YtimgkhdgliojgaaGreatDoor
