import Derived.Test.YthgelfdefkbfeaaGreatDoorZu15
set_option maxRecDepth 8000
set_option maxHeartbeats 8000000
set_option linter.unusedVariables false
namespace Go.Proofs.YthgelfdefkbfeaaGreatDoor
open Go.RowKit Go.Maps
inductive Lb where
 | top|gm|lm|cm|km|om|al|me
 | go (g:Int)|he (g:Int)|ch (c:Int)
structure Bl where
 gm:Nat
 lm:Nat
 cm:Nat
 km:Nat
 om:Nat
 va:Value
 vm:Value
 gb:Int→Nat
 gv:Int→Value
 cb:Int→Nat
def ckc (B:Bl) (n:Nat):Array Value:=#[.int .i64 (n:Int),.map (some B.gm),B.va,.map (some B.lm),.map (some B.cm),.map (some B.km),.map (some B.om),B.vm]
def gPtr (b:Nat):Value:=.pointer (some ⟨b,0,none⟩)
def lockV (p:Bool × Int):Value:=.agg #[.bool p.1,.int .i64 p.2]
def gorC (v:Value) (r:Gor):Array Value:=#[v,.int .u64 r.to,.int .i64 r.as_]
def chnC (r:Chn):Array Value:=#[.int .i64 r.room,.int .i64 r.sends,.int .i64 r.recvs,.bool r.closed]
def fG (B:Bl) (M:CS):Int→Option Value:=fun g=>(M.gs g).map fun _=>gPtr (B.gb g)
def fL (M:CS):Int→Option Value:=fun x=>(M.locks x).map lockV
def fC (B:Bl) (M:CS):Int→Option Value:=fun x=>(M.chans x).map fun _=>gPtr (B.cb x)
def fK (M:CS):Int→Option Value:=fun x=>if M.cnt x=0 then none else some (.int .i64 (M.cnt x))
def fO (M:CS):Int→Option Value:=fun x=>if M.once x then some (.agg #[]) else none
structure CkX (X:Lb→Prop) (w:World) (cb:Nat) (B:Bl) (F:Nat→Option Lb) (M:CS) (N:Nat):Prop where
 lt:∀ k l,F k=some l→k < w.heap.size
 top:F cb=some .top
 blk:¬ X .top→w.heap[cb]?=some (.cells (ckc B M.taken) 80 (0,0))
 mg:¬ X .gm→F B.gm=some .gm∧HM w 3 .i64 B.gm N (.pointer none) (fG B M)
 ml:¬ X .lm→F B.lm=some .lm∧HM w 33 .u64 B.lm N (.agg #[.bool false,.int .i64 0]) (fL M)
 mc:¬ X .cm→F B.cm=some .cm∧HM w 33 .u64 B.cm N (.pointer none) (fC B M)
 mt:¬ X .km→F B.km=some .km∧HM w 33 .u64 B.km N (.int .i64 0) (fK M)
 mo:¬ X .om→F B.om=some .om∧HM w 33 .u64 B.om N (.agg #[]) (fO M)
 al:¬ X .al→Rise w (fun k=>F k=some .al) B.va M.alive
 me:¬ X .me→Rise w (fun k=>F k=some .me) B.vm M.mem
 gor:∀ g r,M.gs g=some r→¬ X (.go g)→F (B.gb g)=some (.go g)∧w.heap[B.gb g]?=some (.cells (gorC (B.gv g) r) 123 (0,0))
 he:∀ g r,M.gs g=some r→¬ X (.he g)→Rise w (fun k=>F k=some (.he g)) (B.gv g) r.held
 chn:∀ c r,M.chans c=some r→¬ X (.ch c)→F (B.cb c)=some (.ch c)∧w.heap[B.cb c]?=some (.cells (chnC r) 157 (0,0))
abbrev Ck:=CkX (fun _=>False)
def FEx (F F':Nat→Option Lb) (w:World):Prop:=∀ k,k < w.heap.size→F' k=F k
theorem FEx.refl (F:Nat→Option Lb) (w:World):FEx F F w:=fun _ _=>rfl
section
variable {X : Lb → Prop} {w w' : World} {cb : Nat} {B : Bl} {F : Nat → Option Lb} {M : CS} {N : Nat}
theorem CkX.but {S:Nat→Prop} {F':Nat→Option Lb} (h:CkX (fun _=>False) w cb B F M N) (hb:But S w w') (hS:∀ k,k < w.heap.size→S k→∀ l,F k=some l→X l) (hF:FEx F F' w) (hlt:∀ k l,F' k=some l→k < w'.heap.size):CkX X w' cb B F' M N:=by
 have hno:∀ k l,F k=some l→¬ X l→¬ S k:=fun k l hl hx hs=>hx (hS k (h.lt k l hl) hs l hl)
 have hnew:∀ k l,F k=some l→F' k=some l:=fun k l hl=>(hF k (h.lt k l hl)).trans hl
 have hri:∀ {v:Value} {L:List Ent} (l:Lb),¬ X l→Rise w (fun k=>F k=some l) v L→Rise w' (fun k=>F' k=some l) v L:=fun l hx hr=>(hr.but hb (fun b hb'=>hno b l hb' hx)).mono (fun b hb'=>hnew b l hb')
 have f0:¬ False:=fun e=>e
 refine ⟨hlt,hnew _ _ h.top,fun hx=>(hb.block cb (h.lt _ _ h.top) (hno _ _ h.top hx)).trans (h.blk f0),
  fun hx=>⟨hnew _ _ (h.mg f0).1,(h.mg f0).2.but hb (hno _ _ (h.mg f0).1 hx)⟩,fun hx=>⟨hnew _ _ (h.ml f0).1,(h.ml f0).2.but hb (hno _ _ (h.ml f0).1 hx)⟩,
  fun hx=>⟨hnew _ _ (h.mc f0).1,(h.mc f0).2.but hb (hno _ _ (h.mc f0).1 hx)⟩,fun hx=>⟨hnew _ _ (h.mt f0).1,(h.mt f0).2.but hb (hno _ _ (h.mt f0).1 hx)⟩,
  fun hx=>⟨hnew _ _ (h.mo f0).1,(h.mo f0).2.but hb (hno _ _ (h.mo f0).1 hx)⟩,fun hx=>hri _ hx (h.al f0),fun hx=>hri _ hx (h.me f0),
  fun g r hg hx=>?_,fun g r hg hx=>hri _ hx (h.he g r hg f0),fun c r hc hx=>?_⟩
 ·obtain ⟨h1,h2⟩:=h.gor g r hg f0
  exact ⟨hnew _ _ h1,(hb.block _ (h.lt _ _ h1) (hno _ _ h1 hx)).trans h2⟩
 ·obtain ⟨h1,h2⟩:=h.chn c r hc f0
  exact ⟨hnew _ _ h1,(hb.block _ (h.lt _ _ h1) (hno _ _ h1 hx)).trans h2⟩
theorem CkX.below (h:Ck w cb B F M N) (hb:Below w.heap.size w w'):Ck w' cb B F M N :=
 h.but (S:=fun _=>False) (But.of_below hb) (fun _ _ e=>e.elim) (FEx.refl _ _) (fun k l hl=>Nat.lt_of_lt_of_le (h.lt k l hl) hb.size)
theorem CkX.up {N':Nat} (h:CkX X w cb B F M N) (hN:N≤N'):CkX X w cb B F M N' :=
 ⟨h.lt,h.top,h.blk,fun x=>⟨(h.mg x).1,(h.mg x).2.up hN⟩,fun x=>⟨(h.ml x).1,(h.ml x).2.up hN⟩,fun x=>⟨(h.mc x).1,(h.mc x).2.up hN⟩,fun x=>⟨(h.mt x).1,(h.mt x).2.up hN⟩,fun x=>⟨(h.mo x).1,(h.mo x).2.up hN⟩,h.al,h.me,h.gor,h.he,h.chn⟩
def lab (F:Nat→Option Lb) (w w':World) (l:Lb):Nat→Option Lb:=fun k=>if w.heap.size≤k∧k < w'.heap.size then some l else F k
theorem lab_old (F:Nat→Option Lb) (w w':World) (l:Lb):FEx F (lab F w w' l) w:=fun k hk=>if_neg (by omega)
theorem lab_lt (h:∀ k l,F k=some l→k < w.heap.size) (hs:w.heap.size≤w'.heap.size) (l:Lb):∀ k l',lab F w w' l k=some l'→k < w'.heap.size:=by
 intro k l' hk
 unfold lab at hk
 split at hk
 ·omega
 ·have:=h k l' hk;omega
theorem lab_more (h:∀ k l,F k=some l→k < w.heap.size) (l:Lb):∀ k,More (fun k=>F k=some l) w w' k→lab F w w' l k=some l:=by
 intro k hk
 rcases hk with hk|hk
 ·have:=h k l hk
  unfold lab
  rw [if_neg (by omega)];exact hk
 ·unfold lab;rw [if_pos hk]
def CkR (w:World) (cb:Nat) (F:Nat→Option Lb) (M:CS) (N:Nat) (w':World):Prop:=∃ B' F',Ck w' cb B' F' M N∧FEx F F' w∧But (fun k=>F k≠none) w w'
theorem CkR.of (h:Ck w cb B F M N):CkR w cb F M N w:=⟨B,F,h,FEx.refl _ _,But.refl _ _⟩
theorem CkR.trans {w2:World} {F1:Nat→Option Lb} {M2:CS} (hF:FEx F F1 w) (hb:But (fun k=>F k≠none) w w') (h:CkR w' cb F1 M2 N w2):CkR w cb F M2 N w2:=by
 obtain ⟨B',F',h1,h2,h3⟩:=h
 refine ⟨B',F',h1,fun k hk=>(h2 k (Nat.lt_of_lt_of_le hk hb.size)).trans (hF k hk),hb.trans h3 (fun k hk e=>?_)⟩
 rw [← hF k hk];exact e
theorem CkR.below {M2:CS} {w2:World} (hb:Below w.heap.size w w') (h:CkR w' cb F M2 N w2):CkR w cb F M2 N w2:=CkR.trans (FEx.refl _ _) (But.of_below hb) h
theorem CkR.on {M2:CS} {w2:World} (h:CkR w cb F M2 N w') (hb:Below w'.heap.size w' w2):CkR w cb F M2 N w2:=by
 obtain ⟨B',F',h1,h2,h3⟩:=h
 exact ⟨B',F',h1.below hb,h2,h3.on hb⟩
theorem CkX.setL {N':Nat} (h0:Ck w cb B F M N) (hN:N≤N') {f:Int→Option (Bool × Int)} (hm:HM w' 33 .u64 B.lm N' (.agg #[.bool false,.int .i64 0]) (fun x=>(f x).map lockV)) (hb:But (fun k=>k=B.lm) w w'):Ck w' cb B F { M with locks:=f } N'∧But (fun k=>F k≠none) w w':=by
 have h:=h0.up hN
 have f0:¬ False:=fun e=>e
 have hl:=(h.ml f0).1
 have kx:CkX (fun l=>l=.lm) w' cb B F M N':=h.but hb (fun k _ e l hk=>by have e9:k=B.lm:=e;rw [e9,hl] at hk;exact (Option.some.inj hk).symm) (FEx.refl _ _) (fun k l hk=>Nat.lt_of_lt_of_le (h.lt k l hk) hb.size)
 refine ⟨⟨kx.lt,kx.top,fun _=>kx.blk (by simp),fun _=>kx.mg (by simp),fun _=>⟨hl,hm⟩,fun _=>kx.mc (by simp),fun _=>kx.mt (by simp),fun _=>kx.mo (by simp),fun _=>kx.al (by simp),fun _=>kx.me (by simp),fun g r hg _=>kx.gor g r hg (by simp),fun g r hg _=>kx.he g r hg (by simp),fun c r hc _=>kx.chn c r hc (by simp)⟩,hb.mono (fun k e=>by rw [e,hl];simp)⟩
theorem CkX.setK {N':Nat} (h0:Ck w cb B F M N) (hN:N≤N') {f:Int→Int} (hm:HM w' 33 .u64 B.km N' (.int .i64 0) (fun x=>if f x=0 then none else some (.int .i64 (f x)))) (hb:But (fun k=>k=B.km) w w'):Ck w' cb B F { M with cnt:=f } N'∧But (fun k=>F k≠none) w w':=by
 have h:=h0.up hN
 have f0:¬ False:=fun e=>e
 have hl:=(h.mt f0).1
 have kx:CkX (fun l=>l=.km) w' cb B F M N':=h.but hb (fun k _ e l hk=>by have e9:k=B.km:=e;rw [e9,hl] at hk;exact (Option.some.inj hk).symm) (FEx.refl _ _) (fun k l hk=>Nat.lt_of_lt_of_le (h.lt k l hk) hb.size)
 refine ⟨⟨kx.lt,kx.top,fun _=>kx.blk (by simp),fun _=>kx.mg (by simp),fun _=>kx.ml (by simp),fun _=>kx.mc (by simp),fun _=>⟨hl,hm⟩,fun _=>kx.mo (by simp),fun _=>kx.al (by simp),fun _=>kx.me (by simp),fun g r hg _=>kx.gor g r hg (by simp),fun g r hg _=>kx.he g r hg (by simp),fun c r hc _=>kx.chn c r hc (by simp)⟩,hb.mono (fun k e=>by rw [e,hl];simp)⟩
theorem CkX.setO {N':Nat} (h0:Ck w cb B F M N) (hN:N≤N') {f:Int→Bool} (hm:HM w' 33 .u64 B.om N' (.agg #[]) (fun x=>if f x then some (.agg #[]) else none)) (hb:But (fun k=>k=B.om) w w'):Ck w' cb B F { M with once:=f } N'∧But (fun k=>F k≠none) w w':=by
 have h:=h0.up hN
 have f0:¬ False:=fun e=>e
 have hl:=(h.mo f0).1
 have kx:CkX (fun l=>l=.om) w' cb B F M N':=h.but hb (fun k _ e l hk=>by have e9:k=B.om:=e;rw [e9,hl] at hk;exact (Option.some.inj hk).symm) (FEx.refl _ _) (fun k l hk=>Nat.lt_of_lt_of_le (h.lt k l hk) hb.size)
 refine ⟨⟨kx.lt,kx.top,fun _=>kx.blk (by simp),fun _=>kx.mg (by simp),fun _=>kx.ml (by simp),fun _=>kx.mc (by simp),fun _=>kx.mt (by simp),fun _=>⟨hl,hm⟩,fun _=>kx.al (by simp),fun _=>kx.me (by simp),fun g r hg _=>kx.gor g r hg (by simp),fun g r hg _=>kx.he g r hg (by simp),fun c r hc _=>kx.chn c r hc (by simp)⟩,hb.mono (fun k e=>by rw [e,hl];simp)⟩
theorem CkX.setHe (h:Ck w cb B F M N) {g:Int} {r:Gor} (hg:M.gs g=some r) {L:List Ent} (hp:RP w (fun k=>F k=some (.he g)) (B.gb g) 0 (gorC (B.gv g) r) 123 L w'):∃ v',Ck w' cb { B with gv:=setF B.gv g v' } (lab F w w' (.he g)) { M with gs:=setF M.gs g (some { r with held:=L }) } N∧FEx F (lab F w w' (.he g)) w∧But (fun k=>F k≠none) w w':=by
 have f0:¬ False:=fun e=>e
 obtain ⟨v',h1,h2,h3⟩:=hp
 obtain ⟨hl,hc⟩:=h.gor g r hg f0
 have hlt:=lab_lt (w':=w') h.lt h3.size (.he g)
 have kx:CkX (fun l=>l=.go g∨l=.he g) w' cb B (lab F w w' (.he g)) M N:=h.but h3 (fun k _ e l hk=>by
  rcases e with e|e
  ·rw [e] at hk;exact .inr (Option.some.inj hk).symm
  ·have e9:k=B.gb g:=e
   rw [e9,hl] at hk;exact .inl (Option.some.inj hk).symm) (lab_old _ _ _ _) hlt
 have hlab:lab F w w' (.he g) (B.gb g)=some (.go g):=(lab_old F w w' (.he g) _ (h.lt _ _ hl)).trans hl
 refine ⟨v',⟨kx.lt,kx.top,fun _=>kx.blk (by simp),fun _=>?_,fun _=>kx.ml (by simp),fun _=>kx.mc (by simp),fun _=>kx.mt (by simp),fun _=>kx.mo (by simp),fun _=>kx.al (by simp),fun _=>kx.me (by simp),fun g' r' hg' _=>?_,fun g' r' hg' _=>?_,fun c r hc _=>kx.chn c r hc (by simp)⟩,lab_old _ _ _ _,h3.mono (fun k e=>?_)⟩
 ·obtain ⟨m1,m2⟩:=kx.mg (by simp)
  refine ⟨m1,?_⟩
  have e:fG { B with gv:=setF B.gv g v' } { M with gs:=setF M.gs g (some { r with held:=L }) }=fG B M:=by
   funext x
   unfold fG
   by_cases hx:x=g
   ·subst hx;dsimp only;rw [setF_same,hg];rfl
   ·dsimp only;rw [setF_other _ _ hx]
  rw [e];exact m2
 ·by_cases e:g'=g
  ·subst e
   dsimp only at hg' ⊢
   rw [setF_same] at hg'
   cases hg'
   rw [setF_same]
   exact ⟨hlab,h2⟩
  ·dsimp only at hg' ⊢
   rw [setF_other _ _ e] at hg' ⊢
   exact kx.gor g' r' hg' (by simp [e])
 ·by_cases e:g'=g
  ·subst e
   dsimp only at hg' ⊢
   rw [setF_same] at hg'
   cases hg'
   rw [setF_same]
   exact h1.mono (lab_more h.lt _)
  ·dsimp only at hg' ⊢
   rw [setF_other _ _ e] at hg' ⊢
   exact kx.he g' r' hg' (by simp [e])
 ·rcases e with e|e
  ·rw [e];simp
  ·rw [e,hl];simp
theorem CkX.setH (h:Ck w cb B F M N) {g:Int} {r:Gor} (hg:M.gs g=some r) {L:List Ent} (hp:RP w (fun k=>F k=some (.he g)) (B.gb g) 0 (gorC (B.gv g) r) 123 L w'):CkR w cb F { M with gs:=setF M.gs g (some { r with held:=L }) } N w':=by
 obtain ⟨v',h1,h2,h3⟩:=h.setHe hg hp
 exact ⟨_,_,h1,h2,h3⟩
theorem ckc2 (B:Bl) (n:Nat) (v:Value):(ckc B n).setIfInBounds 2 v=ckc { B with va:=v } n:=rfl
theorem ckc7 (B:Bl) (n:Nat) (v:Value):(ckc B n).setIfInBounds 7 v=ckc { B with vm:=v } n:=rfl
theorem CkX.setA (h:Ck w cb B F M N) {L:List Ent} (hp:RP w (fun k=>F k=some .al) cb 2 (ckc B M.taken) 80 L w'):CkR w cb F { M with alive:=L } N w':=by
 obtain ⟨v',h1,h2,h3⟩:=hp
 have hlt:=lab_lt (w':=w') h.lt h3.size .al
 have kx:CkX (fun l=>l=.top∨l=.al) w' cb B (lab F w w' .al) M N:=h.but h3 (fun k _ e l hk=>by
  rcases e with e|e
  ·rw [e] at hk;exact .inr (Option.some.inj hk).symm
  ·have e9:k=cb:=e
   rw [e9,h.top] at hk;exact .inl (Option.some.inj hk).symm) (lab_old _ _ _ _) hlt
 refine ⟨{ B with va:=v' },lab F w w' .al,⟨kx.lt,kx.top,fun _=>by rw [h2,ckc2],fun _=>kx.mg (by simp),fun _=>kx.ml (by simp),fun _=>kx.mc (by simp),fun _=>kx.mt (by simp),fun _=>kx.mo (by simp),fun _=>h1.mono (lab_more h.lt _),fun _=>kx.me (by simp),fun g' r' hg' _=>kx.gor g' r' hg' (by simp),fun g' r' hg' _=>kx.he g' r' hg' (by simp),fun c r hc _=>kx.chn c r hc (by simp)⟩,lab_old _ _ _ _,h3.mono (fun k e=>?_)⟩
 rcases e with e|e
 ·rw [e];simp
 ·rw [e,h.top];simp
theorem CkX.setM (h:Ck w cb B F M N) {L:List Ent} (hp:RP w (fun k=>F k=some .me) cb 7 (ckc B M.taken) 80 L w'):CkR w cb F { M with mem:=L } N w':=by
 obtain ⟨v',h1,h2,h3⟩:=hp
 have hlt:=lab_lt (w':=w') h.lt h3.size .me
 have kx:CkX (fun l=>l=.top∨l=.me) w' cb B (lab F w w' .me) M N:=h.but h3 (fun k _ e l hk=>by
  rcases e with e|e
  ·rw [e] at hk;exact .inr (Option.some.inj hk).symm
  ·have e9:k=cb:=e
   rw [e9,h.top] at hk;exact .inl (Option.some.inj hk).symm) (lab_old _ _ _ _) hlt
 refine ⟨{ B with vm:=v' },lab F w w' .me,⟨kx.lt,kx.top,fun _=>by rw [h2,ckc7],fun _=>kx.mg (by simp),fun _=>kx.ml (by simp),fun _=>kx.mc (by simp),fun _=>kx.mt (by simp),fun _=>kx.mo (by simp),fun _=>kx.al (by simp),fun _=>h1.mono (lab_more h.lt _),fun g' r' hg' _=>kx.gor g' r' hg' (by simp),fun g' r' hg' _=>kx.he g' r' hg' (by simp),fun c r hc _=>kx.chn c r hc (by simp)⟩,lab_old _ _ _ _,h3.mono (fun k e=>?_)⟩
 rcases e with e|e
 ·rw [e];simp
 ·rw [e,h.top];simp
theorem CkX.setG (h:Ck w cb B F M N) {g:Int} {r r':Gor} (hg:M.gs g=some r) (hh:r'.held=r.held) (hc:w'.heap[B.gb g]?=some (.cells (gorC (B.gv g) r') 123 (0,0))) (hb:But (fun k=>k=B.gb g) w w'):Ck w' cb B F { M with gs:=setF M.gs g (some r') } N∧But (fun k=>F k≠none) w w':=by
 have f0:¬ False:=fun e=>e
 obtain ⟨hl,_⟩:=h.gor g r hg f0
 have kx:CkX (fun l=>l=.go g) w' cb B F M N:=h.but hb (fun k _ e l hk=>by have e9:k=B.gb g:=e;rw [e9,hl] at hk;exact (Option.some.inj hk).symm) (FEx.refl _ _) (fun k l hk=>Nat.lt_of_lt_of_le (h.lt k l hk) hb.size)
 refine ⟨⟨kx.lt,kx.top,fun _=>kx.blk (by simp),fun _=>?_,fun _=>kx.ml (by simp),fun _=>kx.mc (by simp),fun _=>kx.mt (by simp),fun _=>kx.mo (by simp),fun _=>kx.al (by simp),fun _=>kx.me (by simp),fun g' r' hg' _=>?_,fun g' r' hg' _=>?_,fun c r hc _=>kx.chn c r hc (by simp)⟩,hb.mono (fun k e=>by rw [e,hl];simp)⟩
 ·obtain ⟨m1,m2⟩:=kx.mg (by simp)
  refine ⟨m1,?_⟩
  have e:fG B { M with gs:=setF M.gs g (some r') }=fG B M:=by
   funext x
   unfold fG
   by_cases hx:x=g
   ·subst hx;dsimp only;rw [setF_same,hg];rfl
   ·dsimp only;rw [setF_other _ _ hx]
  rw [e];exact m2
 ·dsimp only at hg'
  by_cases e:g'=g
  ·subst e
   rw [setF_same] at hg'
   cases hg'
   exact ⟨hl,hc⟩
  ·rw [setF_other _ _ e] at hg'
   exact kx.gor g' r' hg' (by simp [e])
 ·dsimp only at hg'
  by_cases e:g'=g
  ·subst e
   rw [setF_same] at hg'
   cases hg'
   rw [hh]
   exact kx.he g' r hg (by simp)
  ·rw [setF_other _ _ e] at hg'
   exact kx.he g' r' hg' (by simp)
theorem CkX.setC (h:Ck w cb B F M N) {o:Int} {r r':Chn} (hg:M.chans o=some r) (hc:w'.heap[B.cb o]?=some (.cells (chnC r') 157 (0,0))) (hb:But (fun k=>k=B.cb o) w w'):Ck w' cb B F { M with chans:=setF M.chans o (some r') } N∧But (fun k=>F k≠none) w w':=by
 have f0:¬ False:=fun e=>e
 obtain ⟨hl,_⟩:=h.chn o r hg f0
 have kx:CkX (fun l=>l=.ch o) w' cb B F M N:=h.but hb (fun k _ e l hk=>by have e9:k=B.cb o:=e;rw [e9,hl] at hk;exact (Option.some.inj hk).symm) (FEx.refl _ _) (fun k l hk=>Nat.lt_of_lt_of_le (h.lt k l hk) hb.size)
 refine ⟨⟨kx.lt,kx.top,fun _=>kx.blk (by simp),fun _=>kx.mg (by simp),fun _=>kx.ml (by simp),fun _=>?_,fun _=>kx.mt (by simp),fun _=>kx.mo (by simp),fun _=>kx.al (by simp),fun _=>kx.me (by simp),fun g' r' hg' _=>kx.gor g' r' hg' (by simp),fun g' r' hg' _=>kx.he g' r' hg' (by simp),fun c r' hc' _=>?_⟩,hb.mono (fun k e=>by rw [e,hl];simp)⟩
 ·obtain ⟨m1,m2⟩:=kx.mc (by simp)
  refine ⟨m1,?_⟩
  have e:fC B { M with chans:=setF M.chans o (some r') }=fC B M:=by
   funext x
   unfold fC
   by_cases hx:x=o
   ·subst hx;dsimp only;rw [setF_same,hg];rfl
   ·dsimp only;rw [setF_other _ _ hx]
  rw [e];exact m2
 ·dsimp only at hc'
  by_cases e:c=o
  ·subst e
   rw [setF_same] at hc'
   cases hc'
   exact ⟨hl,hc⟩
  ·rw [setF_other _ _ e] at hc'
   exact kx.chn c r' hc' (by simp [e])
theorem CkX.setT (h:Ck w cb B F M N) (m:Nat) (hc:w'.heap[cb]?=some (.cells (ckc B m) 80 (0,0))) (hb:But (fun k=>k=cb) w w'):Ck w' cb B F { M with taken:=m } N∧But (fun k=>F k≠none) w w':=by
 have kx:CkX (fun l=>l=.top) w' cb B F M N:=h.but hb (fun k _ e l hk=>by have e9:k=cb:=e;rw [e9,h.top] at hk;exact (Option.some.inj hk).symm) (FEx.refl _ _) (fun k l hk=>Nat.lt_of_lt_of_le (h.lt k l hk) hb.size)
 exact ⟨⟨kx.lt,kx.top,fun _=>hc,fun _=>kx.mg (by simp),fun _=>kx.ml (by simp),fun _=>kx.mc (by simp),fun _=>kx.mt (by simp),fun _=>kx.mo (by simp),fun _=>kx.al (by simp),fun _=>kx.me (by simp),fun g r hg _=>kx.gor g r hg (by simp),fun g r hg _=>kx.he g r hg (by simp),fun c r hc _=>kx.chn c r hc (by simp)⟩,hb.mono (fun k e=>by rw [e,h.top];simp)⟩
def lab1 (F:Nat→Option Lb) (b:Nat) (l:Lb):Nat→Option Lb:=fun k=>if k=b then some l else F k
theorem lab1_same (F:Nat→Option Lb) (b:Nat) (l:Lb):lab1 F b l b=some l:=if_pos rfl
theorem lab1_other {F:Nat→Option Lb} {b k:Nat} (l:Lb) (h:k≠b):lab1 F b l k=F k:=if_neg h
theorem CkX.newG {w1:World} {N':Nat} (h0:Ck w cb B F M N) (hN:N≤N') {g:Int} (hg:M.gs g=none) (hw1:w1=w.alloc (.cells (gorC (.slice none 0 0) ⟨[],0,0⟩) 123)) (hm:HM w' 3 .i64 B.gm N' (.pointer none) (setF (fG B M) g (some (gPtr w.heap.size)))) (hb:But (fun k=>k=B.gm) w1 w') :
  Ck w' cb { B with gb:=setF B.gb g w.heap.size,gv:=setF B.gv g (.slice none 0 0) } (lab1 F w.heap.size (.go g)) { M with gs:=setF M.gs g (some ⟨[],0,0⟩) } N'∧FEx F (lab1 F w.heap.size (.go g)) w∧But (fun k=>F k≠none) w w':=by
 have f0:¬ False:=fun e=>e
 have h:=h0.up hN
 have hl:=(h.mg f0).1
 have hsz:w1.heap.size=w.heap.size+1:=by rw [hw1,World.size_alloc]
 have hB:But (fun k=>k=B.gm) w w':=(by rw [hw1] at hb;exact (But.of_below (below_alloc1 w _)).trans hb (fun _ _ e=>e))
 have hF:FEx F (lab1 F w.heap.size (.go g)) w:=fun k hk=>lab1_other _ (by omega)
 have hs:=hb.size
 have hlt:∀ k l,lab1 F w.heap.size (.go g) k=some l→k < w'.heap.size:=by
  intro k l hk
  by_cases e:k=w.heap.size
  ·omega
  ·rw [lab1_other _ e] at hk;have:=h.lt k l hk;omega
 have kx:CkX (fun l=>l=.gm) w' cb B (lab1 F w.heap.size (.go g)) M N':=h.but hB (fun k _ e l hk=>by have e9:k=B.gm:=e;rw [e9,hl] at hk;exact (Option.some.inj hk).symm) hF hlt
 have hgm:B.gm < w.heap.size:=h.lt _ _ hl
 have hnew:w'.heap[w.heap.size]?=some (.cells (gorC (.slice none 0 0) ⟨[],0,0⟩) 123 (0,0)):=(hb.block _ (by omega) (by omega)).trans (by rw [hw1];exact heap_new _ _)
 refine ⟨⟨kx.lt,kx.top,fun _=>kx.blk (by simp),fun _=>⟨(hF _ hgm).trans hl,?_⟩,fun _=>kx.ml (by simp),fun _=>kx.mc (by simp),fun _=>kx.mt (by simp),fun _=>kx.mo (by simp),fun _=>kx.al (by simp),fun _=>kx.me (by simp),fun g' r' hg' _=>?_,fun g' r' hg' _=>?_,fun c r hc _=>kx.chn c r hc (by simp)⟩,hF,hB.mono (fun k e=>by rw [e,hl];simp)⟩
 ·have e:fG { B with gb:=setF B.gb g w.heap.size,gv:=setF B.gv g (.slice none 0 0) } { M with gs:=setF M.gs g (some ⟨[],0,0⟩) }=setF (fG B M) g (some (gPtr w.heap.size)):=by
   funext x
   unfold fG
   by_cases hx:x=g
   ·subst hx;dsimp only;rw [setF_same,setF_same,setF_same];rfl
   ·dsimp only;rw [setF_other _ _ hx,setF_other _ _ hx,setF_other _ _ hx]
  rw [e];exact hm
 ·dsimp only at hg' ⊢
  by_cases e:g'=g
  ·subst e
   rw [setF_same] at hg'
   cases hg'
   rw [setF_same,setF_same]
   exact ⟨lab1_same _ _ _,hnew⟩
  ·rw [setF_other _ _ e] at hg' ⊢
   rw [setF_other _ _ e]
   exact kx.gor g' r' hg' (by simp)
 ·dsimp only at hg' ⊢
  by_cases e:g'=g
  ·subst e
   rw [setF_same] at hg'
   cases hg'
   rw [setF_same]
   exact Rise.nil _ _
  ·rw [setF_other _ _ e] at hg' ⊢
   exact kx.he g' r' hg' (by simp)
theorem CkX.newC {w1:World} {N':Nat} (h0:Ck w cb B F M N) (hN:N≤N') {o:Int} (hg:M.chans o=none) {r:Chn} (hw1:w1=w.alloc (.cells (chnC r) 157)) (hm:HM w' 33 .u64 B.cm N' (.pointer none) (setF (fC B M) o (some (gPtr w.heap.size)))) (hb:But (fun k=>k=B.cm) w1 w') :
  Ck w' cb { B with cb:=setF B.cb o w.heap.size } (lab1 F w.heap.size (.ch o)) { M with chans:=setF M.chans o (some r) } N'∧FEx F (lab1 F w.heap.size (.ch o)) w∧But (fun k=>F k≠none) w w':=by
 have f0:¬ False:=fun e=>e
 have h:=h0.up hN
 have hl:=(h.mc f0).1
 have hsz:w1.heap.size=w.heap.size+1:=by rw [hw1,World.size_alloc]
 have hB:But (fun k=>k=B.cm) w w':=(by rw [hw1] at hb;exact (But.of_below (below_alloc1 w _)).trans hb (fun _ _ e=>e))
 have hF:FEx F (lab1 F w.heap.size (.ch o)) w:=fun k hk=>lab1_other _ (by omega)
 have hs:=hb.size
 have hlt:∀ k l,lab1 F w.heap.size (.ch o) k=some l→k < w'.heap.size:=by
  intro k l hk
  by_cases e:k=w.heap.size
  ·omega
  ·rw [lab1_other _ e] at hk;have:=h.lt k l hk;omega
 have kx:CkX (fun l=>l=.cm) w' cb B (lab1 F w.heap.size (.ch o)) M N':=h.but hB (fun k _ e l hk=>by have e9:k=B.cm:=e;rw [e9,hl] at hk;exact (Option.some.inj hk).symm) hF hlt
 have hgm:B.cm < w.heap.size:=h.lt _ _ hl
 have hnew:w'.heap[w.heap.size]?=some (.cells (chnC r) 157 (0,0)):=(hb.block _ (by omega) (by omega)).trans (by rw [hw1];exact heap_new _ _)
 refine ⟨⟨kx.lt,kx.top,fun _=>kx.blk (by simp),fun _=>kx.mg (by simp),fun _=>kx.ml (by simp),fun _=>⟨(hF _ hgm).trans hl,?_⟩,fun _=>kx.mt (by simp),fun _=>kx.mo (by simp),fun _=>kx.al (by simp),fun _=>kx.me (by simp),fun g' r' hg' _=>kx.gor g' r' hg' (by simp),fun g' r' hg' _=>kx.he g' r' hg' (by simp),fun c r' hc' _=>?_⟩,hF,hB.mono (fun k e=>by rw [e,hl];simp)⟩
 ·have e:fC { B with cb:=setF B.cb o w.heap.size } { M with chans:=setF M.chans o (some r) }=setF (fC B M) o (some (gPtr w.heap.size)):=by
   funext x
   unfold fC
   by_cases hx:x=o
   ·subst hx;dsimp only;rw [setF_same,setF_same,setF_same];rfl
   ·dsimp only;rw [setF_other _ _ hx,setF_other _ _ hx,setF_other _ _ hx]
  rw [e];exact hm
 ·dsimp only at hc' ⊢
  by_cases e:c=o
  ·subst e
   rw [setF_same] at hc'
   cases hc'
   rw [setF_same]
   exact ⟨lab1_same _ _ _,hnew⟩
  ·rw [setF_other _ _ e] at hc' ⊢
   exact kx.chn c r' hc' (by simp)
end
end Go.Proofs.YthgelfdefkbfeaaGreatDoor
namespace Go.Proofs.YthgelfdefkbfeaaGreatDoor
open Go.RowKit Go.Maps
def evC (g k o a:Int) (s:Value):Array Value:=#[.int .i64 g,.int .i64 k,.int .u64 o,.int .u64 a,s]
structure EOk (g o a:Int):Prop where
 g0:0≤g
 g1:g≤65535
 o0:0≤o
 o1:o≤18446744073709551615
 a0:0≤a
 a1:a≤18446744073709551615
theorem zeroPG (w:World):(zeroValue 121).run Tryz.prog w=.ok (.pointer none) w:=by kernel_rfl
theorem zeroLk (w:World):(zeroValue 153).run Tryz.prog w=.ok (.agg #[.bool false,.int .i64 0]) w:=by kernel_rfl
theorem zeroPC (w:World):(zeroValue 155).run Tryz.prog w=.ok (.pointer none) w:=by kernel_rfl
theorem zeroI (w:World):(zeroValue 2).run Tryz.prog w=.ok (.int .i64 0) w:=by kernel_rfl
theorem zeroUn (w:World):(zeroValue 159).run Tryz.prog w=.ok (.agg #[]) w:=by kernel_rfl
section
variable {w w' : World} {cb : Nat} {B : Bl} {F : Nat → Option Lb} {M : CS} {N : Nat} {g k o a : Int} {s : Value}
theorem nf:¬ False:=fun e=>e
theorem CkX.c0 (h:Ck w cb B F M N):w.cell? ⟨cb,0,none⟩=some (.int .i64 (M.taken:Int)):=cell_at (h.blk nf) rfl
theorem CkX.c1 (h:Ck w cb B F M N):w.cell? ⟨cb,1,none⟩=some (.map (some B.gm)):=cell_at (h.blk nf) rfl
theorem CkX.c2 (h:Ck w cb B F M N):w.cell? ⟨cb,2,none⟩=some B.va:=cell_at (h.blk nf) rfl
theorem CkX.c3 (h:Ck w cb B F M N):w.cell? ⟨cb,3,none⟩=some (.map (some B.lm)):=cell_at (h.blk nf) rfl
theorem CkX.c4 (h:Ck w cb B F M N):w.cell? ⟨cb,4,none⟩=some (.map (some B.cm)):=cell_at (h.blk nf) rfl
theorem CkX.c5 (h:Ck w cb B F M N):w.cell? ⟨cb,5,none⟩=some (.map (some B.km)):=cell_at (h.blk nf) rfl
theorem CkX.c6 (h:Ck w cb B F M N):w.cell? ⟨cb,6,none⟩=some (.map (some B.om)):=cell_at (h.blk nf) rfl
theorem CkX.c7 (h:Ck w cb B F M N):w.cell? ⟨cb,7,none⟩=some B.vm:=cell_at (h.blk nf) rfl
theorem CkX.clt (h:Ck w cb B F M N):cb < w.heap.size:=h.lt _ _ h.top
theorem CkX.drew (h:Ck w cb B F M N) (q:Nat):Ck (w.drewN q) cb B F M N:=h.below (below_drewN (Below.refl _ _) q)
theorem CkX.lkL (h:Ck w cb B F M N) (ho:EOk g o a):(Instr.lookup 72 (.map (some B.lm)) (.int .u64 o) false).run Tryz.prog w=.ok (.agg #[.bool (M.toWrite o),.int .i64 (M.times o)]) w:=by
 have h9:=(h.ml nf).2.look lawU Tryz.underlying72 (zeroLk w) (keyU ho.o0 ho.o1)
 have e:(fL M o).getD (.agg #[.bool false,.int .i64 0])=.agg #[.bool (M.toWrite o),.int .i64 (M.times o)]:=by
  unfold fL CS.toWrite CS.times
  cases M.locks o <;> rfl
 rw [h9,e]
theorem fldL0 (b:Bool) (n:Int) (w:World):(Instr.field 153 (.agg #[.bool b,.int .i64 n]) 0).run Tryz.prog w=.ok (.bool b) w:=by kernel_rfl
theorem fldL1 (b:Bool) (n:Int) (w:World):(Instr.field 153 (.agg #[.bool b,.int .i64 n]) 1).run Tryz.prog w=.ok (.int .i64 n) w:=by kernel_rfl
def gAd (B:Bl) (M:CS) (g:Int):Value:=match M.gs g with
 | none=>.pointer none
 | some _=>.pointer (some ⟨B.gb g,0,none⟩)
theorem CkX.lkG (h:Ck w cb B F M N) {x:Int} (h0:-9223372036854775808≤x) (h1:x≤9223372036854775807):(Instr.lookup 71 (.map (some B.gm)) (.int .i64 x) false).run Tryz.prog w=.ok (gAd B M x) w:=by
 have h9:=(h.mg nf).2.look lawI Tryz.underlying71 (zeroPG w) (keyI h0 h1)
 have e:(fG B M x).getD (.pointer none)=gAd B M x:=by
  unfold fG gAd
  cases M.gs x <;> rfl
 rw [h9,e]
def cAd (B:Bl) (M:CS) (o:Int):Value:=match M.chans o with
 | none=>.pointer none
 | some _=>.pointer (some ⟨B.cb o,0,none⟩)
theorem CkX.lkC (h:Ck w cb B F M N) (ho:EOk g o a):(Instr.lookup 73 (.map (some B.cm)) (.int .u64 o) false).run Tryz.prog w=.ok (cAd B M o) w:=by
 have h9:=(h.mc nf).2.look lawU Tryz.underlying73 (zeroPC w) (keyU ho.o0 ho.o1)
 have e:(fC B M o).getD (.pointer none)=cAd B M o:=by
  unfold fC cAd
  cases M.chans o <;> rfl
 rw [h9,e]
theorem CkX.lkK (h:Ck w cb B F M N) (ho:EOk g o a):(Instr.lookup 74 (.map (some B.km)) (.int .u64 o) false).run Tryz.prog w=.ok (.int .i64 (M.cnt o)) w:=by
 have h9:=(h.mt nf).2.look lawU Tryz.underlying74 (zeroI w) (keyU ho.o0 ho.o1)
 have e:(fK M o).getD (.int .i64 0)=.int .i64 (M.cnt o):=by
  unfold fK
  split
  ·rename_i e;rw [e];rfl
  ·rfl
 rw [h9,e]
theorem CkX.lkO (h:Ck w cb B F M N) (ho:EOk g o a):(Instr.lookup 75 (.map (some B.om)) (.int .u64 o) true).run Tryz.prog w=.ok (.tuple #[.agg #[],.bool (M.once o)]) w:=by
 have h9:=(h.mo nf).2.lookOk lawU Tryz.underlying75 (zeroUn w) (keyU ho.o0 ho.o1)
 rw [h9]
 unfold fO
 cases M.once o <;> rfl
theorem evc0 {b:Nat} (h:w.heap[b]?=some (.cells (evC g k o a s) 43 (0,0))):w.cell? ⟨b,0,none⟩=some (.int .i64 g)∧w.cell? ⟨b,1,none⟩=some (.int .i64 k)∧w.cell? ⟨b,2,none⟩=some (.int .u64 o)∧w.cell? ⟨b,3,none⟩=some (.int .u64 a)∧w.cell? ⟨b,4,none⟩=some s :=
 ⟨cell_at h rfl,cell_at h rfl,cell_at h rfl,cell_at h rfl,cell_at h rfl⟩
theorem waits_any {b:Nat} {v:Value} {r:Gor} (h:w.heap[b]?=some (.cells (gorC v r) 123 (0,0))):Calls Tryz.prog 65 #[.pointer (some ⟨b,0,none⟩)] w fun e w'=>e=.returned (.bool (decide (0 < r.as_)))∧w'=w:=by
 have c2:w.cell? ⟨b,2,none⟩=some (.int .i64 r.as_):=cell_at h rfl
 go_enter Tryz.func65,Tryz.ntmps65
 go_wp2
 go_ret
 exact ⟨rfl,rfl⟩
end
end Go.Proofs.YthgelfdefkbfeaaGreatDoor
