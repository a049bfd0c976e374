import Derived.Test.YtimgkhdgliojgaaGreatDoorOg00
import Derived.Laws.BitsAllLaws
import Derived.Lib.MinMax
import Derived.Lib.BitFns
import Derived.Lib.ItoaNum
set_option maxRecDepth 8000
set_option maxHeartbeats 8000000
set_option linter.unusedVariables false
namespace Go.Proofs.YtimgkhdgliojgaaGreatDoor
theorem mask_hi (n k:Nat) (hn:n < 65536) (hk:k≤16):n &&& (65535 - (2 ^ k - 1))=n / 2 ^ k * 2 ^ k:=by
 have e:65535 - (2 ^ k - 1)=(2 ^ (16 - k) - 1) * 2 ^ k:=by
  rw [Nat.sub_mul,← Nat.pow_add,show 16 - k+k=16 by omega,Nat.one_mul]
  have h1:2 ^ k≤2 ^ 16:=Nat.pow_le_pow_right (by decide) hk
  have h2:0 < 2 ^ k:=Nat.pow_pos (by decide)
  omega
 rw [e]
 apply Nat.eq_of_testBit_eq
 intro i
 rw [Nat.testBit_and,Nat.testBit_mul_two_pow,Nat.testBit_mul_two_pow,Nat.testBit_two_pow_sub_one]
 by_cases hi:k≤i
 ·rw [Nat.testBit_div_two_pow,show i - k+k=i by omega]
  by_cases h16:i < 16
  ·simp [hi,show i - k < 16 - k by omega]
  ·have:n.testBit i=false:=Nat.testBit_lt_two_pow (Nat.lt_of_lt_of_le hn (by rw [show (65536:Nat)=2 ^ 16 by rfl];exact Nat.pow_le_pow_right (by decide) (by omega)))
   simp [this]
 ·simp [hi]
theorem xor_zero {a b:Nat} (h:a ^^^ b=0):a=b:=by
 apply Nat.eq_of_testBit_eq
 intro i
 have h1:(a ^^^ b).testBit i=false:=by rw [h];exact Nat.zero_testBit i
 rw [Nat.testBit_xor] at h1
 cases ha:a.testBit i <;> cases hb:b.testBit i <;> simp [ha,hb] at h1 ⊢
theorem xor_div (a b k:Nat):(a ^^^ b) / 2 ^ k=(a / 2 ^ k) ^^^ (b / 2 ^ k):=by
 apply Nat.eq_of_testBit_eq
 intro i
 rw [Nat.testBit_xor,Nat.testBit_div_two_pow,Nat.testBit_div_two_pow,Nat.testBit_div_two_pow,Nat.testBit_xor]
theorem spans_iff (x g k:Nat) (hx:x < 65536) (hg:g < 65536) (hk:k≤16):((x ^^^ g) &&& (65535 - (2 ^ k - 1))=0) ↔ x / 2 ^ k=g / 2 ^ k:=by
 have hz:x ^^^ g < 65536:=Nat.xor_lt_two_pow (n:=16) hx hg
 rw [mask_hi _ k hz hk,xor_div]
 have hp:0 < 2 ^ k:=Nat.pow_pos (by decide)
 constructor
 ·intro h
  rcases Nat.mul_eq_zero.1 h with h|h
  ·exact xor_zero h
  ·omega
 ·intro h;rw [h,Nat.xor_self,Nat.zero_mul]
theorem highest (k:Nat) (h1:1≤k) (h2:k≤16):(2 ^ k - 1) ^^^ ((2 ^ k - 1) / 2)=2 ^ (k - 1):=by
 have:∀ k:Fin 17,1≤k.val→(2 ^ k.val - 1) ^^^ ((2 ^ k.val - 1) / 2)=2 ^ (k.val - 1):=by decide
 exact this ⟨k,by omega⟩ h1
theorem bit_zero (x k:Nat):(x &&& 2 ^ k=0) ↔ x / 2 ^ k % 2=0:=by
 have ht:x.testBit k=decide (x / 2 ^ k % 2=1):=Nat.testBit_eq_decide_div_mod_eq
 constructor
 ·intro h
  have h1:(x &&& 2 ^ k).testBit k=false:=by rw [h];exact Nat.zero_testBit k
  rw [Nat.testBit_and,Nat.testBit_two_pow_self,Bool.and_true,ht] at h1
  have:=of_decide_eq_false h1
  omega
 ·intro h
  have h1:x.testBit k=false:=by rw [ht];exact decide_eq_false (by omega)
  apply Nat.eq_of_testBit_eq
  intro i
  rw [Nat.testBit_and,Nat.testBit_two_pow,Nat.zero_testBit]
  by_cases hi:k=i
  ·subst hi;rw [h1];rfl
  ·simp [hi]
theorem low4 (x:Nat):x &&& 15=x % 16:=Nat.and_two_pow_sub_one_eq_mod x 4
theorem xor_one {u v:Nat} (h:u ^^^ v=1) (hlt:u < v):u % 2=0∧v=u+1:=by
 have h1:u / 2=v / 2:=xor_zero (by have:=xor_div u v 1;rw [Nat.pow_one] at this;rw [← this,h])
 omega
theorem over_at {a b m:Nat} (hm:1≤m) (h1:2 ^ (m - 1)≤a ^^^ b) (h2:a ^^^ b < 2 ^ m) (hlt:a < b):∃ p,a / 2 ^ m=p∧b / 2 ^ m=p∧a / 2 ^ (m - 1)=2 * p∧b / 2 ^ (m - 1)=2 * p+1:=by
 have e1:a / 2 ^ m=b / 2 ^ m:=xor_zero (by rw [← xor_div];exact Nat.div_eq_of_lt h2)
 have e2:(a / 2 ^ (m - 1)) ^^^ (b / 2 ^ (m - 1))=1:=by
  rw [← xor_div]
  rw [show m=(m - 1)+1 by omega,Nat.pow_succ] at h2
  have hp:0 < 2 ^ (m - 1):=Nat.pow_pos (by decide)
  exact Nat.div_eq_of_lt_le (by omega) (by omega)
 have hle:a / 2 ^ (m - 1)≤b / 2 ^ (m - 1):=Nat.div_le_div_right (by omega)
 have hne:a / 2 ^ (m - 1)≠b / 2 ^ (m - 1):=fun e=>by rw [e,Nat.xor_self] at e2;cases e2
 obtain ⟨e3,e4⟩:=xor_one e2 (by omega)
 have e5:a / 2 ^ m=a / 2 ^ (m - 1) / 2:=by rw [Nat.div_div_eq_div_mul,← Nat.pow_succ,show (m - 1).succ=m by omega]
 exact ⟨a / 2 ^ m,rfl,e1.symm,by omega,by omega⟩
end Go.Proofs.YtimgkhdgliojgaaGreatDoor
namespace Go.Proofs.YtimgkhdgliojgaaGreatDoor
open Go.RowKit Go.Maps
def tC (g free last:Int) (lo hi lf:Value):Array Value:=#[.int .u16 g,.int .u16 free,.int .i32 last,lo,hi,lf]
def ptr (b:Nat):Value:=.pointer (some ⟨b,0,none⟩)
def Tr.fr (t:Tr):Int:=((2 ^ t.k - 1:Nat):Int)
def Tr.gg (t:Tr):Int:=((t.q * 2 ^ t.k:Nat):Int)
def TrAt (Z:Nat→Prop) (w:World):Tr→Nat→Prop
 | .leaf q l xs,p=>Z p∧∃ lp,Z lp∧w.heap[p]?=some (.cells (tC ((q * 16:Nat):Int) 15 l (.pointer none) (.pointer none) (ptr lp)) 166 (0,0))∧w.heap[lp]?=some (.cells (xs.map (Value.int .i32)).toArray 184 (0,0))
 | .node k q l lo hi,p=>Z p∧∃ a b,w.heap[p]?=some (.cells (tC ((q * 2 ^ k:Nat):Int) ((2 ^ k - 1:Nat):Int) l (ptr a) (ptr b) (.pointer none)) 166 (0,0))∧TrAt Z w lo a∧TrAt Z w hi b
theorem lt_heap {w:World} {k:Nat} {o:Obj} (h:w.heap[k]?=some o):k < w.heap.size:=(Array.getElem?_eq_some_iff.1 h).1
theorem TrAt.but {Z S:Nat→Prop} {w w':World} (hb:But S w w') (hS:∀ k,Z k→¬ S k):∀ {t:Tr} {p:Nat},TrAt Z w t p→TrAt Z w' t p:=by
 intro t
 induction t with
 | leaf q l xs =>
  rintro p ⟨hz,lp,hzl,h1,h2⟩
  exact ⟨hz,lp,hzl,(hb.block p (lt_heap h1) (hS p hz)).trans h1,(hb.block lp (lt_heap h2) (hS lp hzl)).trans h2⟩
 | node k q l lo hi il ih =>
  rintro p ⟨hz,a,b,h1,h2,h3⟩
  exact ⟨hz,a,b,(hb.block p (lt_heap h1) (hS p hz)).trans h1,il h2,ih h3⟩
theorem TrAt.bel {Z:Nat→Prop} {w w':World} {t:Tr} {p:Nat} (h:TrAt Z w t p) (hb:Below w.heap.size w w'):TrAt Z w' t p :=
 TrAt.but (S:=fun _=>False) (But.of_below hb) (fun _ _ e=>e) h
theorem TrAt.mono {Z Y:Nat→Prop} {w:World} (hZ:∀ k,Z k→Y k):∀ {t:Tr} {p:Nat},TrAt Z w t p→TrAt Y w t p:=by
 intro t
 induction t with
 | leaf q l xs =>
  rintro p ⟨hz,lp,hzl,h1,h2⟩
  exact ⟨hZ _ hz,lp,hZ _ hzl,h1,h2⟩
 | node k q l lo hi il ih =>
  rintro p ⟨hz,a,b,h1,h2,h3⟩
  exact ⟨hZ _ hz,a,b,h1,il h2,ih h3⟩
theorem TrAt.blk {Z:Nat→Prop} {w:World} {t:Tr} {p:Nat} (h:TrAt Z w t p):∃ lo hi lf,w.heap[p]?=some (.cells (tC t.gg t.fr t.last lo hi lf) 166 (0,0)):=by
 cases t with
 | leaf q l xs =>
  obtain ⟨_,lp,_,h1,_⟩:=h
  exact ⟨_,_,_,h1⟩
 | node k q l lo hi =>
  obtain ⟨_,a,b,h1,_⟩:=h
  exact ⟨_,_,_,h1⟩
theorem tc_cells {w:World} {p:Nat} {g f l:Int} {lo hi lf:Value} (h:w.heap[p]?=some (.cells (tC g f l lo hi lf) 166 (0,0))):w.cell? ⟨p,0,none⟩=some (.int .u16 g)∧w.cell? ⟨p,1,none⟩=some (.int .u16 f)∧w.cell? ⟨p,2,none⟩=some (.int .i32 l)∧w.cell? ⟨p,3,none⟩=some lo∧w.cell? ⟨p,4,none⟩=some hi∧w.cell? ⟨p,5,none⟩=some lf∧p < w.heap.size :=
 ⟨cell_at h rfl,cell_at h rfl,cell_at h rfl,cell_at h rfl,cell_at h rfl,cell_at h rfl,lt_heap h⟩
theorem pow_le16 {k:Nat} (h:k≤16):2 ^ k≤65536:=Nat.pow_le_pow_right (n:=2) (by decide) h
theorem Tr.gg_lt {t:Tr} (h:t.ok):t.q * 2 ^ t.k < 65536:=by
 have h1:=Tr.q_lt h
 have h2:=(Tr.k_le h).2
 have h3:t.q * 2 ^ t.k < 2 ^ (16 - t.k) * 2 ^ t.k:=Nat.mul_lt_mul_of_pos_right h1 (pow_pos2 _)
 rw [← Nat.pow_add,show 16 - t.k+t.k=16 by omega] at h3
 exact h3
theorem Tr.gg_div {t:Tr}:t.q * 2 ^ t.k / 2 ^ t.k=t.q:=Nat.mul_div_cancel _ (pow_pos2 _)
theorem Tr.spn {t:Tr} (h:t.ok) {x:Nat} (hx:x < 65536):(bits .andNot .u16 (bits .xor .u16 (x:Int) t.gg) t.fr == 0)=decide (x / 2 ^ t.k=t.q):=by
 have hg:=Tr.gg_lt h
 have hk:=(Tr.k_le h).2
 have hp:=pow_le16 hk
 have hz:x ^^^ (t.q * 2 ^ t.k) < 65536:=Nat.xor_lt_two_pow (n:=16) hx hg
 unfold Tr.gg Tr.fr
 rw [u16_xor_nat _ _ hx hg,u16_andNot_nat _ _ hz (by omega)]
 have h1:=spans_iff x (t.q * 2 ^ t.k) t.k hx hg hk
 rw [Tr.gg_div] at h1
 rw [Bool.eq_iff_iff]
 simp only [beq_iff_eq,decide_eq_true_eq]
 rw [← h1]
 omega
theorem spans_any {Z:Nat→Prop} {w:World} {t:Tr} {p x:Nat} (h:TrAt Z w t p) (hok:t.ok) (hx:x < 65536) :
  Calls Tryz.prog 75 #[.pointer (some ⟨p,0,none⟩),.int .u16 (x:Int)] w fun e w'=>e=.returned (.bool (decide (x / 2 ^ t.k=t.q)))∧∃ m,w'=w.drewN m:=by
 obtain ⟨lo,hi,lf,hb⟩:=h.blk
 obtain ⟨c0,c1,c2,c3,c4,c5,cl⟩:=tc_cells hb
 have hsp:=Tr.spn hok hx
 obtain ⟨B,hB⟩:∃ B,decide (x / 2 ^ t.k=t.q)=B:=⟨_,rfl⟩
 rw [hB] at hsp ⊢
 generalize t.gg=G at c0 hsp
 generalize t.fr=R at c1 hsp
 generalize (x:Int)=X at hsp ⊢
 clear h hok hx hb hB c2 c3 c4 c5
 go_enter Tryz.func75,Tryz.ntmps75
 go_wp2_with fail
 go_quiet (fail)
 go_wp2
 go_ret
 exact ⟨rfl,_,rfl⟩
theorem Tr.sde {k q:Nat} {l:Int} {lo hi:Tr} (h:(Tr.node k q l lo hi).ok) {x:Nat} (hx:x < 65536):(bits .and .u16 (x:Int) (bits .xor .u16 ((2 ^ k - 1:Nat):Int) (((2 ^ k - 1) / 2:Nat):Int)) == 0)=decide (x / 2 ^ (k - 1) % 2=0):=by
 have hk:k≤16:=h.2.1
 have hk5:5≤k:=h.1
 have hp:=pow_le16 hk
 rw [u16_xor_nat _ _ (by omega) (by omega),highest k (by omega) hk]
 have hp1:2 ^ (k - 1) < 65536:=Nat.lt_of_lt_of_le (Nat.pow_lt_pow_right (by decide) (show k - 1 < 16 by omega)) (by decide)
 rw [u16_and_nat _ _ hx hp1,Bool.eq_iff_iff]
 simp only [beq_iff_eq,decide_eq_true_eq]
 rw [← bit_zero]
 omega
end Go.Proofs.YtimgkhdgliojgaaGreatDoor
namespace Go.Proofs.YtimgkhdgliojgaaGreatDoor
open Go.RowKit Go.Maps
theorem side_any {Z:Nat→Prop} {w:World} {k q:Nat} {l:Int} {lo hi:Tr} {p a b x:Nat} (hb:w.heap[p]?=some (.cells (tC ((q * 2 ^ k:Nat):Int) ((2 ^ k - 1:Nat):Int) l (ptr a) (ptr b) (.pointer none)) 166 (0,0))) (hok:(Tr.node k q l lo hi).ok) (hx:x < 65536) :
  Calls Tryz.prog 76 #[.pointer (some ⟨p,0,none⟩),.int .u16 (x:Int)] w fun e w'=>e=.returned (.pointer (some ⟨if x / 2 ^ (k - 1) % 2=0 then a else b,0,none⟩))∧∃ m,w'=w.drewN m:=by
 obtain ⟨c0,c1,c2,c3,c4,c5,cl⟩:=tc_cells hb
 have hsp:=Tr.sde hok hx
 have hsh:((2 ^ k - 1:Nat):Int) / 2=(((2 ^ k - 1) / 2:Nat):Int):=by omega
 have hp:=pow_le16 hok.2.1
 have hr0:(0:Int)≤((2 ^ k - 1:Nat):Int):=by omega
 have hr1:((2 ^ k - 1:Nat):Int)≤65535:=by omega
 unfold ptr at c3 c4
 obtain ⟨R,hR⟩:∃ R,((2 ^ k - 1:Nat):Int)=R:=⟨_,rfl⟩
 rw [← hsh,hR] at hsp
 rw [hR] at c1 hr0 hr1
 generalize (x:Int)=X at hsp ⊢
 clear hok hx hb c0 c2 c5 hsh hR hp
 by_cases h0:x / 2 ^ (k - 1) % 2=0
 ·rw [if_pos h0]
  rw [decide_eq_true h0] at hsp
  clear h0
  go_enter Tryz.func76,Tryz.ntmps76
  go_wp2_with fail
  go_quiet (fail)
  go_wp2
  go_ret
  exact ⟨rfl,_,rfl⟩
 ·rw [if_neg h0]
  rw [decide_eq_false h0] at hsp
  clear h0
  go_enter Tryz.func76,Tryz.ntmps76
  go_wp2_with fail
  go_quiet (fail)
  go_wp2
  go_ret
  exact ⟨rfl,_,rfl⟩
def TP (Z:Nat→Prop) (w:World) (v:Value) (c:Nat→Int):Prop:=(v=.pointer none∧∀ x,c x=0)∨∃ t p,v=.pointer (some ⟨p,0,none⟩)∧TrAt Z w t p∧t.ok∧∀ x,c x=t.tm x
theorem TP.bel {Z:Nat→Prop} {w w':World} {v:Value} {c:Nat→Int} (h:TP Z w v c) (hb:Below w.heap.size w w'):TP Z w' v c:=by
 rcases h with h|⟨t,p,h1,h2,h3⟩
 ·exact .inl h
 ·exact .inr ⟨t,p,h1,h2.bel hb,h3⟩
theorem TP.bd {Z:Nat→Prop} {w:World} {v:Value} {c:Nat→Int} (h:TP Z w v c) (x:Nat):0≤c x∧c x≤1048576:=by
 rcases h with ⟨_,h⟩|⟨t,p,_,_,h2,h3⟩
 ·rw [h x];decide
 ·rw [h3 x];exact Tr.bd h2 x
def frOf (w:World):Value→Nat
 | .pointer (some a)=>match w.cell? ⟨a.block,1,none⟩ with
  | some (.int _ f)=>f.toNat+1
  | _=>0
 | _=>0
theorem frOf_tr {Z:Nat→Prop} {w:World} {t:Tr} {p:Nat} (h:TrAt Z w t p):frOf w (.pointer (some ⟨p,0,none⟩))=2 ^ t.k - 1+1:=by
 obtain ⟨lo,hi,lf,hb⟩:=h.blk
 have c1:=(tc_cells hb).2.1
 unfold frOf
 dsimp only
 rw [c1]
 unfold Tr.fr
 dsimp only
 rw [Int.toNat_natCast]
theorem drewN_cell (w:World) (m:Nat) (a:Addr):(w.drewN m).cell? a=w.cell? a:=rfl
theorem frOf_drew (w:World) (m:Nat) (v:Value):frOf (w.drewN m) v=frOf w v:=by
 cases v with
 | pointer a=>cases a with
  | none=>rfl
  | some a=>unfold frOf;dsimp only;rw [drewN_cell]
 | _=>rfl
end Go.Proofs.YtimgkhdgliojgaaGreatDoor
namespace Go.Proofs.YtimgkhdgliojgaaGreatDoor
open Go.RowKit Go.Maps
theorem drew_on18 {w wr:World} (h:∃ m,wr=w.drewN m) (r:Nat):∃ m,wr.drewN r=w.drewN m:=by
 obtain ⟨m,rfl⟩:=h
 exact ⟨m+r,World.drewN_drewN ..⟩
theorem drew_tr18 {w wr w':World} (h:∃ m,wr=w.drewN m) (h':∃ m,w'=wr.drewN m):∃ m,w'=w.drewN m:=by
 obtain ⟨m,rfl⟩:=h'
 exact drew_on18 h m
theorem bel_drew18 {w wr:World} (h:∃ m,wr=w.drewN m):Below w.heap.size w wr:=by obtain ⟨m,rfl⟩:=h;exact below_drewN (Below.refl _ _) m
theorem leaf_cell {w:World} {lp i:Nat} {xs:List Int} (h:w.heap[lp]?=some (.cells (xs.map (Value.int .i32)).toArray 184 (0,0))) (hl:xs.length=16) (hi:i < 16):w.cell? ⟨lp,i,none⟩=some (.int .i32 (xs.getD i 0)):=by
 refine cell_at h ?_
 rw [List.getElem?_toArray,List.getElem?_map,List.getElem?_eq_getElem (by omega),List.getD_eq_getElem?_getD,List.getElem?_eq_getElem (by omega)]
 rfl
theorem get_any {Z:Nat→Prop} {w:World} {v:Value} {c:Nat→Int} {x:Nat} (h:TP Z w v c) (hx:x < 65536) :
  Calls Tryz.prog 46 #[v,.int .u16 (x:Int)] w fun e w'=>e=.returned (.int .i32 (c x))∧∃ m,w'=w.drewN m:=by
 have HX:=hide hx
 obtain ⟨R,hR⟩:∃ R,c x=R:=⟨_,rfl⟩
 have HI:Hid ((v=.pointer none∧R=0)∨∃ t p,v=.pointer (some ⟨p,0,none⟩)∧TrAt Z w t p∧t.ok∧R=t.tm x):=hide (by
  rcases h with ⟨h1,h2⟩|⟨t,p,h1,h2,h3,h4⟩
  ·exact .inl ⟨h1,by rw [← hR,h2]⟩
  ·exact .inr ⟨t,p,h1,h2,h3,by rw [← hR,h4]⟩)
 rw [hR]
 obtain ⟨X,hXx⟩:∃ X,(x:Int)=X:=⟨_,rfl⟩
 have HXx:=hide hXx
 rw [hXx]
 clear h hx hR hXx
 go_enter Tryz.func46,Tryz.ntmps46
 go_wp2_with fail
 go_loopw [0] (fun u wr=>Hid (∃ m,wr=w.drewN m)∧Hid ((u=.pointer none∧R=0)∨∃ t p,u=.pointer (some ⟨p,0,none⟩)∧TrAt Z w t p∧t.ok∧R=t.tm x)) (fun u wr=>frOf wr u)
 case atStart=>exact ⟨hide ⟨0,rfl⟩,HI⟩
 case round =>
  clear HI
  obtain ⟨HD,HJ⟩:=hrel
  rcases HJ.out with ⟨rfl,hR⟩|⟨t,p,rfl,ht,hok,hR⟩
  ·have HD2:=hide HD.out
   have HR:=hide hR
   clear HJ hR
   go_wp2
   go_ret
   exact ⟨by rw [HR.out];rfl,HD2.out⟩
  ·have HB:=hide (bel_drew18 HD.out)
   have ht':=ht.bel HB.out
   have HC:=hide (spans_any ht' hok HX.out)
   rw [HXx.out] at HC
   have HT:=hide ht'
   have HOk:=hide hok
   have HRt:=hide hR
   have HT0:=hide ht
   clear HJ ht ht' hok hR
   go_wp2_with fail
   refine HC.out.mono ?_
   rintro e w1 ⟨rfl,hw1⟩
   have HD1:=hide (drew_tr18 HD.out hw1)
   have HB1:=hide (bel_drew18 HD1.out)
   have HT1:=hide (HT0.out.bel HB1.out)
   clear hw1 HC HT HB
   by_cases hsp:x / 2 ^ t.k=t.q
   ·rw [decide_eq_true hsp]
    have HSp:=hide hsp
    clear hsp
    cases t with
    | leaf q l xs =>
     obtain ⟨_,lp,_,hb,hlb⟩:=HT1.out
     obtain ⟨c0,c1,c2,c3,c4,c5,cl⟩:=tc_cells hb
     obtain ⟨i,hi⟩:∃ i,x % 16=i:=⟨_,rfl⟩
     have hi16:i < 16:=by omega
     have hl:=leaf_cell hlb HOk.out.2.1 hi16
     have hll:=lt_heap hlb
     have hv:xs.getD i 0=R:=by
      rw [HRt.out,← hi]
      show _=if x / 16=q then _ else _
      exact (if_pos (show x / 16=q from HSp.out)).symm
     rw [hv] at hl
     have hand:bits .and .u16 X 15=(i:Int):=by
      rw [← HXx.out,show (15:Int)=((15:Nat):Int) from rfl,u16_and_nat _ _ HX.out (by decide),low4,hi]
     have hiI:(i:Int) < 16:=by omega
     have hi0:(0:Int)≤i:=by omega
     unfold ptr at c5
     clear hb hlb hv c0 c1 c2 c3 c4 HT1 HT0 HRt HSp hi hi16
     go_wp2
     go_ret
     exact ⟨rfl,HD1.out⟩
    | node k q l lo hi =>
     obtain ⟨_,a,b,hb,hlo,hhi⟩:=HT1.out
     obtain ⟨_,a',b',hb',hlo',hhi'⟩:=HT0.out
     have hE:a=a'∧b=b':=by
      have h9:=(HB1.out.block p (lt_heap hb')).trans hb'
      rw [hb] at h9
      simp [tC,ptr] at h9
      exact h9
     obtain ⟨rfl,rfl⟩:=hE
     have HC2:=hide (side_any (Z:=Z) (lo:=lo) (hi:=hi) hb HOk.out HX.out)
     rw [HXx.out] at HC2
     obtain ⟨c0,c1,c2,c3,c4,c5,cl⟩:=tc_cells hb
     have HSd:=hide (Tr.side HOk.out HSp.out)
     have HLo:=hide hlo'
     have HHi:=hide hhi'
     have HK0:=hide (frOf_tr HT1.out)
     clear hb hb' hlo hlo' hhi hhi' c0 c1 c2 c3 c4
     go_wp2_with fail
     refine HC2.out.mono ?_
     rintro e w2 ⟨rfl,hw2⟩
     have HD2:=hide (drew_tr18 HD1.out hw2)
     clear hw2 HC2 c5
     obtain ⟨k5,k16,hq,inl,inh,okl,okh,_⟩:=HOk.out
     have HM:Hid (∀ (s:Tr) (z:Nat),TrAt Z w s z→s.k≤k - 1→frOf w2 (.pointer (some ⟨z,0,none⟩)) < frOf wr (.pointer (some ⟨p,0,none⟩))):=hide (fun s z hs hk=>by
      obtain ⟨m2,hm2⟩:=HD2.out
      obtain ⟨m0,hm0⟩:=HD.out
      rw [hm2,hm0,frOf_drew,frOf_drew,frOf_tr hs,frOf_tr HT0.out]
      have h1:2 ^ s.k≤2 ^ (k - 1):=Nat.pow_le_pow_right (by decide) hk
      have h2:2 ^ (Tr.node k q l lo hi).k=2 ^ (k - 1) * 2:=by rw [← Nat.pow_succ];congr 1;show k=_;omega
      have h3:=pow_pos2 (k - 1)
      have h4:=pow_pos2 s.k
      omega)
     have HIL:=hide inl.1
     have HIH:=hide inh.1
     have HOl:=hide okl
     have HOh:=hide okh
     clear k5 k16 hq inl inh okl okh
     by_cases h0:x / 2 ^ (k - 1) % 2=0
     ·have HQ:Hid (R=lo.tm x):=hide (by rw [HRt.out,HSd.out,if_pos h0])
      rw [if_pos h0]
      clear h0 HSd HRt HSp HT0 HT1
      go_wp2
      exact ⟨⟨HD2,hide (.inr ⟨lo,a,rfl,HLo.out,HOl.out,HQ.out⟩)⟩,HM.out lo a HLo.out HIL.out⟩
     ·have HQ:Hid (R=hi.tm x):=hide (by rw [HRt.out,HSd.out,if_neg h0])
      rw [if_neg h0]
      clear h0 HSd HRt HSp HT0 HT1
      go_wp2
      exact ⟨⟨HD2,hide (.inr ⟨hi,b,rfl,HHi.out,HOh.out,HQ.out⟩)⟩,HM.out hi b HHi.out HIH.out⟩
   ·rw [decide_eq_false hsp]
    have HR0:Hid (R=0):=hide (by rw [HRt.out];exact Tr.out HOk.out hsp)
    clear hsp HRt HT0 HT1
    go_wp2
    go_ret
    exact ⟨by rw [HR0.out];rfl,HD1.out⟩
end Go.Proofs.YtimgkhdgliojgaaGreatDoor
namespace Go.Proofs.YtimgkhdgliojgaaGreatDoor
open Go.RowKit Go.Maps
theorem branch_raw {w:World} {a b:Nat} {la lb:Int} (G R:Int) (ca:w.cell? ⟨a,2,none⟩=some (.int .i32 la)) (cb:w.cell? ⟨b,2,none⟩=some (.int .i32 lb)) :
  Calls Tryz.prog 142 #[.int .u16 G,.int .u16 R,.pointer (some ⟨a,0,none⟩),.pointer (some ⟨b,0,none⟩)] w fun e w'=>∃ p,e=.returned (.pointer (some ⟨p,0,none⟩))∧w.heap.size≤p∧w'.heap[p]?=some (.cells (tC G R (max la lb) (ptr a) (ptr b) (.pointer none)) 166 (0,0))∧Below w.heap.size w w':=by
 have la':=World.block_lt_of_cell? w _ ca
 have lb':=World.block_lt_of_cell? w _ cb
 have HS:Hid (∀ X,Below w.heap.size w X→X.cell? ⟨a,2,none⟩=some (.int .i32 la)∧X.cell? ⟨b,2,none⟩=some (.int .i32 lb)):=hide (fun X hX=>⟨(hX.cell (p:=⟨a,2,none⟩) la').trans ca,(hX.cell (p:=⟨b,2,none⟩) lb').trans cb⟩)
 have H0:=hide (Below.refl w.heap.size w)
 have H1:=hide ((Below.refl w.heap.size w).drew)
 have H2:=hide ((below_alloc1 w (.cells #[.int .u16 G,.int .u16 R,.int .i32 (max la lb),.pointer (some ⟨a,0,none⟩),.pointer (some ⟨b,0,none⟩),.pointer none] 166)).drew)
 have HN:Hid ((w.alloc (.cells #[.int .u16 G,.int .u16 R,.int .i32 (max la lb),.pointer (some ⟨a,0,none⟩),.pointer (some ⟨b,0,none⟩),.pointer none] 166)).drew.heap[w.heap.size]?=some (.cells (tC G R (max la lb) (ptr a) (ptr b) (.pointer none)) 166 (0,0))):=hide (heap_new _ _)
 clear ca cb la' lb'
 go_enter Tryz.func142,Tryz.ntmps142
 go_wp2_with fail
 go_region_held3 (fun X=>X.cell? ⟨a,2,none⟩=some (.int .i32 la)∧X.cell? ⟨b,2,none⟩=some (.int .i32 lb))
  (first|with_reducible exact HS.out _ H0.out|with_reducible exact HS.out _ H1.out|with_reducible exact HS.out _ H2.out)
  (fail)
 go_wp2
 go_ret
 exact ⟨_,rfl,Nat.le_refl _,HN.out,H2.out⟩
end Go.Proofs.YtimgkhdgliojgaaGreatDoor
namespace Go.Proofs.YtimgkhdgliojgaaGreatDoor
open Go.RowKit Go.Maps
set_option maxRecDepth 100000 in
theorem len16_any (x:Int) (w:World) (h0:0≤x) (h1:x≤65535) :
  Calls Tryz.prog 141 #[.int .u16 x] w fun e w'=>e=.returned (.int .i64 (Lib.bitLen x.toNat))∧w'=w:=by
 by_cases hc:x < 256
 ·have li:=fun w=>Lib.run_index_len8tab (P:=Tryz.prog) w 9 .u8 x Tryz.underlying9 h0 (by omega)
  have l8:=Lib.len8_of x h0 (by omega)
  have l9:=Lib.bitLen_le8' x h0 (by omega)
  have hc2:¬ (256:Int)≤x:=by omega
  rw [l8] at li
  generalize Lib.bitLen x.toNat=N at li l9 ⊢
  clear l8 hc
  go_enter Tryz.func141,Tryz.ntmps141
  go_wp2
  go_ret
  exact ⟨by go_num,rfl⟩
 ·have li:=fun w=>Lib.run_index_len8tab (P:=Tryz.prog) w 9 .u8 (x / 256) Tryz.underlying9 (by omega) (by omega)
  have l8:=Lib.len8_of (x / 256) (by omega) (by omega)
  have l9:=Lib.bitLen_le8' (x / 256) (by omega) (by omega)
  have s8:=Lib.bitLen_shift8 x.toNat (by omega) (by omega)
  have e:(x / 256).toNat=x.toNat / 256:=by omega
  have hc2:(256:Int)≤x:=by omega
  rw [l8,e] at li
  rw [e] at l9
  rw [s8]
  generalize Lib.bitLen (x.toNat / 256)=N at li l9 ⊢
  have hx0:0≤x / 256:=by omega
  have hx1:x / 256≤255:=by omega
  clear l8 hc e s8
  go_enter Tryz.func141,Tryz.ntmps141
  go_wp2
  go_ret
  exact ⟨by go_num,rfl⟩
def Nz (Z:Nat→Prop) (w w':World):Nat→Prop:=fun k=>Z k∨(w.heap.size≤k∧k < w'.heap.size)
theorem Nz.old {Z:Nat→Prop} {w w':World}:∀ k,Z k→Nz Z w w' k:=fun _ h=>.inl h
theorem Nz.trans {Z:Nat→Prop} {w w1 w2:World} (h1:w.heap.size≤w1.heap.size) (h2:w1.heap.size≤w2.heap.size):∀ k,Nz (Nz Z w w1) w1 w2 k→Nz Z w w2 k:=by
 rintro k ((h|h)|h)
 ·exact .inl h
 ·exact .inr ⟨h.1,by omega⟩
 ·exact .inr ⟨by omega,h.2⟩
theorem Nz.up {Z:Nat→Prop} {w w1 w2:World} (h1:w.heap.size≤w1.heap.size):∀ k,Nz Z w1 w2 k→Nz Z w w2 k:=by
 rintro k (h|h)
 ·exact .inl h
 ·exact .inr ⟨by omega,h.2⟩
theorem Nz.on {Z:Nat→Prop} {w w1 w2:World} (h:w1.heap.size≤w2.heap.size):∀ k,Nz Z w w1 k→Nz Z w w2 k:=by
 rintro k (q|q)
 ·exact .inl q
 ·exact .inr ⟨q.1,by omega⟩
theorem Tr.apart {a b:Tr} (ha:a.ok) (hb:b.ok) (hk:b.k≤a.k) (hns:¬ b.q * 2 ^ b.k / 2 ^ a.k=a.q) (hlt:a.q * 2 ^ a.k < b.q * 2 ^ b.k) :
  ∃ m p,5≤m∧m≤16∧Lib.bitLen ((a.q * 2 ^ a.k) ^^^ (b.q * 2 ^ b.k))=m∧a.In (m - 1) (2 * p)∧b.In (m - 1) (2 * p+1)∧a.q * 2 ^ a.k / 2 ^ m=p:=by
 have h1:=Tr.gg_lt ha
 have h2:=Tr.gg_lt hb
 obtain ⟨x,hx⟩:∃ x,a.q * 2 ^ a.k=x:=⟨_,rfl⟩
 obtain ⟨y,hy⟩:∃ y,b.q * 2 ^ b.k=y:=⟨_,rfl⟩
 have hxa:x / 2 ^ a.k=a.q:=by rw [← hx];exact Tr.gg_div
 have hyb:y / 2 ^ b.k=b.q:=by rw [← hy];exact Tr.gg_div
 rw [hx,hy] at hlt
 rw [hy] at hns
 rw [hx] at h1
 rw [hy] at h2
 rw [hx,hy]
 have hz:x ^^^ y < 65536:=Nat.xor_lt_two_pow (n:=16) h1 h2
 have hz0:x ^^^ y≠0:=fun e=>by have:=xor_zero e;omega
 obtain ⟨m,hm⟩:∃ m,Lib.bitLen (x ^^^ y)=m:=⟨_,rfl⟩
 have hb1:=Lib.bitLenAux_bounds 64 (x ^^^ y) (Nat.lt_of_lt_of_le hz (by decide)) hz0
 have hbl:Lib.bitLenAux 64 (x ^^^ y)=m:=hm
 rw [hbl] at hb1
 obtain ⟨m1,m2,m3⟩:=hb1
 have hm16:m≤16:=by rw [← hm];exact Lib.bitLen_le _ 16 (by decide) hz
 have hma:a.k < m:=by
  by_cases hc:a.k < m
  ·exact hc
  ·exfalso
   have h3:x ^^^ y < 2 ^ a.k:=Nat.lt_of_lt_of_le m3 (Nat.pow_le_pow_right (by decide) (by omega))
   have h4:x / 2 ^ a.k=y / 2 ^ a.k:=xor_zero (by rw [← xor_div];exact Nat.div_eq_of_lt h3)
   exact hns (by rw [← h4,hxa])
 obtain ⟨p,e1,e2,e3,e4⟩:=over_at m1 m2 m3 hlt
 have h4a:=(Tr.k_le ha).1
 refine ⟨m,p,by omega,hm16,hm,⟨by omega,?_⟩,⟨by omega,?_⟩,e1⟩
 ·rw [← hxa,div_div2,show a.k+(m - 1 - a.k)=m - 1 by omega];exact e3
 ·rw [← hyb,div_div2,show b.k+(m - 1 - b.k)=m - 1 by omega];exact e4
theorem Tr.apart2 {a b:Tr} (ha:a.ok) (hb:b.ok) (hk:b.k≤a.k) (hns:¬ b.q * 2 ^ b.k / 2 ^ a.k=a.q) (hlt:b.q * 2 ^ b.k < a.q * 2 ^ a.k) :
  ∃ m p,5≤m∧m≤16∧Lib.bitLen ((b.q * 2 ^ b.k) ^^^ (a.q * 2 ^ a.k))=m∧b.In (m - 1) (2 * p)∧a.In (m - 1) (2 * p+1)∧b.q * 2 ^ b.k / 2 ^ m=p:=by
 have h1:=Tr.gg_lt ha
 have h2:=Tr.gg_lt hb
 obtain ⟨x,hx⟩:∃ x,a.q * 2 ^ a.k=x:=⟨_,rfl⟩
 obtain ⟨y,hy⟩:∃ y,b.q * 2 ^ b.k=y:=⟨_,rfl⟩
 have hxa:x / 2 ^ a.k=a.q:=by rw [← hx];exact Tr.gg_div
 have hyb:y / 2 ^ b.k=b.q:=by rw [← hy];exact Tr.gg_div
 rw [hx,hy] at hlt
 rw [hy] at hns
 rw [hx] at h1
 rw [hy] at h2
 rw [hx,hy]
 have hz:y ^^^ x < 65536:=Nat.xor_lt_two_pow (n:=16) h2 h1
 have hz0:y ^^^ x≠0:=fun e=>by have:=xor_zero e;omega
 obtain ⟨m,hm⟩:∃ m,Lib.bitLen (y ^^^ x)=m:=⟨_,rfl⟩
 have hb1:=Lib.bitLenAux_bounds 64 (y ^^^ x) (Nat.lt_of_lt_of_le hz (by decide)) hz0
 have hbl:Lib.bitLenAux 64 (y ^^^ x)=m:=hm
 rw [hbl] at hb1
 obtain ⟨m1,m2,m3⟩:=hb1
 have hm16:m≤16:=by rw [← hm];exact Lib.bitLen_le _ 16 (by decide) hz
 have hma:a.k < m:=by
  by_cases hc:a.k < m
  ·exact hc
  ·exfalso
   have h3:y ^^^ x < 2 ^ a.k:=Nat.lt_of_lt_of_le m3 (Nat.pow_le_pow_right (by decide) (by omega))
   have h4:y / 2 ^ a.k=x / 2 ^ a.k:=xor_zero (by rw [← xor_div];exact Nat.div_eq_of_lt h3)
   exact hns (by rw [h4,hxa])
 obtain ⟨p,e1,e2,e3,e4⟩:=over_at m1 m2 m3 hlt
 have h4a:=(Tr.k_le ha).1
 refine ⟨m,p,by omega,hm16,hm,⟨by omega,?_⟩,⟨by omega,?_⟩,e1⟩
 ·rw [← hyb,div_div2,show b.k+(m - 1 - b.k)=m - 1 by omega];exact e3
 ·rw [← hxa,div_div2,show a.k+(m - 1 - a.k)=m - 1 by omega];exact e4
end Go.Proofs.YtimgkhdgliojgaaGreatDoor
namespace Go.Proofs.YtimgkhdgliojgaaGreatDoor
open Go.RowKit
structure Tc where
 g:Int
 t:Int
deriving DecidableEq
def layK:Lay Tc:=⟨fun e=>[.int .i64 e.g,.int .i64 e.t],2,by decide,fun _=>rfl,by intro a u hu;simp at hu;rcases hu with rfl|rfl <;> rfl⟩
def lfT (q:Nat) (xs:List Int):Nat→List Tc
 | 0=>[]
 | k+1=>lfT q xs k++if 0 < xs.getD k 0 then [⟨((q * 16+k:Nat):Int),xs.getD k 0⟩] else []
def tcks:Tr→List Tc
 | .leaf q _ xs=>lfT q xs 16
 | .node _ _ _ lo hi=>tcks lo++tcks hi
theorem infoK:∃ i,Tryz.prog.info? 58=some i∧i.zero=some (.agg #[.int .i64 0,.int .i64 0])∧i.size=2∧i.bytes=16:=by
 have h:(Tryz.prog.info? 58).map (fun i=>(i.zero,i.size,i.bytes))=some (some (.agg #[.int .i64 0,.int .i64 0]),2,16):=by kernel_rfl
 cases hq:Tryz.prog.info? 58 with
 | none=>rw [hq] at h;cases h
 | some j=>rw [hq] at h;simp at h;exact ⟨j,rfl,h.1,h.2.1,h.2.2⟩
theorem lfT_len (q:Nat) (xs:List Int):∀ k,(lfT q xs k).length≤k
 | 0=>Nat.le_refl _
 | k+1=>by
  have:=lfT_len q xs k
  rw [lfT,List.length_append]
  split
  ·rw [List.length_singleton];omega
  ·rw [List.length_nil];omega
theorem or_low (q k:Nat) (hk:k < 16):(q * 16) ||| k=q * 16+k:=by
 have h:=Nat.shiftLeft_add_eq_or_of_lt (i:=4) (b:=k) hk q
 rw [Nat.shiftLeft_eq] at h
 exact h.symm
structure Tl (w0 w:World) (v:Value) (M:List Tc):Prop where
 own:Own layK 58 w w0.heap.size v M
 bel:Below w0.heap.size w0 w
theorem Tl.frm {w0 w:World} {v:Value} {M:List Tc} (h:Tl w0 w v M):∃ a n c,v=.slice a n c:=by
 rcases h.own.2 with ⟨e,_⟩|⟨g,cap,cur,e,_⟩
 ·exact ⟨_,_,_,e⟩
 ·exact ⟨_,_,_,e⟩
theorem Tl.on {w0 w w':World} {v:Value} {M:List Tc} (h:Tl w0 w v M) (hb:Below w.heap.size w w'):Tl w0 w' v M:=⟨h.own.below hb,h.bel.trans (hb.mono h.bel.size)⟩
end Go.Proofs.YtimgkhdgliojgaaGreatDoor
