/-
  A writer under way, flushed at will: what lies in memory.
-/
import Derived.Test.YtdppbaipmmcjbaaDoorSEnc
import Derived.Test.YtdppbaipmmcjbaaDoorSChk
import Derived.Test.YtdppbaipmmcjbaaDoorSLaw
import Derived.Test.YtdppbaipmmcjbaaDoorZoc
import Derived.Test.YtdppbaipmmcjbaaDoorSRd
import Derived.Test.YtdppbaipmmcjbaaDoorSDec
namespace Go.Proofs.YtdppbaipmmcjbaaDoor
open Go.RowKit
/-- The stamp that the next record must have at least. -/
def lst : Int → List Rc → Int
  | m, [] => m
  | _, r :: l => lst (r.stamp + 1) l
theorem lst_snoc : ∀ (L : List Rc) (m : Int) (r : Rc), lst m (L ++ [r]) = r.stamp + 1
  | [], _, _ => rfl
  | x :: l, m, r => by rw [List.cons_append, lst, lst_snoc l]
theorem strE_snoc : ∀ (L : List Rc) (m : Int) (r : Rc), strE m L = 0 → putE St.zero r = 0 → lst m L ≤ r.stamp → strE m (L ++ [r]) = 0
  | [], m, r, _, h2, h3 => by
    have h9 : m ≤ r.stamp := h3
    rw [List.nil_append, strE, if_neg (by simp [h2]), if_neg (by omega)]
    rfl
  | x :: l, m, r, h1, h2, h3 => by
    rw [strE] at h1
    by_cases hp : putE St.zero x ≠ 0
    · rw [if_pos hp] at h1; exact absurd h1 hp
    · rw [if_neg hp] at h1
      by_cases hs : x.stamp < m
      · rw [if_pos hs] at h1; cases h1
      · rw [if_neg hs] at h1
        rw [List.cons_append, strE, if_neg hp, if_neg hs]
        exact strE_snoc l _ r h1 h2 h3
theorem encs_neG {r : Rc} {L : List Rc} (hp : putE (fin St.zero L) r = 0) (hr : r.ok) : encs St.zero (L ++ [r]) ≠ [] := by
  intro e
  have e9 := congrArg List.length e
  rw [encs_snoc, List.length_append, List.length_nil] at e9
  have := text_len hp hr
  omega
/-- A part that is whole. -/
structure Part (lim : Int) (d : List Rc) : Prop where
  str : strE 0 d = 0
  ok : ∀ r ∈ d, r.ok
  len : ((encs St.zero d).length : Int) ≤ lim
  u8 : ∀ z ∈ encs St.zero d, 0 ≤ z ∧ z ≤ 255
  pos : d ≠ [] → encs St.zero d ≠ []
  may : mayS (fin St.zero d).stamp (fin St.zero d).stack = true
theorem Part.nil {lim : Int} (h : 64 ≤ lim) : Part lim [] := ⟨rfl, by simp, by simp [encs]; omega, by simp [encs], fun h => absurd rfl h, by decide⟩
theorem Part.snoc {lim : Int} {d : List Rc} {r : Rc} (h : Part lim d) (hE : putE St.zero r = 0) (hr : r.ok) (hs : lst 0 d ≤ r.stamp) (hf : (fin St.zero d).stamp ≤ r.stamp) (hl : ((encs St.zero d).length : Int) + ((text (fin St.zero d) r).length : Int) ≤ lim) : Part lim (d ++ [r]) := by
  have hp := putE_upon hE h.may hf
  refine ⟨strE_snoc _ _ _ h.str hE hs, fun x hx => ?_, by rw [encs_snoc, List.length_append]; omega, fun z hz => ?_, fun _ => encs_neG hp hr, ?_⟩
  · rcases List.mem_append.1 hx with e | e
    · exact h.ok x e
    · rw [List.mem_singleton.1 e]; exact hr
  · rw [encs_snoc] at hz
    rcases List.mem_append.1 hz with e | e
    · exact h.u8 z e
    · exact text_mem hp z e
  · rw [fin_snoc]; exact may_behind hp
theorem Part.one {lim : Int} {r : Rc} (hlim : 64 ≤ lim) (hE : putE St.zero r = 0) (hr : r.ok) : Part lim [r] := by
  have hl := text_len hE hr
  have hok := putE_ok hE
  exact (Part.nil hlim).snoc hE hr (by show (0 : Int) ≤ _; omega) (by show (0 : Int) ≤ _; omega) (by show ((0 : Nat) : Int) + _ ≤ _; have : ((text (fin St.zero []) r).length : Int) = ((text St.zero r).length : Int) := rfl; omega)
theorem chunk_part {lim : Int} {d : List Rc} (h : Part lim d) (hd : d ≠ []) : chunkV (encs St.zero d) = (d, 0) := chunk_text h.str h.ok hd
theorem parts_len : ∀ dn : List (List Rc), (∀ d ∈ dn, d ≠ []) → dn.length ≤ dn.flatten.length
  | [], _ => Nat.le_refl _
  | x :: l, h => by
    have h9 := parts_len l (fun d hd => h d (List.mem_cons_of_mem _ hd))
    have h8 : 0 < x.length := List.length_pos_iff.2 (h x (List.mem_cons_self ..))
    rw [List.flatten_cons, List.length_append, List.length_cons]
    omega
/-- What StreamGrows holds. -/
structure GrI (w wr : World) (p : Nat) (lim : Int) (dn : List (List Rc)) (cur : List Rc) (pl : Bool) (D T C Bn : Nat) (ao : Option Addr) (co : Nat) (vals : List Value) (av : Option Addr) (cv : Nat) (least : Int) (ta : Option Addr) (tc : Nat) : Prop where
  dl : dn.length = D
  tl : (dn.flatten ++ cur).length = T
  cl : cur.length = C
  bn : (encs St.zero cur).length = Bn
  bods : Bods wr w.heap.size (.slice ao D co) (dn.map (encs St.zero)) vals
  wri : wr.heap[p]? = some (.cells (wcs lim (.slice av Bn cv) (C : Int) (fin St.zero cur).stamp (fin St.zero cur).obj (fin St.zero cur).stack least) 75 (0, 0))
  own : wr.ownsRow w.heap.size 5 1 (.slice av Bn cv) Bn ((encs St.zero cur).map (Value.int .u8))
  fresh : ∀ x ∈ vals, ∀ g, x.ownBlock = some g → (Value.slice av Bn cv).ownBlock ≠ some g
  bel : Below w.heap.size w wr
  pge : w.heap.size ≤ p
  tk : wr.ownsRow w.heap.size 48 5 (.slice ta T tc) T (flat (dn.flatten ++ cur))
  parts : ∀ d ∈ dn, Part lim d ∧ d ≠ []
  part : Part lim cur
  str : strE 0 (dn.flatten ++ cur) = 0
  ok : ∀ r ∈ dn.flatten ++ cur, r.ok
  lst_ : lst 0 (dn.flatten ++ cur) = least
  lstc : lst 0 cur ≤ least
  finc : (fin St.zero cur).stamp ≤ least
  tl_ : (T : Int) ≤ least
  lm : least ≤ 1048576
  dT : D ≤ T
  pln : pl = true → ∀ rest, cutS lim.toNat [] St.zero (dn.flatten ++ cur ++ rest) = dn.map (encs St.zero) ++ cutS lim.toNat (encs St.zero cur) (fin St.zero cur) rest
section
variable {w wr : World} {p : Nat} {lim : Int} {dn : List (List Rc)} {cur : List Rc} {pl : Bool} {D T C Bn : Nat} {ao : Option Addr} {co : Nat} {vals : List Value} {av : Option Addr} {cv : Nat} {least : Int} {ta : Option Addr} {tc : Nat}
theorem GrI.start {w1 : World} (L1 : w1.heap[p]? = some (.cells (wcs lim (.slice none 0 0) 0 0 0 0 0) 75 (0, 0))) (hb : Below w.heap.size w w1) (hp : w.heap.size ≤ p) (hlim : 64 ≤ lim) : GrI w w1 p lim [] [] true 0 0 0 0 none 0 [] none 0 0 none 0 :=
  ⟨rfl, rfl, rfl, rfl, Bods.nil _ _, L1, World.ownsRow_nil _ _ _ _, by simp, hb, hp, World.ownsRow_nil _ _ _ _, by simp, Part.nil hlim, rfl, by simp, rfl, Int.le_refl _, Int.le_refl _, Int.le_refl _, by decide, Nat.le_refl _, fun _ rest => rfl⟩
theorem GrI.below {w2 : World} (h : GrI w wr p lim dn cur pl D T C Bn ao co vals av cv least ta tc) (hb : Below wr.heap.size wr w2) : GrI w w2 p lim dn cur pl D T C Bn ao co vals av cv least ta tc :=
  { h with bods := h.bods.below hb, wri := (hb.block _ (lt_of_heap h.wri)).trans h.wri, own := own_below h.own hb, tk := own_below h.tk hb, bel := h.bel.trans (hb.mono h.bel.size) }
theorem GrI.cpos (h : GrI w wr p lim dn cur pl D T C Bn ao co vals av cv least ta tc) : 0 < Bn ↔ 0 < C := by
  rw [← h.bn, ← h.cl]
  constructor
  · intro e
    refine Nat.pos_of_ne_zero (fun e0 => ?_)
    rw [List.length_eq_zero_iff.1 e0] at e
    simp [encs] at e
  · intro e
    refine Nat.pos_of_ne_zero (fun e0 => ?_)
    exact h.part.pos (fun e9 => by rw [e9] at e; simp at e) (List.length_eq_zero_iff.1 e0)
theorem GrI.cle (h : GrI w wr p lim dn cur pl D T C Bn ao co vals av cv least ta tc) : C ≤ T := by
  rw [← h.cl, ← h.tl, List.length_append]; omega
/-- Flushed with nothing held. -/
theorem GrI.flush0 {w3 : World} (h : GrI w wr p lim dn cur pl D T C Bn ao co vals av cv least ta tc) (h0 : C = 0) (hW : w3.heap[p]? = some (.cells (wcs lim (.slice none 0 0) 0 0 0 0 least) 75 (0, 0))) (hb : But (fun k => k = p) wr w3) :
    GrI w w3 p lim dn cur pl D T 0 0 ao co vals none 0 least ta tc := by
  have e0 : cur = [] := List.length_eq_zero_iff.1 (by rw [h.cl]; exact h0)
  subst e0
  have hs := h.bel.size
  exact { h with
    cl := rfl, bn := rfl
    bods := h.bods.but hb (fun g hg e => own_ne_cells h.bods.own h.wri (by decide) (by rw [← (e : g = p)]; exact hg)) (fun x hx g hg e => h.bods.ne_cells h.wri (by decide) x hx g hg e)
    wri := hW
    own := World.ownsRow_nil _ _ _ _
    fresh := fun x hx g hg e => by cases e
    bel := h.bel.trans (hb.below hs (fun g e => by have e9 : g = p := e; have := h.pge; omega))
    tk := own_but h.tk hb (fun g hg e => own_ne_cells h.tk h.wri (by decide) (by rw [← (e : g = p)]; exact hg)) }
/-- Flushed, and the body put among the others. -/
theorem GrI.flush1 {w3 w4 : World} {a2 : Option Addr} {c2 gv : Nat} (h : GrI w wr p lim dn cur pl D T C Bn ao co vals (some ⟨gv, 0, none⟩) cv least ta tc) (h0 : 0 < C) (hlim : 64 ≤ lim) (hW : w3.heap[p]? = some (.cells (wcs lim (.slice none 0 0) 0 0 0 0 least) 75 (0, 0))) (hb : But (fun k => k = p) wr w3)
    (o2 : w4.ownsRow w.heap.size 35 1 (.slice a2 (D + 1) c2) (D + 1) (vals ++ [.slice (some ⟨gv, 0, none⟩) Bn Bn])) (g2 : (w3.alloc (.cells #[.slice (some ⟨gv, 0, none⟩) Bn Bn] 35)).grownBy w4 (Value.slice ao D co).ownBlock) :
    GrI w w4 p lim (dn ++ [cur]) [] false (D + 1) T 0 0 a2 c2 (vals ++ [.slice (some ⟨gv, 0, none⟩) Bn Bn]) none 0 least ta tc := by
  have hs := h.bel.size
  have hpg := h.pge
  have hbd : Bods w3 w.heap.size (.slice ao D co) (dn.map (encs St.zero)) vals := h.bods.but hb (fun g hg e => own_ne_cells h.bods.own h.wri (by decide) (by rw [← (e : g = p)]; exact hg)) (fun x hx g hg e => h.bods.ne_cells h.wri (by decide) x hx g hg e)
  have ho3 := own_but h.own hb (fun g hg e => own_ne_cells h.own h.wri (by decide) (by rw [← (e : g = p)]; exact hg))
  have ht3 := own_but h.tk hb (fun g hg e => own_ne_cells h.tk h.wri (by decide) (by rw [← (e : g = p)]; exact hg))
  have k2 : But (fun k => (Value.slice ao D co).ownBlock = some k) w3 w4 := (But.refl _ w3).alloc _ |>.grown g2 (fun k _ e => e)
  have hfl : (dn ++ [cur]).flatten ++ [] = dn.flatten ++ cur := by simp
  have hne : cur ≠ [] := fun e => by rw [e] at h; have := h.cl; simp at this; omega
  have hbl : Below w.heap.size w w3 := h.bel.trans (hb.below hs (fun g e => by have e9 : g = p := e; omega))
  have hlen : (dn.map (encs St.zero)).length = D := by rw [List.length_map, h.dl]
  have hsn : Bods w4 w.heap.size (.slice a2 (D + 1) c2) (dn.map (encs St.zero) ++ [encs St.zero cur]) (vals ++ [.slice (some ⟨gv, 0, none⟩) Bn Bn]) := by
    have hbn := h.bn
    have h9 := Bods.snoc (w2 := w4) (b := encs St.zero cur) (g := gv) (c := cv) (a2 := a2) (c2 := c2) hbd (by rw [hbn]; exact ho3) (fun x hx g' hg e => h.fresh x hx g' hg (by rw [e]; rfl)) h.part.u8 (by rw [hlen, hbn]; exact o2) (by rw [hbn]; exact g2)
    rw [hlen, hbn] at h9
    exact h9
  refine ⟨by rw [List.length_append, h.dl]; rfl, by rw [hfl, h.tl], rfl, rfl, by rw [List.map_append]; exact hsn, (k2.block _ (lt_of_heap hW) (fun e => own_ne_cells hbd.own hW (by decide) e)).trans hW, World.ownsRow_nil _ _ _ _, fun x hx g hg e => (by cases e), ?_, h.pge, ?_, ?_, Part.nil hlim, by rw [hfl]; exact h.str, by rw [hfl]; exact h.ok, by rw [hfl]; exact h.lst_, ?_, ?_, h.tl_, h.lm, ?_, fun e => by cases e⟩
  · exact hbl.trans (k2.below hbl.size (fun g e => (hbd.own.lt g e).1))
  · rw [hfl]
    exact own_but ht3 k2 (fun g hg e => own_types ht3 hbd.own (by decide) g hg e)
  · intro d hd
    rcases List.mem_append.1 hd with e | e
    · exact h.parts d e
    · rw [List.mem_singleton.1 e]; exact ⟨h.part, hne⟩
  · have := h.tl_; show (0 : Int) ≤ least; omega
  · have := h.tl_; show (0 : Int) ≤ least; omega
  · have h1 := parts_len dn (fun d hd => (h.parts d hd).2)
    have h2 := h.tl
    have h3 := h.cl
    have h4 := h.dl
    rw [List.length_append] at h2
    omega
/-- A record is put among the taken ones. -/
theorem GrI.room {w3 w4 : World} {r : Rc} {g c g5 c5 : Nat} (h : GrI w wr p lim dn cur pl D T C Bn ao co vals av cv least ta tc) (hE : putE St.zero r = 0) (hrk : r.ok) (hlow : ¬ r.stamp < least) (hroom : ((encs St.zero cur).length : Int) + ((text (fin St.zero cur) r).length : Int) ≤ lim) {B2 : Nat} (hB2 : (encs St.zero cur ++ text (fin St.zero cur) r).length = B2)
    (hW : w3.heap[p]? = some (.cells (wcs lim (.slice (some ⟨g, 0, none⟩) B2 c) ((C : Int) + 1) (r.stamp + 1) r.obj r.stack (r.stamp + 1)) 75 (0, 0)))
    (hO : w3.ownsRow w.heap.size 5 1 (.slice (some ⟨g, 0, none⟩) B2 c) B2 ((encs St.zero cur ++ text (fin St.zero cur) r).map (Value.int .u8))) (hb : But (fun g => g = p ∨ (Value.slice av Bn cv).ownBlock = some g) wr w3) (hl : (Value.slice av Bn cv).ownBlock = some g ∨ wr.heap.size ≤ g)
    (o2 : w4.ownsRow w.heap.size 48 5 (.slice (some ⟨g5, 0, none⟩) (T + 1) c5) (T + 1) (flat (dn.flatten ++ cur ++ [r]))) (g2 : (w3.alloc (.cells #[.int .i64 r.stamp, .int .i64 r.kind, .int .u64 r.obj, .int .u64 r.arg, .int .i64 r.stack] 48)).grownBy w4 (Value.slice ta T tc).ownBlock) :
    GrI w w4 p lim dn (cur ++ [r]) pl D (T + 1) (C + 1) B2 ao co vals (some ⟨g, 0, none⟩) c (r.stamp + 1) (some ⟨g5, 0, none⟩) c5 := by
  have hs := h.bel.size
  have hpg := h.pge
  have hp := putE_upon hE h.part.may (by have := h.finc; omega)
  have hok := putE_ok hE
  have h9 := h.tl_
  have hbd : Bods w3 w.heap.size (.slice ao D co) (dn.map (encs St.zero)) vals := by
    refine h.bods.but hb (fun g' hg e => ?_) (fun x hx g' hg e => ?_)
    · rcases e with e | e
      · exact own_ne_cells h.bods.own h.wri (by decide) (by rw [← e]; exact hg)
      · exact own_types h.own h.bods.own (by decide) g' e hg
    · rcases e with e | e
      · exact h.bods.ne_cells h.wri (by decide) x hx g' hg e
      · exact h.fresh x hx g' hg e
  have ht3 := own_but h.tk hb (fun g' hg e => by
    rcases e with e | e
    · exact own_ne_cells h.tk h.wri (by decide) (by rw [← e]; exact hg)
    · exact own_types h.own h.tk (by decide) g' e hg)
  have k2 : But (fun k => (Value.slice ta T tc).ownBlock = some k) w3 w4 := (But.refl _ w3).alloc _ |>.grown g2 (fun k _ e => e)
  have hbl : Below w.heap.size w w3 := h.bel.trans (hb.below hs (fun g' e => by
    rcases e with e | e
    · omega
    · exact (h.own.lt g' e).1))
  have hfl : dn.flatten ++ (cur ++ [r]) = dn.flatten ++ cur ++ [r] := by rw [List.append_assoc]
  refine ⟨h.dl, by rw [hfl, List.length_append, h.tl]; rfl, by rw [List.length_append, h.cl]; rfl, by rw [encs_snoc, hB2], hbd.but k2 (fun g' hg e => own_types ht3 hbd.own (by decide) g' e hg) (fun x hx g' hg e => ?_), ?_, ?_, ?_, hbl.trans (k2.below hbl.size (fun g' e => (ht3.lt g' e).1)), h.pge, by rw [hfl]; exact o2, h.parts, ?_, ?_, ?_, ?_, ?_, ?_, by omega, by omega, by have := h.dT; omega, ?_⟩
  · obtain ⟨z, _, g2', cap, rfl, ho⟩ := hbd.row hx
    exact own_types ho ht3 (by decide) g' (by rw [← hg]; rfl) e
  · rw [fin_snoc]
    refine (k2.block _ (lt_of_heap hW) (fun e => own_ne_cells ht3 hW (by decide) e)).trans ?_
    rw [hW]
    congr 1
  · rw [encs_snoc]
    exact own_but hO k2 (fun g' hg e => own_types hO ht3 (by decide) g' hg e)
  · intro x hx g' hg e
    have e9 : g = g' := Option.some.inj e
    subst e9
    rcases hl with e | e
    · exact h.fresh x hx g hg e
    · obtain ⟨z, _, g2', cap, rfl, ho⟩ := h.bods.row hx
      have h6 := (ho.lt g (by rw [← hg]; rfl)).2
      omega
  · exact h.part.snoc hE hrk (by have := h.lstc; omega) (by have := h.finc; omega) hroom
  · rw [hfl]; exact strE_snoc _ _ _ h.str hE (by rw [h.lst_]; omega)
  · intro x hx
    rw [hfl] at hx
    rcases List.mem_append.1 hx with e | e
    · exact h.ok x e
    · rw [List.mem_singleton.1 e]; exact hrk
  · rw [hfl, lst_snoc]
  · rw [lst_snoc]; exact Int.le_refl _
  · rw [fin_snoc]; exact Int.le_refl _
  · intro e rest
    have h8 := h.pln e (r :: rest)
    rw [hfl, List.append_assoc, List.singleton_append, h8, encs_snoc, fin_snoc]
    have h7 := cutS_room (lim := lim.toNat) (b := encs St.zero cur) (s := fin St.zero cur) (L := r :: rest) (k := 0) (r := r) rfl (by omega)
    rw [List.drop_zero] at h7
    rw [h7]
    rfl
/-- A record without room. -/
theorem GrI.full {w3 w5 w4 : World} {r : Rc} {g c g5 c5 gv : Nat} {a2 : Option Addr} {c2 : Nat} (h : GrI w wr p lim dn cur pl D T C Bn ao co vals (some ⟨gv, 0, none⟩) cv least ta tc) (hE : putE St.zero r = 0) (hrk : r.ok) (hlow : ¬ r.stamp < least) (hlim : 64 ≤ lim) (hroom : lim < ((encs St.zero cur).length : Int) + ((text (fin St.zero cur) r).length : Int)) {B2 : Nat} (hB2 : (text St.zero r).length = B2)
    (hW : w3.heap[p]? = some (.cells (wcs lim (.slice (some ⟨g, 0, none⟩) B2 c) 1 (r.stamp + 1) r.obj r.stack (r.stamp + 1)) 75 (0, 0)))
    (hO : w3.ownsRow wr.heap.size 5 1 (.slice (some ⟨g, 0, none⟩) B2 c) B2 ((text St.zero r).map (Value.int .u8))) (hb : But (fun g => g = p) wr w3)
    (o2 : w5.ownsRow w.heap.size 48 5 (.slice (some ⟨g5, 0, none⟩) (T + 1) c5) (T + 1) (flat (dn.flatten ++ cur ++ [r]))) (g2 : (w3.alloc (.cells #[.int .i64 r.stamp, .int .i64 r.kind, .int .u64 r.obj, .int .u64 r.arg, .int .i64 r.stack] 48)).grownBy w5 (Value.slice ta T tc).ownBlock)
    (o4 : w4.ownsRow w.heap.size 35 1 (.slice a2 (D + 1) c2) (D + 1) (vals ++ [.slice (some ⟨gv, 0, none⟩) Bn Bn])) (g4 : (w5.alloc (.cells #[.slice (some ⟨gv, 0, none⟩) Bn Bn] 35)).grownBy w4 (Value.slice ao D co).ownBlock) :
    GrI w w4 p lim (dn ++ [cur]) [r] pl (D + 1) (T + 1) 1 B2 a2 c2 (vals ++ [.slice (some ⟨gv, 0, none⟩) Bn Bn]) (some ⟨g, 0, none⟩) c (r.stamp + 1) (some ⟨g5, 0, none⟩) c5 := by
  have hs := h.bel.size
  have hpg := h.pge
  have hok := putE_ok hE
  have h9 := h.tl_
  have hl2 := text_len hE hrk
  have hbn := h.bn
  have hbp : 0 < Bn := by
    have := text_len (putE_upon hE h.part.may (by have := h.finc; omega)) hrk
    omega
  have hne : cur ≠ [] := fun e => by rw [e] at hbn; simp [encs] at hbn; omega
  have hbd : Bods w3 w.heap.size (.slice ao D co) (dn.map (encs St.zero)) vals := h.bods.but hb (fun g hg e => own_ne_cells h.bods.own h.wri (by decide) (by rw [← (e : g = p)]; exact hg)) (fun x hx g hg e => h.bods.ne_cells h.wri (by decide) x hx g hg e)
  have ho3 := own_but h.own hb (fun g hg e => own_ne_cells h.own h.wri (by decide) (by rw [← (e : g = p)]; exact hg))
  have ht3 := own_but h.tk hb (fun g hg e => own_ne_cells h.tk h.wri (by decide) (by rw [← (e : g = p)]; exact hg))
  have k2 : But (fun k => (Value.slice ta T tc).ownBlock = some k) w3 w5 := (But.refl _ w3).alloc _ |>.grown g2 (fun k _ e => e)
  have hbl : Below w.heap.size w w3 := h.bel.trans (hb.below hs (fun g' e => by have e9 : g' = p := e; omega))
  have hbd5 : Bods w5 w.heap.size (.slice ao D co) (dn.map (encs St.zero)) vals := hbd.but k2 (fun g' hg e => own_types ht3 hbd.own (by decide) g' e hg) (fun x hx g' hg e => by
    obtain ⟨z, _, g2', cap, rfl, ho⟩ := hbd.row hx
    exact own_types ho ht3 (by decide) g' (by rw [← hg]; rfl) e)
  have ho5 := own_but ho3 k2 (fun g' hg e => own_types ho3 ht3 (by decide) g' hg e)
  have hO5 := own_but hO k2 (fun g' hg e => own_types hO ht3 (by decide) g' hg e)
  have hW5 := (k2.block _ (lt_of_heap hW) (fun e => own_ne_cells ht3 hW (by decide) e)).trans hW
  have k4 : But (fun k => (Value.slice ao D co).ownBlock = some k) w5 w4 := (But.refl _ w5).alloc _ |>.grown g4 (fun k _ e => e)
  have hlen : (dn.map (encs St.zero)).length = D := by rw [List.length_map, h.dl]
  have hsn : Bods w4 w.heap.size (.slice a2 (D + 1) c2) (dn.map (encs St.zero) ++ [encs St.zero cur]) (vals ++ [.slice (some ⟨gv, 0, none⟩) Bn Bn]) := by
    have h8 := Bods.snoc (w2 := w4) (b := encs St.zero cur) (g := gv) (c := cv) (a2 := a2) (c2 := c2) hbd5 (by rw [hbn]; exact ho5) (fun x hx g' hg e => h.fresh x hx g' hg (by rw [e]; rfl)) h.part.u8 (by rw [hlen, hbn]; exact o4) (by rw [hbn]; exact g4)
    rw [hlen, hbn] at h8
    exact h8
  have hfl : (dn ++ [cur]).flatten ++ [r] = dn.flatten ++ cur ++ [r] := by simp
  have hb5 : Below w.heap.size w w5 := hbl.trans (k2.below hbl.size (fun g' e => (ht3.lt g' e).1))
  refine ⟨by rw [List.length_append, h.dl]; rfl, by rw [hfl, List.length_append, h.tl]; rfl, rfl, by rw [show encs St.zero [r] = text St.zero r from List.append_nil _, hB2], by rw [List.map_append]; exact hsn, ?_, ?_, ?_, hb5.trans (k4.below hb5.size (fun g' e => (hbd5.own.lt g' e).1)), h.pge, ?_, ?_, Part.one hlim hE hrk, ?_, ?_, ?_, Int.le_refl _, Int.le_refl _, by omega, by omega, ?_, ?_⟩
  · exact (k4.block _ (lt_of_heap hW5) (fun e => own_ne_cells hbd5.own hW5 (by decide) e)).trans hW5
  · rw [show encs St.zero [r] = text St.zero r from List.append_nil _]
    exact own_mono (own_but hO5 k4 (fun g' hg e => own_types hO5 hbd5.own (by decide) g' hg e)) hs
  · intro x hx g' hg e
    have e9 : g = g' := Option.some.inj e
    subst e9
    have hgg := (hO.lt g rfl).1
    rcases List.mem_append.1 hx with hx | hx
    · obtain ⟨z, _, g9, cap, rfl, ho⟩ := h.bods.row hx
      have h6 := (ho.lt g (by rw [← hg]; rfl)).2
      omega
    · simp at hx
      subst hx
      have e8 : gv = g := Option.some.inj hg
      have h6 := (h.own.lt gv rfl).2
      omega
  · rw [hfl]
    exact own_but o2 k4 (fun g' hg e => own_types o2 hbd5.own (by decide) g' hg e)
  · intro d hd
    rcases List.mem_append.1 hd with e | e
    · exact h.parts d e
    · rw [List.mem_singleton.1 e]; exact ⟨h.part, hne⟩
  · rw [hfl]; exact strE_snoc _ _ _ h.str hE (by rw [h.lst_]; omega)
  · intro x hx
    rw [hfl] at hx
    rcases List.mem_append.1 hx with e | e
    · exact h.ok x e
    · rw [List.mem_singleton.1 e]; exact hrk
  · rw [hfl, lst_snoc]
  · have := h.dT; omega
  · intro e rest
    have h8 := h.pln e (r :: rest)
    rw [hfl, List.append_assoc, List.singleton_append, h8, List.map_append]
    have h7 := cutS_full (lim := lim.toNat) (b := encs St.zero cur) (s := fin St.zero cur) (L := r :: rest) (k := 0) (r := r) rfl (by omega)
    rw [List.drop_zero] at h7
    rw [h7, show encs St.zero [r] = text St.zero r from List.append_nil _, List.append_assoc]
    rfl
theorem GrI.weak (h : GrI w wr p lim dn cur pl D T C Bn ao co vals av cv least ta tc) : GrI w wr p lim dn cur false D T C Bn ao co vals av cv least ta tc :=
  { h with pln := fun e => by cases e }
theorem GrI.cut0 (h : GrI w wr p lim dn [] pl D T C Bn ao co vals av cv least ta tc) (e : pl = true) : cutS lim.toNat [] St.zero dn.flatten = dn.map (encs St.zero) := by
  have h9 := h.pln e []
  simpa [cutS, encs] using h9
theorem GrI.cut1 (h : GrI w wr p lim dn cur pl D T C Bn ao co vals av cv least ta tc) (h0 : 0 < C) (e : pl = true) : cutS lim.toNat [] St.zero (dn ++ [cur]).flatten = (dn ++ [cur]).map (encs St.zero) := by
  have h9 := h.pln e []
  have hne : encs St.zero cur ≠ [] := h.part.pos (fun e => by have := h.cl; rw [e] at this; simp at this; omega)
  rw [List.append_nil, cutS, if_neg hne] at h9
  simpa using h9
end
end Go.Proofs.YtdppbaipmmcjbaaDoor
