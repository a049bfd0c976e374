/-
  A writer and the document's beside it.
-/
import Derived.Test.YtamoioebgnmcaaaDoorSWg
namespace Go.Proofs.YtamoioebgnmcaaaDoor
open Go.RowKit
/-- The program's writer at p, the document's at q: the same records held. -/
structure WP (B : Nat) (w : World) (p q : Nat) (lim : Int) (cur : List Rc) (C Bn : Nat) (av : Option Addr) (cv : Nat) (ra : Option Addr) (rc : Nat) (least : Int) : Prop where
  cl : cur.length = C
  bn : (encs St.zero cur).length = Bn
  wri : w.heap[p]? = some (.cells (wcs lim (.slice av Bn cv) (C : Int) (fin St.zero cur).stamp (fin St.zero cur).obj (fin St.zero cur).stack least) 74 (0, 0))
  own : w.ownsRow B 5 1 (.slice av Bn cv) Bn ((encs St.zero cur).map (Value.int .u8))
  rwi : w.heap[q]? = some (.cells (rwc lim (.slice ra C rc) (least - 1)) 81 (0, 0))
  ro : w.ownsRow B 52 5 (.slice ra C rc) C (flat cur)
  part : Part lim cur
  lstc : lst 0 cur ≤ least
  finc : (fin St.zero cur).stamp ≤ least
  cle : (C : Int) ≤ least
  lm : least ≤ 1048576
  size : B ≤ w.heap.size
  pge : B ≤ p ∧ B ≤ q
/-- The blocks that the pair may write. -/
def WM (p q : Nat) (av : Option Addr) (Bn cv : Nat) (ra : Option Addr) (C rc : Nat) (z : Nat) : Prop := z = p ∨ z = q ∨ (Value.slice av Bn cv).ownBlock = some z ∨ (Value.slice ra C rc).ownBlock = some z
section
variable {B p q C Bn cv rc : Nat} {w : World} {lim least : Int} {cur : List Rc} {av ra : Option Addr}
theorem WP.but {S : Nat → Prop} {w' : World} (h : WP B w p q lim cur C Bn av cv ra rc least) (hb : But S w w') (hS : ∀ z, WM p q av Bn cv ra C rc z → ¬ S z) : WP B w' p q lim cur C Bn av cv ra rc least :=
  { h with
    wri := (hb.block _ (lt_of_heap h.wri) (hS p (.inl rfl))).trans h.wri
    own := own_but h.own hb (fun g hg => hS g (.inr (.inr (.inl hg))))
    rwi := (hb.block _ (lt_of_heap h.rwi) (hS q (.inr (.inl rfl)))).trans h.rwi
    ro := own_but h.ro hb (fun g hg => hS g (.inr (.inr (.inr hg))))
    size := Nat.le_trans h.size hb.size }
theorem WP.below {w' : World} (h : WP B w p q lim cur C Bn av cv ra rc least) (hb : Below w.heap.size w w') : WP B w' p q lim cur C Bn av cv ra rc least :=
  h.but (S := fun _ => False) (But.of_below hb) (fun _ _ e => e)
theorem WP.lt (h : WP B w p q lim cur C Bn av cv ra rc least) {z : Nat} (hz : WM p q av Bn cv ra C rc z) : z < w.heap.size := by
  rcases hz with e | e | e | e
  · rw [e]; exact lt_of_heap h.wri
  · rw [e]; exact lt_of_heap h.rwi
  · exact (h.own.lt z e).2
  · exact (h.ro.lt z e).2
theorem WP.ge (h : WP B w p q lim cur C Bn av cv ra rc least) {z : Nat} (hz : WM p q av Bn cv ra C rc z) : B ≤ z := by
  rcases hz with e | e | e | e
  · rw [e]; exact h.pge.1
  · rw [e]; exact h.pge.2
  · exact (h.own.lt z e).1
  · exact (h.ro.lt z e).1
theorem WP.start {w1 : World} (hlim : 64 ≤ lim) (h1 : w1.heap[p]? = some (.cells (wcs lim (.slice none 0 0) 0 0 0 0 0) 74 (0, 0))) (h2 : w1.heap[q]? = some (.cells (rwc lim (.slice none 0 0) (-1)) 81 (0, 0))) (hs : B ≤ w1.heap.size) (hg : B ≤ p ∧ B ≤ q) : WP B w1 p q lim [] 0 0 none 0 none 0 0 :=
  ⟨rfl, rfl, h1, World.ownsRow_nil _ _ _ _, h2, World.ownsRow_nil _ _ _ _, Part.nil hlim, Int.le_refl _, Int.le_refl _, Int.le_refl _, by decide, hs, hg⟩
end
/-- Bytes that may be spoiled: none, or in a block that no writer has. -/
def Spo (w : World) (xa : Option Addr) (xn xc : Nat) (M : Nat → Prop) : Prop := xn = 0 ∨ ∃ g cs, xa = some ⟨g, 0, none⟩ ∧ w.heap[g]? = some (.cells cs 5 (0, 0)) ∧ xn ≤ cs.size ∧ (∀ i, i < xn → ∃ z : Int, cs[i]? = some (.int .u8 z)) ∧ ¬ M g ∧ xn ≤ xc
theorem own_spo {w : World} {B g n c : Nat} {zs : List Int} (h : w.ownsRow B 5 1 (.slice (some ⟨g, 0, none⟩) n c) n (zs.map (Value.int .u8))) : ∃ cs, w.heap[g]? = some (.cells cs 5 (0, 0)) ∧ n ≤ cs.size ∧ ∀ i, i < n → ∃ z : Int, cs[i]? = some (.int .u8 z) := by
  obtain ⟨hl, h2⟩ := h
  rcases h2 with ⟨e, _⟩ | ⟨g', cap, cur, e, _, hh, hn, _, hs, ht⟩
  · cases e
  · cases e
    refine ⟨cur, hh, by omega, fun i hi => ?_⟩
    have hi2 : i < (zs.map (Value.int .u8)).length := by rw [hl]; omega
    have h9 : (cur.toList.take (n * 1))[i]? = (zs.map (Value.int .u8))[i]? := by rw [ht]
    have hi3 : i < zs.length := by simpa using hi2
    have hz : (zs.map (Value.int .u8))[i]? = some (.int .u8 zs[i]) := by rw [List.getElem?_map, List.getElem?_eq_getElem hi3]; rfl
    rw [hz, List.getElem?_take, if_pos (by omega)] at h9
    exact ⟨zs[i], by rw [← Array.getElem?_toList]; exact h9⟩
theorem flt_bad {m : Int} {r : Rc} (h : putE St.zero r ≠ 0) : flt m r = putE St.zero r := by unfold flt; rw [if_pos h]
theorem flt_low {m : Int} {r : Rc} (h : putE St.zero r = 0) (hl : r.stamp ≤ m) : flt m r = 80 := by unfold flt; rw [if_neg (by omega), if_pos hl]
theorem flt_ok {m : Int} {r : Rc} (h : putE St.zero r = 0) (hl : ¬ r.stamp ≤ m) : flt m r = 0 := by unfold flt; rw [if_neg (by omega), if_neg hl]
end Go.Proofs.YtamoioebgnmcaaaDoor
