/-
  The document's bodies of a stream.
-/
import Derived.Test.YtamoioebgnmcaaaDoorSRfA
import Derived.Test.YtamoioebgnmcaaaDoorSBkM
namespace Go.Proofs.YtamoioebgnmcaaaDoor
open Go.RowKit
theorem rput_n (S O K t k o a q : Int) (w : World) (h : putE ⟨S, O, K⟩ ⟨t, k, o, a, q⟩ = 0) (hr : (⟨t, k, o, a, q⟩ : Rc).ok) :
    Calls Tryd.prog 51 #[.agg #[.int .i64 S, .int .u64 O, .int .i64 K], .agg #[.int .i64 t, .int .i64 k, .int .u64 o, .int .u64 a, .int .i64 q]] w fun e w' =>
      ∃ g c, e = .returned (.tuple #[.slice (some ⟨g, 0, none⟩) (text ⟨S, O, K⟩ ⟨t, k, o, a, q⟩).length c, .agg #[.int .i64 (t + 1), .int .u64 o, .int .i64 q], .int .i64 0]) ∧ w.heap.size ≤ g ∧ w'.ownsRow w.heap.size 5 1 (.slice (some ⟨g, 0, none⟩) (text ⟨S, O, K⟩ ⟨t, k, o, a, q⟩).length c) (text ⟨S, O, K⟩ ⟨t, k, o, a, q⟩).length ((text ⟨S, O, K⟩ ⟨t, k, o, a, q⟩).map (Value.int .u8)) ∧ Below w.heap.size w w' := by
  have hl := text_len h hr
  refine (rput_ok S O K t k o a q w h hr.a0 hr.a1).mono ?_
  rintro e w' ⟨v, n, rfl, rfl, hown, hb⟩
  obtain ⟨g, c, rfl, hg, _⟩ := own_some hown (by omega)
  exact ⟨g, c, rfl, hg, hown, hb⟩
theorem Bel.alloc {w X : World} (h : Below w.heap.size w X) (o : Obj) : Below w.heap.size w (X.alloc o) := h.alloc h.size o
theorem Bel.set {w X : World} {g i : Nat} (h : Below w.heap.size w X) (hg : w.heap.size ≤ g) (v : Value) : Below w.heap.size w (X.setCell ⟨g, i, none⟩ v) := h.setCell (p := ⟨g, i, none⟩) hg v
/-- 'append(l, b)' of a list that lies beside the others. -/
theorem Lists.snocG {w w2 : World} {base : Nat} {v : Value} {bs : List (List Int)} {vals : List Value} {b : List Int} {a1 : Option Addr} {c1 : Nat} {a2 : Option Addr} {c2 : Nat} (h : Lists w base v bs vals)
    (ho1 : w.ownsRow base 5 1 (.slice a1 b.length c1) b.length (b.map (Value.int .u8))) (hdis : ∀ x ∈ vals, ∀ g, x.ownBlock = some g → (Value.slice a1 b.length c1).ownBlock ≠ some g) (hu : ∀ z ∈ b, 0 ≤ z ∧ z ≤ 255)
    (o2 : w2.ownsRow base 35 1 (.slice a2 (bs.length + 1) c2) (bs.length + 1) (vals ++ [.slice a1 b.length c1])) (g2 : (w.alloc (.cells #[.slice a1 b.length c1] 35)).grownBy w2 v.ownBlock) :
    Lists w2 base (.slice a2 (bs.length + 1) c2) (bs ++ [b]) (vals ++ [.slice a1 b.length c1]) := by
  have hl := h.len
  have k2 : But (fun k => v.ownBlock = some k) w w2 := (But.refl _ w).alloc _ |>.grown g2 (fun k _ e => e)
  have hone : w2.ownsRow base 5 1 (.slice a1 b.length c1) b.length (b.map (Value.int .u8)) := own_but ho1 k2 (fun g hg e => own_types ho1 h.own (by decide) g hg e)
  have hold : ∀ x ∈ vals, ∀ g, x.ownBlock = some g → ¬ v.ownBlock = some g := by
    intro x hx g hg e
    obtain ⟨b', _, a', c', rfl, ho⟩ := h.row hx
    exact own_types ho h.own (by decide) g hg e
  refine ⟨by rw [List.length_append]; exact o2, fun i b' hi => ?_, ?_, ?_⟩
  · by_cases hlt : i < bs.length
    · rw [List.getElem?_append_left hlt] at hi
      obtain ⟨a', c', e1, e2⟩ := h.each i b' hi
      exact ⟨a', c', by rw [List.getElem?_append_left (by omega)]; exact e1, own_but e2 k2 (hold _ (List.mem_of_getElem? e1))⟩
    · have hi2 := (List.getElem?_eq_some_iff.1 hi).1
      simp at hi2
      have e0 : i = bs.length := by omega
      subst e0
      rw [List.getElem?_append_right (Nat.le_refl _)] at hi
      simp at hi
      subst hi
      exact ⟨a1, c1, by rw [← hl, List.getElem?_append_right (Nat.le_refl _)]; simp, hone⟩
  · rw [List.pairwise_append]
    refine ⟨h.apart, List.pairwise_singleton _ _, ?_⟩
    intro x hx y hy
    simp at hy
    subst hy
    intro g hg e
    exact hdis x hx g hg e
  · intro b' hb'
    rcases List.mem_append.1 hb' with hb' | hb'
    · exact h.u8 b' hb'
    · simp at hb'; subst hb'; exact hu
/-- While the document cuts. -/
structure RbI (w wr : World) (lim : Int) (L : List Rc) (k : Nat) (ao : Option Addr) (co : Nat) (out : List (List Int)) (vals : List Value) (b : List Int) (s : St) (av : Option Addr) (cv : Nat) (least : Int) : Prop where
  ls : Lists wr w.heap.size (.slice ao out.length co) out vals
  st : wr.heap[w.heap.size]? = some (.cells #[.int .i64 s.stamp, .int .u64 s.obj, .int .i64 s.stack] 48 (0, 0))
  own : wr.ownsRow w.heap.size 5 1 (.slice av b.length cv) b.length (b.map (Value.int .u8))
  fresh : ∀ x ∈ vals, ∀ g, x.ownBlock = some g → (Value.slice av b.length cv).ownBlock ≠ some g
  bel : Below w.heap.size w wr
  err : strE least (L.drop k) = 0
  cut : cutS lim.toNat [] St.zero L = out ++ cutS lim.toNat b s (L.drop k)
  may : mayS s.stamp s.stack = true
  so : s.stamp ≤ least
  kl : (k : Int) ≤ least
  lm : least ≤ 1048576
  ok : out.length ≤ k
  bl : (b.length : Int) ≤ lim
  u8 : ∀ z ∈ b, 0 ≤ z ∧ z ≤ 255
section
variable {w wr : World} {lim : Int} {L : List Rc} {k : Nat} {ao : Option Addr} {co : Nat} {out : List (List Int)} {vals : List Value} {b : List Int} {s : St} {av : Option Addr} {cv : Nat} {least : Int}
theorem RbI.below {w2 : World} (h : RbI w wr lim L k ao co out vals b s av cv least) (hb : Below wr.heap.size wr w2) : RbI w w2 lim L k ao co out vals b s av cv least :=
  { h with ls := h.ls.below hb, st := (hb.block _ (lt_of_heap h.st)).trans h.st, own := own_below h.own hb, bel := h.bel.trans (hb.mono h.bel.size) }
theorem RbI.room {w6 : World} {r : Rc} {g c : Nat} (h : RbI w wr lim L k ao co out vals b s av cv least) (hr : L[k]? = some r) (hE : putE St.zero r = 0) (hle : least ≤ r.stamp) (hnx : strE (r.stamp + 1) (L.drop (k + 1)) = 0) (hroom : (b.length : Int) + ((text s r).length : Int) ≤ lim)
    (o6 : w6.ownsRow w.heap.size 5 1 (.slice (some ⟨g, 0, none⟩) (b.length + (text s r).length) c) (b.length + (text s r).length) ((b ++ text s r).map (Value.int .u8))) (gr : wr.grownBy w6 (Value.slice av b.length cv).ownBlock) (hl : (Value.slice av b.length cv).ownBlock = some g ∨ g = wr.heap.size) :
    RbI w (((w6.setCell ⟨w.heap.size, 0, none⟩ (.int .i64 (r.stamp + 1))).setCell ⟨w.heap.size, 1, none⟩ (.int .u64 r.obj)).setCell ⟨w.heap.size, 2, none⟩ (.int .i64 r.stack)) lim L (k + 1) ao co out vals (b ++ text s r) (behindS r) (some ⟨g, 0, none⟩) c (r.stamp + 1) := by
  have hp := putE_upon (s := s) hE h.may (by have := h.so; omega)
  have hok := putE_ok hE
  have h8 := h.kl
  have h7 := h.ok
  have k6 : But (fun g => (Value.slice av b.length cv).ownBlock = some g) wr w6 := But.of_grown gr (fun _ e => e)
  have st6 := (gr.block _ (lt_of_heap h.st) (fun e => own_ne_cells h.own h.st (by decide) e.symm)).trans h.st
  have kS : But (fun g => g = w.heap.size) w6 (((w6.setCell ⟨w.heap.size, 0, none⟩ (.int .i64 (r.stamp + 1))).setCell ⟨w.heap.size, 1, none⟩ (.int .u64 r.obj)).setCell ⟨w.heap.size, 2, none⟩ (.int .i64 r.stack)) := (((But.refl (fun g => g = w.heap.size) w6).setCell ⟨w.heap.size, 0, none⟩ (fun _ => rfl) _).setCell ⟨w.heap.size, 1, none⟩ (fun _ => rfl) _).setCell ⟨w.heap.size, 2, none⟩ (fun _ => rfl) _
  have ls6 : Lists w6 w.heap.size (.slice ao out.length co) out vals := h.ls.but k6 (fun g' hg e => own_types h.own h.ls.own (by decide) g' e hg) (fun x hx g' hg e => h.fresh x hx g' hg e)
  have hbel6 : Below w.heap.size w w6 := h.bel.grown gr h.bel.size (fun j e => (h.own.lt j e).1)
  refine ⟨ls6.but kS (fun g' hg e => own_ne_cells ls6.own st6 (by decide) (by rw [← (e : g' = w.heap.size)]; exact hg)) (fun x hx g' hg e => ?_), set3_heap st6, by rw [List.length_append]; exact own_setS o6 st6 _ _ _, ?_, ?_, hnx, ?_, may_behind hp, Int.le_refl _, by omega, by omega, by omega, by rw [List.length_append]; omega, ?_⟩
  · obtain ⟨b', _, a', c', rfl, ho⟩ := ls6.row hx
    exact own_ne_cells ho st6 (by decide) (by rw [← (e : g' = w.heap.size)]; exact hg)
  · intro x hx g' hg e
    have e9 : g = g' := Option.some.inj e
    subst e9
    rcases hl with e | e
    · exact h.fresh x hx g hg e
    · obtain ⟨b', _, a', c', rfl, ho⟩ := h.ls.row hx
      have h6 := (ho.lt g hg).2
      omega
  · exact ((hbel6.setCell (p := ⟨w.heap.size, 0, none⟩) (Nat.le_refl _) _).setCell (p := ⟨w.heap.size, 1, none⟩) (Nat.le_refl _) _).setCell (p := ⟨w.heap.size, 2, none⟩) (Nat.le_refl _) _
  · rw [h.cut, cutS_room hr (by omega)]
  · intro z hz
    rcases List.mem_append.1 hz with e | e
    · exact h.u8 z e
    · exact text_mem hp z e
theorem RbI.full {w5 w9 : World} {r : Rc} {g c nb : Nat} {a5 : Option Addr} {c5 : Nat} {cs : Array Value} (h : RbI w wr lim L k ao co out vals b s av cv least) (hr : L[k]? = some r) (hE : putE St.zero r = 0) (hrk : r.ok) (hle : least ≤ r.stamp) (hnx : strE (r.stamp + 1) (L.drop (k + 1)) = 0) (hlim : 64 ≤ lim) (hroom : lim < (b.length : Int) + ((text s r).length : Int))
    (o5 : w5.ownsRow w.heap.size 35 1 (.slice a5 (out.length + 1) c5) (out.length + 1) (vals ++ [.slice av b.length cv])) (g5 : (wr.alloc (.cells #[.slice av b.length cv] 35)).grownBy w5 (Value.slice ao out.length co).ownBlock)
    (LN : w5.heap[nb]? = some (.cells cs 48 (0, 0))) (hnp : w.heap.size ≠ nb) (hnb : w.heap.size ≤ nb) (b59 : But (fun g => g = nb) w5 w9) (o9 : w9.ownsRow w.heap.size 5 1 (.slice (some ⟨g, 0, none⟩) (text St.zero r).length c) (text St.zero r).length ((text St.zero r).map (Value.int .u8))) (hg : w5.heap.size ≤ g) :
    RbI w (((w9.setCell ⟨w.heap.size, 0, none⟩ (.int .i64 (r.stamp + 1))).setCell ⟨w.heap.size, 1, none⟩ (.int .u64 r.obj)).setCell ⟨w.heap.size, 2, none⟩ (.int .i64 r.stack)) lim L (k + 1) a5 c5 (out ++ [b]) (vals ++ [.slice av b.length cv]) (text St.zero r) (behindS r) (some ⟨g, 0, none⟩) c (r.stamp + 1) := by
  have hok := putE_ok hE
  have hl2 := text_len hE hrk
  have h8 := h.kl
  have h7 := h.ok
  have hs := h.bel.size
  have ls5 := h.ls.snocG h.own h.fresh h.u8 o5 g5
  have k5 : But (fun k => (Value.slice ao out.length co).ownBlock = some k) wr w5 := (But.refl _ wr).alloc _ |>.grown g5 (fun k _ e => e)
  have st5 := (k5.block _ (lt_of_heap h.st) (fun e => own_ne_cells h.ls.own h.st (by decide) e)).trans h.st
  have st9 := (b59.block _ (lt_of_heap st5) hnp).trans st5
  have ls9 : Lists w9 w.heap.size (.slice a5 (out.length + 1) c5) (out ++ [b]) (vals ++ [.slice av b.length cv]) := ls5.but b59 (fun g' hg' e => own_ne_cells ls5.own LN (by decide) (by rw [← (e : g' = nb)]; exact hg')) (fun x hx g' hg' e => by
    obtain ⟨b', _, a', c', rfl, ho⟩ := ls5.row hx
    exact own_ne_cells ho LN (by decide) (by rw [← (e : g' = nb)]; exact hg'))
  have kS : But (fun g => g = w.heap.size) w9 (((w9.setCell ⟨w.heap.size, 0, none⟩ (.int .i64 (r.stamp + 1))).setCell ⟨w.heap.size, 1, none⟩ (.int .u64 r.obj)).setCell ⟨w.heap.size, 2, none⟩ (.int .i64 r.stack)) := (((But.refl (fun g => g = w.heap.size) w9).setCell ⟨w.heap.size, 0, none⟩ (fun _ => rfl) _).setCell ⟨w.heap.size, 1, none⟩ (fun _ => rfl) _).setCell ⟨w.heap.size, 2, none⟩ (fun _ => rfl) _
  have hbel5 : Below w.heap.size w w5 := h.bel.trans (k5.below hs (fun g' e => (h.ls.own.lt g' e).1))
  have hbel9 : Below w.heap.size w w9 := hbel5.trans (b59.below hbel5.size (fun g' e => by rw [(e : g' = nb)]; exact hnb))
  have lsS := ls9.but kS (fun g' hg' e => own_ne_cells ls9.own st9 (by decide) (by rw [← (e : g' = w.heap.size)]; exact hg')) (fun x hx g' hg' e => by
    obtain ⟨b', _, a', c', rfl, ho⟩ := ls9.row hx
    exact own_ne_cells ho st9 (by decide) (by rw [← (e : g' = w.heap.size)]; exact hg'))
  refine ⟨by rw [List.length_append]; exact lsS, set3_heap st9, own_setS o9 st9 _ _ _, ?_, ?_, hnx, ?_, may_behind hE, Int.le_refl _, by omega, by omega, by rw [List.length_append]; simp; omega, by omega, text_mem hE⟩
  · intro x hx g' hg' e
    have e9 : g = g' := Option.some.inj e
    subst e9
    obtain ⟨b', _, a', c', rfl, ho⟩ := ls5.row hx
    have h6 := (ho.lt g hg').2
    omega
  · exact ((hbel9.setCell (p := ⟨w.heap.size, 0, none⟩) (Nat.le_refl _) _).setCell (p := ⟨w.heap.size, 1, none⟩) (Nat.le_refl _) _).setCell (p := ⟨w.heap.size, 2, none⟩) (Nat.le_refl _) _
  · rw [h.cut, cutS_full hr (by omega), List.append_assoc]; rfl
end
set_option maxHeartbeats 3200000 in
set_option maxRecDepth 10000 in
theorem rbodies_any (a : Option Addr) (n c : Nat) (L : List Rc) (lim : Int) (w : World) (hr : RRow w a n L) (hok : ∀ r ∈ L, r.ok) (hs : strE 0 L = 0) (hlim : 64 ≤ lim ∧ lim ≤ 1048576) :
    Calls Tryd.prog 38 #[.slice a n c, .int .i64 lim] w fun e w' => Below w.heap.size w w' ∧ ∃ ao co vals, e = .returned (.slice ao (cutS lim.toNat [] St.zero L).length co) ∧ Lists w' w.heap.size (.slice ao (cutS lim.toNat [] St.zero L).length co) (cutS lim.toNat [] St.zero L) vals := by
  have hl := hr.len
  have hlen := strE_len L 0 (by decide) (by decide) hs
  have hn20 : (n : Int) ≤ 1048576 := by omega
  have HR : Hid _ := hide hr
  have HOK : Hid _ := hide hok
  have HLM : Hid _ := hide hlim
  have HLL : Hid _ := hide hl
  obtain ⟨w1, hw1⟩ : ∃ w1, w1 = w.alloc (.cells #[.int .i64 0, .int .u64 0, .int .i64 0] 48) := ⟨_, rfl⟩
  have I0 : Hid (RbI w w1 lim L 0 none 0 [] [] [] St.zero none 0 0) := hide (by
    rw [hw1]
    exact ⟨Lists.nil _ _, heap_new _ _, World.ownsRow_nil _ _ _ _, by simp, below_alloc1 _ _, hs, rfl, may_zero, by decide, by decide, by decide, Nat.le_refl _, by simp; omega, by simp⟩)
  have Hw1 : Hid _ := hide hw1
  clear hr hok hlim hl hlen hs hw1
  go_enter Tryd.func38, Tryd.ntmps38
  go_wp2_with fail
  rw [← Hw1.out]
  go_loopw [5, 6, 8] (fun s5 s6 s8 wr => ∃ (k : Nat) (ao : Option Addr) (co : Nat) (out : List (List Int)) (vals : List Value) (b : List Int) (s : St) (av : Option Addr) (cv : Nat) (least : Int), s8 = .int .i64 k ∧ k ≤ n ∧ s5 = .slice ao out.length co ∧ s6 = .slice av b.length cv ∧ RbI w wr lim L k ao co out vals b s av cv least)
    (fun _ _ s8 _ => n - (intOf s8).toNat)
  case atStart => exact ⟨0, none, 0, [], [], [], St.zero, none, 0, 0, rfl, Nat.zero_le _, rfl, rfl, I0.out⟩
  case round =>
    obtain ⟨k, ao, co, out, vals, b, ⟨S, O, K⟩, av, cv, least, rfl, hk, rfl, rfl, hI⟩ := hrel
    clear I0 Hw1
    have HI : Hid _ := hide hI
    have hsz := hI.bel.size
    by_cases hlt : k < n
    · obtain ⟨⟨t, kd, o, ar, q⟩, hrk⟩ : ∃ r, L[k]? = some r := ⟨L[k]'(by have := HLL.out; omega), List.getElem?_eq_getElem _⟩
      have herr := hI.err
      rw [drop_get hrk] at herr
      obtain ⟨hE, hle, hnx⟩ := strE_step.1 herr
      dsimp only at hle hnx
      have hput := putE_upon (s := ⟨S, O, K⟩) hE hI.may (by have := hI.so; dsimp only at *; omega)
      have hro := HOK.out _ (List.mem_of_getElem? hrk)
      obtain ⟨b0, off, ea, hcs⟩ := ((HR.out.below hI.bel).cells).resolve_left (by omega)
      subst ea
      have hbl0 := World.block_lt_of_cell? wr _ (hcs k _ hrk).1
      have hbs0 := lt_of_heap hI.st
      have HKS : Hid (∀ X, Below wr.heap.size wr X → X.cell? ⟨w.heap.size, 0, none⟩ = some (.int .i64 S) ∧ X.cell? ⟨w.heap.size, 1, none⟩ = some (.int .u64 O) ∧ X.cell? ⟨w.heap.size, 2, none⟩ = some (.int .i64 K) ∧ X.cell? ⟨b0, off + k * 5, none⟩ = some (.int .i64 t) ∧ X.cell? ⟨b0, off + k * 5 + 1, none⟩ = some (.int .i64 kd) ∧ X.cell? ⟨b0, off + k * 5 + 2, none⟩ = some (.int .u64 o) ∧ X.cell? ⟨b0, off + k * 5 + 3, none⟩ = some (.int .u64 ar) ∧ X.cell? ⟨b0, off + k * 5 + 4, none⟩ = some (.int .i64 q)) := hide (fun X hX => by
        obtain ⟨z0, z1, z2⟩ := z3_cells ((hX.block _ hbs0).trans hI.st)
        obtain ⟨x0, x1, x2, x3, x4⟩ := hcs k _ hrk
        exact ⟨z0, z1, z2, (hX.cell (p := ⟨b0, off + k * 5, none⟩) hbl0).trans x0, (hX.cell (p := ⟨b0, off + k * 5 + 1, none⟩) hbl0).trans x1, (hX.cell (p := ⟨b0, off + k * 5 + 2, none⟩) hbl0).trans x2, (hX.cell (p := ⟨b0, off + k * 5 + 3, none⟩) hbl0).trans x3, (hX.cell (p := ⟨b0, off + k * 5 + 4, none⟩) hbl0).trans x4⟩)
      have HREC : Hid (∀ X, Below w.heap.size w X → X.cell? ⟨b0, off + k * 5, none⟩ = some (.int .i64 t) ∧ X.cell? ⟨b0, off + k * 5 + 1, none⟩ = some (.int .i64 kd) ∧ X.cell? ⟨b0, off + k * 5 + 2, none⟩ = some (.int .u64 o) ∧ X.cell? ⟨b0, off + k * 5 + 3, none⟩ = some (.int .u64 ar) ∧ X.cell? ⟨b0, off + k * 5 + 4, none⟩ = some (.int .i64 q)) := hide (fun X hX => by
        obtain ⟨b9, o9, e9, hc9⟩ := ((HR.out.below hX).cells).resolve_left (by omega)
        cases e9
        exact hc9 k _ hrk)
      have hTl := text_len hput hro
      have HM : Hid _ := hide (text_mem hput)
      have HPX : Hid _ := hide (fun X => rput_n S O K t kd o ar q X hput hro)
      have HRK : Hid _ := hide hrk
      have HE : Hid _ := hide hE
      have HRO : Hid _ := hide hro
      have HNX : Hid _ := hide hnx
      have HLE : Hid _ := hide hle
      obtain ⟨T, hT⟩ : ∃ T, T = text ⟨S, O, K⟩ ⟨t, kd, o, ar, q⟩ := ⟨_, rfl⟩
      rw [← hT] at hTl HM HPX
      have HT : Hid _ := hide hT
      have hltI : (k : Int) < (n : Int) := by omega
      have HPA := HPX.out wr.drew
      have HPB := HPX.out (wr.alloc (.cells #[.int .i64 0, .int .u64 0, .int .i64 0] 48)).drew
      obtain ⟨k0, k1, k2, k3, k4, k5, k6, k7⟩ := HKS.out wr (Below.refl _ _)
      clear herr hE hle hnx hput hro hcs hrk hT HPX hI
      go_upto_region 7 with fail
      go_cut [9, 10, 11] (fun s9 s10 s11 wx => ∃ g2 c2 nb, s9 = .slice (some ⟨g2, 0, none⟩) T.length c2 ∧ s10 = .pointer (some ⟨nb, 0, none⟩) ∧ s11 = .int .i64 0 ∧ wr.heap.size ≤ g2 ∧ wr.heap.size ≤ nb ∧ wx.heap[nb]? = some (.cells #[.int .i64 (t + 1), .int .u64 o, .int .i64 q] 48 (0, 0)) ∧ wx.ownsRow wr.heap.size 5 1 (.slice (some ⟨g2, 0, none⟩) T.length c2) T.length (T.map (Value.int .u8)) ∧ Below wr.heap.size wr wx)
      case first =>
        go_region_held3 (fun X => X.cell? ⟨w.heap.size, 0, none⟩ = some (.int .i64 S) ∧ X.cell? ⟨w.heap.size, 1, none⟩ = some (.int .u64 O) ∧ X.cell? ⟨w.heap.size, 2, none⟩ = some (.int .i64 K) ∧ X.cell? ⟨b0, off + k * 5, none⟩ = some (.int .i64 t) ∧ X.cell? ⟨b0, off + k * 5 + 1, none⟩ = some (.int .i64 kd) ∧ X.cell? ⟨b0, off + k * 5 + 2, none⟩ = some (.int .u64 o) ∧ X.cell? ⟨b0, off + k * 5 + 3, none⟩ = some (.int .u64 ar) ∧ X.cell? ⟨b0, off + k * 5 + 4, none⟩ = some (.int .i64 q)) (((with_reducible refine HKS.out _ ?_); repeat (first | with_reducible exact B4 | with_reducible exact Below.refl _ _ | with_reducible refine Below.drew ?_ | with_reducible refine Bel.alloc ?_ _ | (with_reducible refine Bel.set ?_ (by omega) _)))) (first
          | (go_at_call 51; (with_reducible refine HPB.mono ?_); rintro e w4 ⟨g2, c2, rfl, hg2, hown2, hb4⟩; have B4 : Below wr.heap.size wr w4 := (below_alloc1 wr _).drew.trans (hb4.mono (by simp)); have hs4 := B4.size; have LS4 : w4.heap[wr.heap.size]? = some (.cells #[.int .i64 0, .int .u64 0, .int .i64 0] 48 (0, 0)) := (hb4.block wr.heap.size (by simp)).trans (heap_new _ _); obtain ⟨s0, s1, s2⟩ := z3_cells LS4; have v0 := frz LS4 0; have v1 := frz LS4 1; have v2 := frz LS4 2)
          | (go_at_call 51; (with_reducible refine HPA.mono ?_); rintro e w4 ⟨g2, c2, rfl, hg2, hown2, hb4⟩; have B4 : Below wr.heap.size wr w4 := (Below.refl wr.heap.size wr).drew.trans (hb4.mono (by simp)); have hs4 := B4.size))
        all_goals (go_wp2_with fail; go_meet)
        · exact ⟨g2, c2, w4.heap.size, rfl, rfl, rfl, by simpa using hg2, hs4, heap_new _ _, own_mono (own_below hown2 (below_alloc1 _ _)) (by simp), Bel.alloc B4 _⟩
        · have h9 : wr.heap.size + 1 ≤ g2 := by simpa using hg2
          exact ⟨g2, c2, wr.heap.size, rfl, rfl, rfl, by omega, Nat.le_refl _, set3_heap LS4, own_mono (own_setS hown2 LS4 _ _ _) (by simp), Bel.set (Bel.set (Bel.set B4 (Nat.le_refl _) _) (Nat.le_refl _) _) (Nat.le_refl _) _⟩
      case rest =>
        obtain ⟨g2, c2, nb, rfl, rfl, rfl, hg2, hnb, LN, hO2, hbx⟩ := hcut
        rename World => wx
        have hsx := hbx.size
        have IX : Hid _ := hide (HI.out.below hbx)
        have hrow : Hid _ := hide (own_row_u8 hO2 (u8_of_mem HM.out))
        have HLN : Hid _ := hide LN
        have hbl : (b.length : Int) ≤ 1048576 := by have := HI.out.bl; have := HLM.out.2; omega
        have hlim2 : lim ≤ 1048576 := HLM.out.2
        have hsw : w.heap.size ≤ wx.heap.size := by omega
        clear k0 k1 k2 k3 k4 k5 k6 k7 HPA HPB HKS LN hO2 hbx
        by_cases hroom : (b.length : Int) + (T.length : Int) ≤ lim
        · have HN : Hid _ := hide (fun (w6 : World) (g c : Nat) => IX.out.room (w6 := w6) (g := g) (c := c) HRK.out HE.out HLE.out HNX.out (by rw [← HT.out]; exact hroom))
          have hroom2 : ¬ lim < (b.length : Int) + (T.length : Int) := by omega
          go_wp2_with (at_builtin; refine row_lies wx rfl _ _ rfl w.heap.size (.slice av b.length cv) b.length b rfl IX.out.own ⟨g2, 0, none⟩ T.length c2 T rfl hrow.out (by omega) (by omega) hsw ?_; intro g6 c6 w6 o6 gr6 l6; have LN6 := (gr6.block _ (lt_of_heap HLN.out) (fun e => own_ne_cells IX.out.own HLN.out (by decide) e.symm)).trans HLN.out; have LS6 := (gr6.block _ (lt_of_heap IX.out.st) (fun e => own_ne_cells IX.out.own IX.out.st (by decide) e.symm)).trans IX.out.st; have O6 : Hid _ := hide o6; have G6 : Hid _ := hide gr6; have L6 : Hid _ := hide l6; obtain ⟨y0, y1, y2⟩ := z3_cells LS6; obtain ⟨n0, n1, n2⟩ := z3_cells LN6; have f0 := frz LS6 0; have f1 := frz LS6 1; have f2 := frz LS6 2; have hne : ¬ w.heap.size = nb := (by omega); have hne2 : ¬ nb = w.heap.size := (by omega); clear o6 gr6 l6 LN6 LS6)
          have I7 := HN.out w6 g6 c6
          rw [← HT.out] at I7
          have I8 := I7 O6.out G6.out L6.out
          exact ⟨⟨k + 1, ao, co, out, vals, b ++ T, _, some ⟨g6, 0, none⟩, c6, t + 1, by go_num, by omega, rfl, by rw [List.length_append], I8⟩, by simp [intOf]; omega⟩
        · have hroom2 : lim < (b.length : Int) + (T.length : Int) := by omega
          have HRM : Hid _ := hide hroom2
          have hol : (out.length : Int) ≤ 1048576 := by have := HI.out.ok; have := HI.out.kl; have := HI.out.lm; omega
          go_wp2_with (at_builtin; refine append_lst _ rfl _ _ rfl w.heap.size (.slice ao out.length co) out.length vals rfl (IX.out.ls.own.alloc _) wx.heap.size (.slice av b.length cv) rfl (cell_new1 _ _ _) rfl (by omega) (by simp; omega) ?_; intro a5 c5 w5 o5 gr5 l5; have k5 : But (fun k => (Value.slice ao out.length co).ownBlock = some k) wx w5 := (But.refl _ wx).alloc _ |>.grown gr5 (fun k _ e => e); have hB5 : Below w.heap.size w w5 := IX.out.bel.trans (k5.below hsw (fun g' e => (IX.out.ls.own.lt g' e).1)); obtain ⟨x0, x1, x2, x3, x4⟩ := HREC.out w5 hB5; have LN5 := (k5.block _ (lt_of_heap HLN.out) (fun e => own_ne_cells IX.out.ls.own HLN.out (by decide) e)).trans HLN.out; have st5 := (k5.block _ (lt_of_heap IX.out.st) (fun e => own_ne_cells IX.out.ls.own IX.out.st (by decide) e)).trans IX.out.st; have O5 : Hid _ := hide o5; have G5 : Hid _ := hide gr5; have HLN5 : Hid _ := hide LN5; have HST5 : Hid _ := hide st5; have HB5 : Hid _ := hide hB5; have hs5 := k5.size; clear o5 gr5 l5 LN5 st5 hB5 k5)
          have HP2 := rput_n 0 0 0 t kd o ar q w5 HE.out HRO.out
          have hT0 := text_len HE.out HRO.out
          have HM0 : Hid _ := hide (text_mem HE.out)
          obtain ⟨T0, hT0e⟩ : ∃ T0, T0 = text St.zero ⟨t, kd, o, ar, q⟩ := ⟨_, rfl⟩
          have HP2' : Calls Tryd.prog 51 #[.agg #[.int .i64 0, .int .u64 0, .int .i64 0], .agg #[.int .i64 t, .int .i64 kd, .int .u64 o, .int .u64 ar, .int .i64 q]] w5 fun e w' => ∃ g c, e = .returned (.tuple #[.slice (some ⟨g, 0, none⟩) T0.length c, .agg #[.int .i64 (t + 1), .int .u64 o, .int .i64 q], .int .i64 0]) ∧ w5.heap.size ≤ g ∧ w'.ownsRow w5.heap.size 5 1 (.slice (some ⟨g, 0, none⟩) T0.length c) T0.length (T0.map (Value.int .u8)) ∧ Below w5.heap.size w5 w' := by rw [hT0e]; exact HP2
          rw [← hT0e] at hT0 HM0
          have HT0 : Hid _ := hide hT0e
          clear HP2 hT0e
          refine HP2'.mono ?_
          rintro e w7 ⟨g7, c7, rfl, hg7, hO7, hb7⟩
          have hs7 := hb7.size
          have LN7 := (hb7.block _ (lt_of_heap HLN5.out)).trans HLN5.out
          have st7 := (hb7.block _ (lt_of_heap HST5.out)).trans HST5.out
          obtain ⟨n0, n1, n2⟩ := z3_cells LN7
          have f0 := frz LN7 0
          have f1 := frz LN7 1
          have f2 := frz LN7 2
          have hne : ¬ w.heap.size = nb := by omega
          have hne2 : ¬ nb = w.heap.size := by omega
          obtain ⟨w8, hw8⟩ : ∃ w8, w8 = ((w7.setCell ⟨nb, 0, none⟩ (.int .i64 (t + 1))).setCell ⟨nb, 1, none⟩ (.int .u64 o)).setCell ⟨nb, 2, none⟩ (.int .i64 q) := ⟨_, rfl⟩
          have LN8 : w8.heap[nb]? = some (.cells #[.int .i64 (t + 1), .int .u64 o, .int .i64 q] 48 (0, 0)) := by rw [hw8]; exact set3_heap LN7
          have st8 := (show w8.heap[w.heap.size]? = w7.heap[w.heap.size]? by rw [hw8]; exact set3_far hne).trans st7
          have o8 : w8.ownsRow w5.heap.size 5 1 (.slice (some ⟨g7, 0, none⟩) T0.length c7) T0.length (T0.map (Value.int .u8)) := by rw [hw8]; exact own_setS hO7 LN7 _ _ _
          have b78 : But (fun g => g = nb) w7 w8 := by rw [hw8]; exact (((But.refl (fun g => g = nb) w7).setCell ⟨nb, 0, none⟩ (fun _ => rfl) _).setCell ⟨nb, 1, none⟩ (fun _ => rfl) _).setCell ⟨nb, 2, none⟩ (fun _ => rfl) _
          have HR8 : Hid _ := hide (own_row_u8 o8 (u8_of_mem HM0.out))
          have b58 : Hid (But (fun g => g = nb) w5 w8) := hide ((But.of_below (S := fun g => g = nb) hb7).trans b78 (fun _ _ e => e))
          have hs8 := b58.out.size
          have HLN8 : Hid _ := hide LN8
          have HST8 : Hid _ := hide st8
          have Hw8 : Hid _ := hide hw8
          clear hw8 LN8 st8 o8 b78 LN7 st7 hO7 hb7
          go_wp2_with (at_builtin; rw [← Hw8.out]; refine row_lies w8 rfl _ _ rfl w.heap.size (.slice none 0 0) 0 [] rfl (World.ownsRow_nil _ _ _ _) ⟨g7, 0, none⟩ T0.length c7 T0 rfl HR8.out (by omega) (by omega) (by omega) ?_; intro g9 c9 w9 o9 gr9 l9; have LN9 := (gr9.block _ (lt_of_heap HLN8.out) (fun e => by cases e)).trans HLN8.out; have LS9 := (gr9.block _ (lt_of_heap HST8.out) (fun e => by cases e)).trans HST8.out; have O9 : Hid _ := hide o9; have G9 : Hid _ := hide gr9; have L9 : Hid _ := hide l9; obtain ⟨y0, y1, y2⟩ := z3_cells LS9; obtain ⟨m0, m1, m2⟩ := z3_cells LN9; have e0 := frz LS9 0; have e1 := frz LS9 1; have e2 := frz LS9 2; clear o9 gr9 l9 LN9 LS9)
          have o9 := O9.out
          rw [Nat.zero_add, List.nil_append, HT0.out] at o9
          have hg9 : w5.heap.size ≤ g9 := by
            rcases L9.out with e | e
            · cases e
            · omega
          have I9 := IX.out.full HRK.out HE.out HRO.out HLE.out HNX.out HLM.out.1 (by rw [← HT.out]; exact HRM.out) O5.out G5.out HLN5.out hne (by omega) (b58.out.grown G9.out (fun _ _ e => by cases e)) o9 hg9
          rw [← HT0.out] at I9
          exact ⟨⟨k + 1, a5, c5, out ++ [b], _, T0, _, some ⟨g9, 0, none⟩, c9, t + 1, by go_num, by omega, by rw [List.length_append]; rfl, rfl, I9⟩, by simp [intOf]; omega⟩
    · have hd : L.drop k = [] := List.drop_eq_nil_of_le (by have := HLL.out; omega)
      by_cases hb0 : b = []
      · have HC : Hid (cutS lim.toNat [] St.zero L = out) := hide (by rw [HI.out.cut, hd, cutS, if_pos hb0, List.append_nil])
        have hbl0 : ¬ (0 : Int) < (b.length : Int) := by rw [hb0]; simp
        clear hd hb0 hI
        go_wp2
        go_ret
        rw [HC.out]
        refine ⟨HI.out.bel, ?_⟩
        first | exact ⟨ao, co, vals, rfl, HI.out.ls⟩ | exact ⟨ao, co, rfl, vals, HI.out.ls⟩
      · have hbp : 0 < b.length := List.length_pos_iff.2 hb0
        have hbpI : (0 : Int) < (b.length : Int) := by omega
        have HC : Hid (cutS lim.toNat [] St.zero L = out ++ [b]) := hide (by rw [HI.out.cut, hd, cutS, if_neg hb0])
        have hol : (out.length : Int) ≤ 1048576 := by have := HI.out.ok; have := HI.out.kl; have := HI.out.lm; omega
        clear hd hb0 hI
        go_wp2_with (at_builtin; refine append_lst _ rfl _ _ rfl w.heap.size (.slice ao out.length co) out.length vals rfl (HI.out.ls.own.alloc _) wr.heap.size (.slice av b.length cv) rfl (cell_new1 _ _ _) rfl (by omega) (by simp; omega) ?_; intro a5 c5 w5 o5 gr5 l5; have O5 : Hid _ := hide o5; have G5 : Hid _ := hide gr5; clear o5 gr5 l5)
        go_ret
        have k5 : But (fun k => (Value.slice ao out.length co).ownBlock = some k) wr w5 := (But.refl _ wr).alloc _ |>.grown G5.out (fun k _ e => e)
        rw [HC.out, List.length_append]
        exact ⟨HI.out.bel.trans (k5.below hsz (fun g' e => (HI.out.ls.own.lt g' e).1)), a5, c5, _, rfl, HI.out.ls.snocG HI.out.own HI.out.fresh HI.out.u8 O5.out G5.out⟩
end Go.Proofs.YtamoioebgnmcaaaDoor
