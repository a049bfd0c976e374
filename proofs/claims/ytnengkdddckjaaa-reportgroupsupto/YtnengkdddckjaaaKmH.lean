/-
  grouped: what lies in memory, and its steps.
-/
import Derived.Test.YtnengkdddckjaaaKmG
namespace Go.Proofs.Ytnengkdddckjaaa
open Go.RowKit Go.Maps
set_option linter.unusedVariables false
theorem KM.map {κ : Type} {y : KY κ} {w : World} {b n : Nat} {f : κ → Option Int} (h : KM y w b n f) : ∃ es cl, w.heap[b]? = some (.map es cl) := by
  obtain ⟨D, ⟨es, cl, h1, _⟩, _⟩ := h
  exact ⟨es, cl, h1⟩
theorem Sh.map {es : List E6.Ev} {w0 w : World} {v : Sw} {F : List ByteArray} {S : List (Int × Int)} {K q : Nat} (h : Sh es w0 v w F S K) (hq : v.bl q) : ∃ es cl, w.heap[q]? = some (.map es cl) := by
  rcases hq with rfl | rfl | rfl
  · exact h.nf.km.map
  · exact h.ns.km.map
  · obtain ⟨k, f, h1, _⟩ := h.ev
    exact h1.map
structure Gr (es : List E6.Ev) (w0 : World) (V : Sw) (gb b8 : Nat) (w : World) (F : List ByteArray) (S : List (Int × Int)) (K : Nat) (L G : List (Int × Int)) (C : List Int) (fv cv : Value) : Prop where
  sh : Sh es w0 V w F S K
  ng : NM yP w gb L
  of : Own sR 33 w w0.heap.size fv G
  oc : Own sI 3 w w0.heap.size cv C
  b8h : w.heap[b8]? = some (.cells #[.slice V.a V.n V.c, .map (some V.m1), .map (some V.m2), .map (some V.m3)] 48 (0, 0))
  gb0 : w0.heap.size ≤ gb
  gbn : ¬ V.bl gb
section
variable {es : List E6.Ev} {w0 w w' : World} {V : Sw} {gb b8 : Nat} {F F' : List ByteArray} {S S' : List (Int × Int)} {K K' : Nat} {L L' G G' : List (Int × Int)} {C C' : List Int} {fv cv fv' cv' : Value}
theorem Gr.below (h : Gr es w0 V gb b8 w F S K L G C fv cv) (hb : Below w.heap.size w w') : Gr es w0 V gb b8 w' F S K L G C fv cv :=
  ⟨h.sh.below hb, h.ng.below hb, h.of.below hb, h.oc.below hb, (hb.block _ (Array.getElem?_eq_some_iff.1 h.b8h).1).trans h.b8h, h.gb0, h.gbn⟩
theorem Gr.po (h : Gr es w0 V gb b8 w F S K L G C fv cv) (hs : Sh es w0 V w' F' S' K') (hb : But V.bl w w') : Gr es w0 V gb b8 w' F' S' K' L G C fv cv := by
  refine ⟨hs, h.ng.but hb h.gbn, h.of.but hb (fun g hg hq => ?_), h.oc.but hb (fun g hg hq => ?_), (hb.block _ (Array.getElem?_eq_some_iff.1 h.b8h).1 (fun hq => ?_)).trans h.b8h, h.gb0, h.gbn⟩
  · obtain ⟨a, b, e⟩ := h.sh.map hq
    exact own_not_map h.of e hg
  · obtain ⟨a, b, e⟩ := h.sh.map hq
    exact own_not_map h.oc e hg
  · obtain ⟨a, b, e⟩ := h.sh.map hq
    rw [h.b8h] at e
    cases e
theorem Sh.other (h : Sh es w0 V w F S K) (hb : But (fun q => q = gb) w w') (h0 : w0.heap.size ≤ gb) (hn : ¬ V.bl gb) : Sh es w0 V w' F S K := by
  obtain ⟨k, f, k1, k2, k3⟩ := h.ev
  exact { h with
    bel := h.bel.trans (hb.below h.bel.size (fun q e => by rw [e]; exact h0))
    nf := h.nf.but hb (fun e => hn (.inl e.symm))
    ns := h.ns.but hb (fun e => hn (.inr (.inl e.symm)))
    ev := ⟨k, f, k1.but hb (fun e => hn (.inr (.inr e.symm))), k2, k3⟩ }
theorem Gr.nu (h : Gr es w0 V gb b8 w F S K L G C fv cv) (hn : NM yP w' gb L') (hb : But (fun q => q = gb) w w') : Gr es w0 V gb b8 w' F S K L' G C fv cv := by
  obtain ⟨a, b, e⟩ := h.ng.km.map
  refine ⟨h.sh.other hb h.gb0 h.gbn, hn, h.of.but hb (fun g hg hq => ?_), h.oc.but hb (fun g hg hq => ?_), (hb.block _ (Array.getElem?_eq_some_iff.1 h.b8h).1 (fun hq => ?_)).trans h.b8h, h.gb0, h.gbn⟩
  · subst hq
    exact own_not_map h.of e hg
  · subst hq
    exact own_not_map h.oc e hg
  · subst hq
    rw [h.b8h] at e
    cases e
/-- A row of one's own was written: not the maps, not the shelf's box. -/
theorem Gr.rows {B : Nat → Prop} (h : Gr es w0 V gb b8 w F S K L G C fv cv) (hb : But B w w') (hB : ∀ q, q < w.heap.size → B q → fv.ownBlock = some q ∨ cv.ownBlock = some q) (hf : Own sR 33 w' w0.heap.size fv' G') (hc : Own sI 3 w' w0.heap.size cv' C') :
    Gr es w0 V gb b8 w' F S K L G' C' fv' cv' := by
  have hnm : ∀ q a b, w.heap[q]? = some (.map a b) → ¬ B q := fun q a b e hq => by
    rcases hB q (Array.getElem?_eq_some_iff.1 e).1 hq with h1 | h1
    · exact own_not_map h.of e h1
    · exact own_not_map h.oc e h1
  have hg : ∀ q, q < w0.heap.size → ¬ B q := fun q hq h9 => by
    rcases hB q (Nat.lt_of_lt_of_le hq h.sh.bel.size) h9 with h1 | h1
    · have := (h.of.lt q h1).1; omega
    · have := (h.oc.lt q h1).1; omega
  have hbel : Below w0.heap.size w0 w' := h.sh.bel.trans ⟨hb.os, hb.tape, hb.output, hb.size, fun q hq => hb.block q (Nat.lt_of_lt_of_le hq h.sh.bel.size) (hg q hq)⟩
  obtain ⟨k, f, k1, k2, k3⟩ := h.sh.ev
  obtain ⟨a1, b1, e1⟩ := h.sh.nf.km.map
  obtain ⟨a2, b2, e2⟩ := h.sh.ns.km.map
  obtain ⟨a3, b3, e3⟩ := k1.map
  obtain ⟨a4, b4, e4⟩ := h.ng.km.map
  refine ⟨{ h.sh with bel := hbel, nf := h.sh.nf.but hb (hnm _ _ _ e1), ns := h.sh.ns.but hb (hnm _ _ _ e2), ev := ⟨k, f, k1.but hb (hnm _ _ _ e3), k2, k3⟩ }, h.ng.but hb (hnm _ _ _ e4), hf, hc, (hb.block _ (Array.getElem?_eq_some_iff.1 h.b8h).1 (fun hq => ?_)).trans h.b8h, h.gb0, h.gbn⟩
  rcases hB _ (Array.getElem?_eq_some_iff.1 h.b8h).1 hq with h1 | h1
  · exact own_ne_cells h.of h.b8h (by decide) h1
  · exact own_ne_cells h.oc h.b8h (by decide) h1
/-- The two rows are not one. -/
theorem Gr.apart (h : Gr es w0 V gb b8 w F S K L G C fv cv) {q : Nat} (h1 : fv.ownBlock = some q) : cv.ownBlock ≠ some q := fun h2 => by
  obtain ⟨a, e⟩ := own_ty h.of h1
  exact own_ne_cells h.oc e (by decide) h2
end
theorem infoR : (Try.prog.info? 33).map (fun i => (i.zero, i.size, i.bytes)) = some (some (.agg #[.int .i64 0, .int .i64 0]), 2, 16) := by kernel_rfl
theorem infoI : (Try.prog.info? 3).map (fun i => (i.zero, i.size, i.bytes)) = some (some (.int .i64 0), 1, 8) := by kernel_rfl
end Go.Proofs.Ytnengkdddckjaaa
