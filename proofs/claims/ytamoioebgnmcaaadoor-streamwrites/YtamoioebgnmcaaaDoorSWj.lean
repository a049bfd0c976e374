/-
  Flush and Held of a writer and of the document's beside it.
-/
import Derived.Test.YtamoioebgnmcaaaDoorSWi
namespace Go.Proofs.YtamoioebgnmcaaaDoor
open Go.RowKit
section
variable {B p q C Bn cv rc : Nat} {w : World} {lim least : Int} {cur : List Rc} {av ra : Option Addr}
theorem WP.pos (h : WP B w p q lim cur C Bn av cv ra rc least) : 0 < Bn ↔ 0 < C := by
  rw [← h.bn, ← h.cl]
  constructor
  · intro e
    refine Nat.pos_of_ne_zero (fun e0 => ?_)
    rw [List.length_eq_zero_iff.1 e0] at e
    simp [encs] at e
  · intro e
    refine Nat.pos_of_ne_zero (fun e0 => ?_)
    exact h.part.pos (fun e9 => by rw [e9] at e; simp at e) (List.length_eq_zero_iff.1 e0)
theorem Row.none0 (w : World) (a : Option Addr) : Row w a 0 [] := ⟨rfl, by intro i; simp, .inl rfl⟩
set_option maxHeartbeats 1600000 in
theorem flush_wp (h : WP B w p q lim cur C Bn av cv ra rc least) (hlim : 64 ≤ lim ∧ lim ≤ 1048576) :
    Calls Tryd.prog 26 #[.pointer (some ⟨p, 0, none⟩)] w fun e w1 => ∃ xa xn xc zs, e = .returned (.slice xa xn xc) ∧ But (WM p q av Bn cv ra C rc) w w1 ∧
      ∀ W, Below w1.heap.size w1 W → Calls Tryd.prog 34 #[.pointer (some ⟨q, 0, none⟩)] W fun e2 w2 => ∃ ya yc cur' C' Bn' av' cv' ra' rc' least', e2 = .returned (.slice ya xn yc) ∧ Done B (WM p q av Bn cv ra C rc) w.heap.size W w2 p q lim xa xn xc ya zs cur' C' Bn' av' cv' ra' rc' least' := by
  have hne := h.ne
  refine (flush_any h.wri (own_capL h.own)).mono ?_
  rintro e w1 ⟨rfl, hW1, hb1⟩
  refine ⟨av, Bn, Bn, encs St.zero cur, rfl, hb1.mono (fun z e => .inl e), fun W hW => ?_⟩
  have q1 := (hb1.block q (lt_of_heap h.rwi) (fun e => hne.1 (e : q = p).symm)).trans h.rwi
  have q2 := (hW.block q (lt_of_heap q1)).trans q1
  have p1 := (hW.block p (lt_of_heap hW1)).trans hW1
  have o1 := own_below (own_but h.ro hb1 (fun z hz e => hne.2.2.2.1 (by rw [← (e : z = p)]; exact hz))) hW
  have v1 := own_below (own_but h.own hb1 (fun z hz e => hne.2.1 (by rw [← (e : z = p)]; exact hz))) hW
  have hsz : B ≤ W.heap.size := Nat.le_trans h.size (Nat.le_trans hb1.size hW.size)
  have hl0 : 0 ≤ least := by have := h.cle; omega
  by_cases hC : C = 0
  · have hB0 : Bn = 0 := by have := h.pos; omega
    have hcur : cur = [] := List.length_eq_zero_iff.1 (by rw [h.cl]; exact hC)
    subst hC; subst hB0; subst hcur
    refine (rwflush_0 q2).mono ?_
    rintro e2 w2 ⟨rfl, rfl⟩
    exact ⟨none, 0, [], 0, 0, none, 0, ra, rc, least, rfl, ⟨rfl, rfl, p1, World.ownsRow_nil _ _ _ _, q2, o1, Part.nil hlim.1, hl0, hl0, hl0, h.lm, hsz, h.pge⟩, But.refl _ _, Row.none0 _ _, Row.none0 _ _, .inl rfl, fun z hz => .inl (by
      rcases hz with e | e | e | e
      · exact .inl e
      · exact .inr (.inl e)
      · cases e
      · exact .inr (.inr (.inr e))), .inl rfl, by decide⟩
  · have hC0 : 0 < C := by omega
    have hB0 : 0 < Bn := h.pos.2 hC0
    have hcne : cur ≠ [] := fun e => by have := h.cl; rw [e] at this; simp at this; omega
    obtain ⟨gv, cv', e9, _, _⟩ := own_some h.own hB0
    cases e9
    have hR := rwflush_1 q2 o1 h.part hcne hlim
    rw [h.bn] at hR
    refine hR.mono ?_
    rintro e2 w2 ⟨ai, ci, rfl, ry, hq2, hb2⟩
    have p2 := (hb2.block p (lt_of_heap p1) (fun e => hne.1 (e : p = q))).trans p1
    have v2 := own_but v1 hb2 (fun z hz e => hne.2.2.1 (by rw [← (e : z = q)]; exact hz))
    obtain ⟨cs, hcs1, hcs2, hcs3⟩ := own_spo v2
    have hNM : ¬ WM p q none 0 0 none 0 0 gv := fun hm => by
      rcases hm with e | e | e | e
      · exact hne.2.1 (by rw [e]; rfl)
      · exact hne.2.2.1 (by rw [e]; rfl)
      · cases e
      · cases e
    exact ⟨ai, ci, [], 0, 0, none, 0, none, 0, least, rfl, ⟨rfl, rfl, p2, World.ownsRow_nil _ _ _ _, hq2, World.ownsRow_nil _ _ _ _, Part.nil hlim.1, hl0, hl0, hl0, h.lm, Nat.le_trans hsz hb2.size, h.pge⟩, hb2.mono (fun z e => .inr (.inl e)), own_row_u8 v2 (u8_of_mem h.part.u8), ry, .inr ⟨gv, cs, rfl, hcs1, hcs2, hcs3, hNM, Nat.le_refl _⟩, fun z hz => .inl (by
      rcases hz with e | e | e | e
      · exact .inl e
      · exact .inr (.inl e)
      · cases e
      · cases e), .inr ⟨gv, rfl, .inr (.inr (.inl rfl))⟩, by have h8 := h.part.len; have h9 := hlim.2; rw [h.bn] at h8; omega⟩
end
set_option maxHeartbeats 800000 in
theorem wput_nil (t k o a q : Int) (w : World) : Calls Tryd.prog 28 #[.pointer none, .agg #[.int .i64 t, .int .i64 k, .int .u64 o, .int .u64 a, .int .i64 q]] w fun e w' => e = .returned (.tuple #[.slice none 0 0, .int .i64 1]) ∧ Below w.heap.size w w' := by
  go_enter_defers Tryd.func28, Tryd.ntmps28
  go_wp2
  simp [bodyPostD, Leaves, results, Tryd.results28, go_sem]
  exact (below_alloc2 _ _ _).alloc (by simp; omega) _
end Go.Proofs.YtamoioebgnmcaaaDoor
