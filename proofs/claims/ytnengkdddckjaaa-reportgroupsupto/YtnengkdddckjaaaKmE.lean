/-
  pairOf.
-/
import Derived.Test.YtnengkdddckjaaaKmD
namespace Go.Proofs.Ytnengkdddckjaaa
open Go.RowKit Go.Maps
set_option linter.unusedVariables false
/-- What pairOf answers. -/
def PoR (es : List E6.Ev) (w0 : World) (v : Sw) (F : List ByteArray) (S : List (Int × Int)) (K : Nat) (xs ys : List ByteArray) (w : World) (e : Ending) (w' : World) : Prop :=
  ∃ F' S' s t, e = .returned (.agg #[.int .i64 (min s t), .int .i64 (max s t)]) ∧ Sh es w0 v w' F' S' K ∧ F <+: F' ∧ S <+: S' ∧ Nm F' S' xs s ∧ Nm F' S' ys t ∧ But v.bl w w'
/-- Both calls, in one order or the other. -/
def TwR (es : List E6.Ev) (w0 : World) (v : Sw) (F : List ByteArray) (S : List (Int × Int)) (K : Nat) (xs ys : List ByteArray) (w w' : World) (s t : Int) : Prop :=
  ∃ F' S', Sh es w0 v w' F' S' K ∧ F <+: F' ∧ S <+: S' ∧ Nm F' S' xs s ∧ Nm F' S' ys t ∧ But v.bl w w'
theorem results_cell1 {P : Program} {fn : Func} {p : Tmp} {ty : TypeId} (h : fn.results = #[.cell p ty]) (tmps : Array Value) (w : World) (g : Nat) (t : TypeId) (cs : Array Value) (fr : Nat × Nat) (d : TypeDesc)
    (hp : tmps.getD p undef = .pointer (some ⟨g, 0, none⟩)) (hg : w.heap[g]? = some (.cells cs t fr))
    (hu : P.underlying ty = some d) (hd : (match d with | .struct _ | .array _ _ => true | _ => false) = true) (hi : (P.info? ty).map (·.size) = some cs.size) :
    (results fn tmps).run P w = .ok (.agg cs) w := by
  have hp' : tmps[p]?.getD undef = .pointer (some ⟨g, 0, none⟩) := by simpa using hp
  simp [results, h, hp', asAddr, run_loadVar_row w g t ty cs fr d hg hu hd hi]
theorem po_fin {es : List E6.Ev} {w0 : World} {V : Sw} {F F1 F2 : List ByteArray} {S S1 S2 : List (Int × Int)} {K : Nat} {xs ys : List ByteArray} {w W X X' : World} {s t : Int} {u v : Int} {b : Nat}
    (hb : w.heap.size ≤ b) (hbl : ∀ q, V.bl q → q < w.heap.size) (hW : Below w.heap.size w W) (hX : But V.bl W X) (h : Sh es w0 V X F2 S2 K) (h1 : F <+: F1 ∧ S <+: S1 ∧ Nm F1 S1 xs s) (h2 : F1 <+: F2 ∧ S1 <+: S2 ∧ Nm F2 S2 ys t)
    (hu : u = min s t) (hv : v = max s t) (hX' : But (fun q => q = b) X X') : PoR es w0 V F S K xs ys w (.returned (.agg #[.int .i64 u, .int .i64 v])) X' := by
  refine ⟨F2, S2, s, t, by rw [hu, hv], ?_, h1.1.trans h2.1, h1.2.1.trans h2.2.1, h1.2.2.mono h2.1 h2.2.1, h2.2.2, ?_⟩
  · obtain ⟨k, f, k1, k2, k3⟩ := h.ev
    have hbn : ∀ q, V.bl q → ¬ q = b := fun q hq e => by have := hbl q hq; omega
    have h0 : w0.heap.size ≤ b := Nat.le_trans (Nat.le_of_lt (Nat.lt_of_le_of_lt h.g1 (hbl _ (.inl rfl)))) hb
    exact { h with
      bel := h.bel.trans (hX'.below h.bel.size (fun q e => by rw [e]; exact h0))
      nf := h.nf.but hX' (hbn _ (.inl rfl))
      ns := h.ns.but hX' (hbn _ (.inr (.inl rfl)))
      ev := ⟨k, f, k1.but hX' (hbn _ (.inr (.inr rfl))), k2, k3⟩ }
  · exact ((But.of_below hW).trans hX (fun _ _ e => e)).trans hX' (fun q hq e => by omega)
set_option maxRecDepth 8000 in
set_option maxHeartbeats 4000000 in
theorem pairOf_any (es : List E6.Ev) (w0 : World) (v : Sw) (F : List ByteArray) (S : List (Int × Int)) (K M : Nat) (p q : Nat) (d e : E6.Ev) (w : World) (h : Sh es w0 v w F S K) (hn : v.n ≤ 140737488355328) (hd : es[p]? = some d) (he : es[q]? = some e) (hok : ∀ f ∈ es, f.ok) (hM : ∀ f ∈ es, f.ls.length + 1 ≤ M) (hK : K + M + M ≤ 70368744177664) :
    Calls Try.prog 17 #[v.v, .agg #[.int .i64 (p : Int), .int .i64 (q : Int)]] w (PoR es w0 v F S (K + M + M) d.ls e.ls w) := by
  obtain ⟨a, n, c, m1, m2, m3⟩ := v
  obtain ⟨W, hW⟩ : ∃ W, W = ((w.alloc (.cells #[.slice a n c, .map (some m1), .map (some m2), .map (some m3)] 48)).alloc (.cells #[.int .i64 (p : Int), .int .i64 (q : Int)] 33)).alloc (.cells #[.int .i64 0, .int .i64 0] 51) := ⟨_, rfl⟩
  have HW := hide hW
  obtain ⟨V, hV⟩ : ∃ V : Sw, V = ⟨a, n, c, m1, m2, m3⟩ := ⟨_, rfl⟩
  rw [← hV] at h
  have hlt9 : ∀ q, V.bl q → q < w.heap.size := fun q hq => h.bl_lt hq
  obtain ⟨Bl, hBl⟩ : ∃ Bl, V.bl = Bl := ⟨_, rfl⟩
  have hbW : Below w.heap.size w W := by rw [hW]; exact ((below_alloc2 w _ _).trans ((below_alloc1 _ _).mono (by simp; omega)))
  have hS := h.below hbW
  have hA : W.heap[w.heap.size]? = some (.cells #[.slice a n c, .map (some m1), .map (some m2), .map (some m3)] 48 (0, 0)) := by
    rw [hW]
    exact ((below_alloc2 (w.alloc (.cells #[.slice a n c, .map (some m1), .map (some m2), .map (some m3)] 48)) _ _).block _ (by simp)).trans (heap_new _ _)
  have hR : W.heap[w.heap.size + 1]? = some (.cells #[.int .i64 (p : Int), .int .i64 (q : Int)] 33 (0, 0)) := by
    rw [hW]
    exact ((below_alloc1 _ _).block _ (by simp)).trans (heap_new2 _ _ _)
  have hO : W.heap[w.heap.size + 1 + 1]? = some (.cells #[.int .i64 0, .int .i64 0] 51 (0, 0)) := by
    rw [hW]
    have := heap_new ((w.alloc (.cells #[.slice a n c, .map (some m1), .map (some m2), .map (some m3)] 48)).alloc (.cells #[.int .i64 (p : Int), .int .i64 (q : Int)] 33)) (.cells #[.int .i64 0, .int .i64 0] 51)
    simpa using this
  have HN := hide (fun (X : World) (q : Nat) (hq : q < W.heap.size) (hge : w.heap.size ≤ q) (hX : But Bl W X) => hX.block q hq (fun e => by have := hlt9 q (by rw [hBl]; exact e); omega))
  have HSL : Hid (∀ X, But Bl W X → X.cell? ⟨w.heap.size, 0, none⟩ = some (.slice a n c) ∧ X.cell? ⟨w.heap.size, 1, none⟩ = some (.map (some m1)) ∧ X.cell? ⟨w.heap.size, 2, none⟩ = some (.map (some m2)) ∧ X.cell? ⟨w.heap.size, 3, none⟩ = some (.map (some m3)) ∧ X.cell? ⟨w.heap.size + 1, 0, none⟩ = some (.int .i64 (p : Int)) ∧ X.cell? ⟨w.heap.size + 1, 1, none⟩ = some (.int .i64 (q : Int))) := hide (fun X hX => by
    have h1 := (HN.out X _ (Array.getElem?_eq_some_iff.1 hA).1 (Nat.le_refl _) hX).trans hA
    have h2 := (HN.out X _ (Array.getElem?_eq_some_iff.1 hR).1 (by omega) hX).trans hR
    exact ⟨cell_at h1 rfl, cell_at h1 rfl, cell_at h1 rfl, cell_at h1 rfl, cell_at h2 rfl, cell_at h2 rfl⟩)
  have HO : Hid (∀ X, But Bl W X → X.heap[w.heap.size + 1 + 1]? = some (.cells #[.int .i64 0, .int .i64 0] 51 (0, 0))) := hide (fun X hX => (HN.out X _ (Array.getElem?_eq_some_iff.1 hO).1 (by omega) hX).trans hO)
  have HBW := hide hbW
  have HC1 : Hid (Calls Try.prog 19 #[.agg #[.slice a n c, .map (some m1), .map (some m2), .map (some m3)], .int .i64 (p : Int)] W.drew (SoR es w0 V F S (K + M) d.ls W.drew)) := hide (by
    have h9 := stackOf_any es w0 V F S K M p d W.drew (hS.below ((Below.refl _ _).drew)) (by rw [hV]; exact hn) hd (hok d (List.mem_of_getElem? hd)) (hM d (List.mem_of_getElem? hd)) (by omega)
    rw [hV] at h9 ⊢
    exact h9)
  have HC2 : Hid (∀ (X : World) (F1 : List ByteArray) (S1 : List (Int × Int)), Sh es w0 V X F1 S1 (K + M) → Calls Try.prog 19 #[.agg #[.slice a n c, .map (some m1), .map (some m2), .map (some m3)], .int .i64 (q : Int)] X (SoR es w0 V F1 S1 (K + M + M) e.ls X)) := hide (fun X F1 S1 hX => by
    have h9 := stackOf_any es w0 V F1 S1 (K + M) M q e X hX (by rw [hV]; exact hn) he (hok e (List.mem_of_getElem? he)) (hM e (List.mem_of_getElem? he)) (by omega)
    rw [hV] at h9 ⊢
    exact h9)
  unfold SoR at HC1 HC2
  rw [hBl] at HC1 HC2
  have HX0 := hide (But.refl Bl W)
  have HX1 := hide ((But.refl Bl W).drew)
  have HBl := hide hBl
  clear h hBl hS hA hR hO hbW hW hd he hok hM HN
  have hP : ∀ e9 w9, PoR es w0 V F S (K + M + M) d.ls e.ls w e9 w9 → PoR es w0 ⟨a, n, c, m1, m2, m3⟩ F S (K + M + M) d.ls e.ls w e9 w9 := fun e9 w9 h9 => by rw [← hV]; exact h9
  have HPo := hide hP
  have HLt := hide hlt9
  clear hV hlt9 hP
  go_enter Try.func17, Try.ntmps17
  go_wp2_with fail
  rw [← HW.out]
  have hu := Try.underlying48
  go_region_held3 (fun X => X.cell? ⟨w.heap.size, 0, none⟩ = some (.slice a n c) ∧ X.cell? ⟨w.heap.size, 1, none⟩ = some (.map (some m1)) ∧ X.cell? ⟨w.heap.size, 2, none⟩ = some (.map (some m2)) ∧ X.cell? ⟨w.heap.size, 3, none⟩ = some (.map (some m3)) ∧ X.cell? ⟨w.heap.size + 1, 0, none⟩ = some (.int .i64 (p : Int)) ∧ X.cell? ⟨w.heap.size + 1, 1, none⟩ = some (.int .i64 (q : Int)))
    (first | with_reducible exact HSL.out _ HX0.out | with_reducible exact HSL.out _ HX1.out | with_reducible exact HSL.out _ HX2.out | with_reducible exact HSL.out _ HX3.out)
    (first | (go_at_call 19; have HC1b := HC1; go_must (refine HC1b.out.mono ?_; rintro e9 X1 ⟨F1, S1, s1, rfl, hS1, hF1, hG1, hN1, hB1⟩; have HX2 : Hid (But Bl W X1) := hide (HX1.out.trans hB1 (fun _ _ e => e)); have HSh1 := hide hS1; have HP1 := hide (And.intro hF1 (And.intro hG1 hN1)); clear hS1 hF1 hG1 hN1 hB1 HC1 HC1b)) | (go_at_call 19; go_must (refine (HC2.out _ _ _ HSh1.out).mono ?_; rintro e9 X2 ⟨F2, S2, s2, rfl, hS2, hF2, hG2, hN2, hB2⟩; have HX3 : Hid (But Bl W X2) := hide (HX2.out.trans hB2 (fun _ _ e => e)); have HSh2 := hide hS2; have HP2 := hide (And.intro hF2 (And.intro hG2 hN2)); clear hS2 hF2 hG2 hN2 hB2)))
  have hO2 := HO.out _ HX3.out
  have o0 := cell_at hO2 (i := 0) rfl
  have o1 := cell_at hO2 (i := 1) rfl
  have f0 := frz hO2 0
  have f1 := frz hO2 1
  have HF := hide (fun (u v : Int) (hu : u = min s1 s2) (hv : v = max s1 s2) (X' : World) (hX' : But (fun q => q = w.heap.size + 1 + 1) X2 X') => HPo.out _ _ (po_fin (b := w.heap.size + 1 + 1) (by omega) HLt.out HBW.out (by rw [HBl.out]; exact HX3.out) HSh2.out HP1.out HP2.out hu hv hX'))
  have HO2 := hide hO2
  clear HSh1 HX2 HX3 HSL HC2 HO hO2
  rcases Int.lt_trichotomy s1 s2 with h | h | h
  · have h1 : ¬ s2 < s1 := by omega
    have h2 : s1 ≤ s2 := by omega
    have h3 : ¬ s2 ≤ s1 := by omega
    have hmn : s1 = min s1 s2 := by omega
    have hmx : s2 = max s1 s2 := by omega
    have HFF := hide (HF.out s1 s2 hmn hmx)
    clear HF hmn hmx
    go_wp2
    refine bodyPost_ret (results_cell1 rfl _ _ (w.heap.size + 1 + 1) 51 #[.int .i64 s1, .int .i64 s2] (0, 0) _ rfl ?_ Try.underlying51 rfl (by kernel_rfl)) rfl ?_
    · exact heap_setCell_same _ _ 1 _ _ _ (heap_setCell_same _ _ 0 _ _ _ HO2.out)
    · exact HFF.out _ (((But.refl (fun q => q = w.heap.size + 1 + 1) X2).setCell ⟨w.heap.size + 1 + 1, 0, none⟩ (fun _ => rfl) _).setCell ⟨w.heap.size + 1 + 1, 1, none⟩ (fun _ => rfl) _)
  · subst h
    have h1 : ¬ s1 < s1 := by omega
    have h2 : s1 ≤ s1 := by omega
    have hmn : s1 = min s1 s1 := by omega
    have hmx : s1 = max s1 s1 := by omega
    have HFF := hide (HF.out s1 s1 hmn hmx)
    clear HF hmn hmx
    go_wp2
    refine bodyPost_ret (results_cell1 rfl _ _ (w.heap.size + 1 + 1) 51 #[.int .i64 s1, .int .i64 s1] (0, 0) _ rfl ?_ Try.underlying51 rfl (by kernel_rfl)) rfl ?_
    · exact heap_setCell_same _ _ 1 _ _ _ (heap_setCell_same _ _ 0 _ _ _ HO2.out)
    · exact HFF.out _ (((But.refl (fun q => q = w.heap.size + 1 + 1) X2).setCell ⟨w.heap.size + 1 + 1, 0, none⟩ (fun _ => rfl) _).setCell ⟨w.heap.size + 1 + 1, 1, none⟩ (fun _ => rfl) _)
  · have h1 : ¬ s1 < s2 := by omega
    have h2 : s2 ≤ s1 := by omega
    have h3 : ¬ s1 ≤ s2 := by omega
    have hmn : s2 = min s1 s2 := by omega
    have hmx : s1 = max s1 s2 := by omega
    have HFF := hide (HF.out s2 s1 hmn hmx)
    clear HF hmn hmx
    go_wp2
    refine bodyPost_ret (results_cell1 rfl _ _ (w.heap.size + 1 + 1) 51 #[.int .i64 s2, .int .i64 s1] (0, 0) _ rfl ?_ Try.underlying51 rfl (by kernel_rfl)) rfl ?_
    · exact heap_setCell_same _ _ 1 _ _ _ (heap_setCell_same _ _ 0 _ _ _ HO2.out)
    · exact HFF.out _ (((But.refl (fun q => q = w.heap.size + 1 + 1) X2).setCell ⟨w.heap.size + 1 + 1, 0, none⟩ (fun _ => rfl) _).setCell ⟨w.heap.size + 1 + 1, 1, none⟩ (fun _ => rfl) _)
end Go.Proofs.Ytnengkdddckjaaa
