import Derived.Test.YtafkammiehcdjaaGreatDoorZa26
/-
  The document's questions of counters, onces and memory.
-/
namespace Go.Proofs.YtafkammiehcdjaaGreatDoor
open Go.RowKit Go.Maps
set_option linter.unusedVariables false
set_option maxRecDepth 4000 in
set_option maxHeartbeats 1000000 in
theorem rother_14 (ad : Option Addr) (n c : Nat) (es : List E6.Ev) (w : World) (hr : E6.ERow w ad n es) (hn : (n : Int) ≤ 1048576) (hg : ∀ e ∈ es, Eb e.g e.k e.o e.a) (g o a : Int) (s : Value) (he : Eb g 14 o a) :
    Calls Tryz.prog 106 #[.slice ad n c, .agg (evC g 14 o a s)] w fun e w' => e = .returned (.int .i64 (ofOt (es.map me) ⟨g, 14, o, a⟩)) ∧ Below w.heap.size w w' := by
  obtain ⟨W, hW⟩ : ∃ W, W = w.alloc (.cells (evC g 14 o a s) 36) := ⟨_, rfl⟩
  have hb : Below w.heap.size w W := by rw [hW]; exact below_alloc1 w _
  have hE : W.heap[w.heap.size]? = some (.cells (evC g 14 o a s) 36 (0, 0)) := by rw [hW]; exact heap_new _ _
  obtain ⟨p0, p1, p2, p3, p4⟩ := evc0 hE
  obtain ⟨R, hR⟩ : ∃ R : Int, R = ofOt (es.map me) ⟨g, 14, o, a⟩ := ⟨_, rfl⟩
  rw [← hR]
  have HR := hide hR
  have HB := hide hb
  have HW := hide hW
  have HE := hide (hr.bel hb)
  have HG := hide hg
  have HO := hide he
  have hleW : w.heap.size < W.heap.size := (Array.getElem?_eq_some_iff.1 hE).1
  clear hr hb hW hR hE hg he
  unfold evC
  unfold evC at HW
  have HQ1 : Hid (∀ j, Calls Tryz.prog 141 #[.slice ad n c, .int .u64 o] (W.drewN j) fun e w' => e = .returned (.int .i64 (cnZ (es.map me) o)) ∧ w' = W.drewN j) := hide (fun j => rcounter_any ad n c es (W.drewN j) (HE.out.bel (below_drewN (Below.refl _ _) j)) hn HG.out o)
  have HQ2 : Hid (∀ j, Calls Tryz.prog 142 #[.int .u64 a] (W.drewN j) fun e w' => e = .returned (.int .i64 (mzag a)) ∧ w' = W.drewN j) := hide (fun j => rzag_any a (W.drewN j) HO.out.ok.a0 (HO.out.ct rfl))
  have hzb := mzag_bd HO.out.ok.a0 (HO.out.ct rfl)
  have hcb := cnZ_bd (T := es.map me) (fun e he hk => by
    obtain ⟨x, hx, rfl⟩ := List.mem_map.1 he
    have h2 := HG.out x hx
    exact ⟨h2.ok.a0, h2.ct hk⟩) o
  rw [List.length_map, HE.out.len] at hcb
  have HRr : Hid (R = if cnZ (es.map me) o + mzag a < 0 ∨ 2147483647 < cnZ (es.map me) o + mzag a then 23 else 0) := hide HR.out
  clear HR
  generalize cnZ (es.map me) o = Z at HQ1 hcb HRr
  generalize mzag a = zz at HQ2 hzb HRr
  have hw1 : IntKind.i64.wrap (Z + zz) = Z + zz := by rw [IntKind.wrap_i64]; omega
  clear hcb hzb
  obtain ⟨V, hV⟩ : ∃ V, V = Z + zz := ⟨_, rfl⟩
  rw [← hV] at hw1 HRr
  have hV2 := hV.symm
  clear hV
  go_enter Tryz.func106, Tryz.ntmps106
  go_wp2_with fail
  rw [← HW.out]
  clear HW
  go_quiet ((first | (go_at_call 141; exact Calls.quiet_of_same (HQ1.out _)) | (go_at_call 142; exact Calls.quiet_of_same (HQ2.out _))))
  by_cases h1 : V < 0
  · have h1b : decide (V < 0) = true := decide_eq_true h1
    have H9 : Hid (R = 23) := hide (by rw [HRr.out, if_pos (.inl h1)])
    clear HRr
    go_wp2
    go_ret
    exact ⟨by rw [H9.out]; rfl, below_drewN HB.out _⟩
  · have h1b : decide (V < 0) = false := decide_eq_false h1
    by_cases h2 : 2147483647 < V
    · have h2b : decide (2147483647 < V) = true := decide_eq_true h2
      have H9 : Hid (R = 23) := hide (by rw [HRr.out, if_pos (.inr h2)])
      clear HRr
      go_wp2
      go_ret
      exact ⟨by rw [H9.out]; rfl, below_drewN HB.out _⟩
    · have h2b : decide (2147483647 < V) = false := decide_eq_false h2
      have H9 : Hid (R = 0) := hide (by rw [HRr.out, if_neg (fun q => q.elim h1 h2)])
      clear HRr
      go_wp2
      go_ret
      exact ⟨by rw [H9.out]; rfl, below_drewN HB.out _⟩
set_option maxRecDepth 4000 in
set_option maxHeartbeats 1000000 in
theorem rother_15 (ad : Option Addr) (n c : Nat) (es : List E6.Ev) (w : World) (hr : E6.ERow w ad n es) (hn : (n : Int) ≤ 1048576) (hg : ∀ e ∈ es, Eb e.g e.k e.o e.a) (g o a : Int) (s : Value) (he : Eb g 15 o a) :
    Calls Tryz.prog 106 #[.slice ad n c, .agg (evC g 15 o a s)] w fun e w' => e = .returned (.int .i64 (ofOt (es.map me) ⟨g, 15, o, a⟩)) ∧ Below w.heap.size w w' := by
  obtain ⟨W, hW⟩ : ∃ W, W = w.alloc (.cells (evC g 15 o a s) 36) := ⟨_, rfl⟩
  have hb : Below w.heap.size w W := by rw [hW]; exact below_alloc1 w _
  have hE : W.heap[w.heap.size]? = some (.cells (evC g 15 o a s) 36 (0, 0)) := by rw [hW]; exact heap_new _ _
  obtain ⟨p0, p1, p2, p3, p4⟩ := evc0 hE
  obtain ⟨R, hR⟩ : ∃ R : Int, R = ofOt (es.map me) ⟨g, 15, o, a⟩ := ⟨_, rfl⟩
  rw [← hR]
  have HR := hide hR
  have HB := hide hb
  have HW := hide hW
  have HE := hide (hr.bel hb)
  have HG := hide hg
  have HO := hide he
  have hleW : w.heap.size < W.heap.size := (Array.getElem?_eq_some_iff.1 hE).1
  clear hr hb hW hR hE hg he
  unfold evC
  unfold evC at HW
  have HQ1 := hide (rcounter_any ad n c es W HE.out hn HG.out o)
  have HRr : Hid (R = if cnZ (es.map me) o = 0 then 0 else 24) := hide HR.out
  clear HR
  generalize cnZ (es.map me) o = Z at HQ1 HRr
  go_enter Tryz.func106, Tryz.ntmps106
  go_wp2_with fail
  rw [← HW.out]
  clear HW
  go_wp2_with fail
  refine HQ1.out.mono ?_
  rintro r w1 ⟨rfl, hw9⟩
  obtain rfl : W = w1 := hw9.symm
  clear HQ1
  by_cases h1 : Z = 0
  · have h1b := bne_f h1
    have H9 : Hid (R = 0) := hide (by rw [HRr.out, if_pos h1])
    clear HRr
    go_wp2
    go_ret
    exact ⟨by rw [H9.out]; rfl, HB.out⟩
  · have h1b := bne_t h1
    have H9 : Hid (R = 24) := hide (by rw [HRr.out, if_neg h1])
    clear HRr
    go_wp2
    go_ret
    exact ⟨by rw [H9.out]; rfl, HB.out⟩
set_option maxRecDepth 4000 in
set_option maxHeartbeats 1000000 in
theorem rother_16 (ad : Option Addr) (n c : Nat) (es : List E6.Ev) (w : World) (hr : E6.ERow w ad n es) (hn : (n : Int) ≤ 1048576) (hg : ∀ e ∈ es, Eb e.g e.k e.o e.a) (g o a : Int) (s : Value) (he : Eb g 16 o a) :
    Calls Tryz.prog 106 #[.slice ad n c, .agg (evC g 16 o a s)] w fun e w' => e = .returned (.int .i64 (ofOt (es.map me) ⟨g, 16, o, a⟩)) ∧ Below w.heap.size w w' := by
  obtain ⟨W, hW⟩ : ∃ W, W = w.alloc (.cells (evC g 16 o a s) 36) := ⟨_, rfl⟩
  have hb : Below w.heap.size w W := by rw [hW]; exact below_alloc1 w _
  have hE : W.heap[w.heap.size]? = some (.cells (evC g 16 o a s) 36 (0, 0)) := by rw [hW]; exact heap_new _ _
  obtain ⟨p0, p1, p2, p3, p4⟩ := evc0 hE
  obtain ⟨R, hR⟩ : ∃ R : Int, R = ofOt (es.map me) ⟨g, 16, o, a⟩ := ⟨_, rfl⟩
  rw [← hR]
  have HR := hide hR
  have HB := hide hb
  have HW := hide hW
  have HE := hide (hr.bel hb)
  have HG := hide hg
  have HO := hide he
  have hleW : w.heap.size < W.heap.size := (Array.getElem?_eq_some_iff.1 hE).1
  clear hr hb hW hR hE hg he
  unfold evC
  unfold evC at HW
  have HQ1 := hide (rtold_any ad n c es W HE.out hn 16 o 1)
  have HRr : Hid (R = if a = 1 ∧ 0 < cnT (es.map me) 16 o 1 then 25 else if a = 0 ∧ ¬ 0 < cnT (es.map me) 16 o 1 then 26 else 0) := hide HR.out
  clear HR
  generalize cnT (es.map me) 16 o 1 = N at HQ1 HRr
  go_enter Tryz.func106, Tryz.ntmps106
  go_wp2_with fail
  rw [← HW.out]
  clear HW
  go_wp2_with fail
  refine HQ1.out.mono ?_
  rintro r w1 ⟨rfl, hw9⟩
  obtain rfl : W = w1 := hw9.symm
  clear HQ1
  by_cases hN : 0 < N
  · have hNb : decide ((0 : Int) < (N : Int)) = true := decide_eq_true (by omega)
    have hNb2 : decide (0 < N) = true := decide_eq_true hN
    by_cases h1 : a = 1
    · have h1b := beq_t h1
      have H9 : Hid (R = 25) := hide (by rw [HRr.out, if_pos ⟨h1, hN⟩])
      clear HRr h1
      go_wp2
      go_ret
      exact ⟨by rw [H9.out]; rfl, HB.out⟩
    · have h1b := beq_f h1
      have H9 : Hid (R = 0) := hide (by rw [HRr.out, if_neg (fun q => h1 q.1), if_neg (fun q => q.2 hN)])
      clear HRr
      by_cases h0 : a = 0
      · have h0b := beq_t h0
        clear h0 h1
        go_wp2
        go_ret
        exact ⟨by rw [H9.out]; rfl, HB.out⟩
      · have h0b := beq_f h0
        clear h0 h1
        go_wp2
        go_ret
        exact ⟨by rw [H9.out]; rfl, HB.out⟩
  · have hNb : decide ((0 : Int) < (N : Int)) = false := decide_eq_false (by omega)
    have hNb2 : decide (0 < N) = false := decide_eq_false hN
    by_cases h0 : a = 0
    · have h0b := beq_t h0
      have h1b : (a == 1) = false := beq_f (by omega)
      have H9 : Hid (R = 26) := hide (by rw [HRr.out, if_neg (fun q => hN q.2), if_pos ⟨h0, hN⟩])
      clear HRr h0
      go_wp2
      go_ret
      exact ⟨by rw [H9.out]; rfl, HB.out⟩
    · have h0b := beq_f h0
      have H9 : Hid (R = 0) := hide (by rw [HRr.out, if_neg (fun q => hN q.2), if_neg (fun q => h0 q.1)])
      clear HRr
      by_cases h1 : a = 1
      · have h1b := beq_t h1
        clear h0 h1
        go_wp2
        go_ret
        exact ⟨by rw [H9.out]; rfl, HB.out⟩
      · have h1b := beq_f h1
        clear h0 h1
        go_wp2
        go_ret
        exact ⟨by rw [H9.out]; rfl, HB.out⟩
set_option maxRecDepth 4000 in
theorem rother_no (ad : Option Addr) (n c : Nat) (es : List E6.Ev) (w : World) (hr : E6.ERow w ad n es) (hn : (n : Int) ≤ 1048576) (hg : ∀ e ∈ es, Eb e.g e.k e.o e.a) (g o a : Int) (s : Value) (k : Int) (he : Eb g k o a) (h14 : ¬ k = 14) (h15 : ¬ k = 15) (h16 : ¬ k = 16) (h20 : ¬ k = 20) (h21 : ¬ k = 21) :
    Calls Tryz.prog 106 #[.slice ad n c, .agg (evC g k o a s)] w fun e w' => e = .returned (.int .i64 (ofOt (es.map me) ⟨g, k, o, a⟩)) ∧ Below w.heap.size w w' := by
  obtain ⟨W, hW⟩ : ∃ W, W = w.alloc (.cells (evC g k o a s) 36) := ⟨_, rfl⟩
  have hb : Below w.heap.size w W := by rw [hW]; exact below_alloc1 w _
  have hE : W.heap[w.heap.size]? = some (.cells (evC g k o a s) 36 (0, 0)) := by rw [hW]; exact heap_new _ _
  obtain ⟨p0, p1, p2, p3, p4⟩ := evc0 hE
  obtain ⟨R, hR⟩ : ∃ R : Int, R = ofOt (es.map me) ⟨g, k, o, a⟩ := ⟨_, rfl⟩
  rw [← hR]
  have HR := hide hR
  have HB := hide hb
  have HW := hide hW
  have HE := hide (hr.bel hb)
  have HG := hide hg
  have HO := hide he
  have hleW : w.heap.size < W.heap.size := (Array.getElem?_eq_some_iff.1 hE).1
  clear hr hb hW hR hE hg he
  unfold evC
  unfold evC at HW
  have H9 : Hid (R = 0) := hide (by rw [HR.out]; unfold ofOt; dsimp only; rw [if_neg h14, if_neg h15, if_neg h16, if_neg h20, if_neg h21])
  have b14 := beq_f h14
  have b15 := beq_f h15
  have b16 := beq_f h16
  have b20 := beq_f h20
  have b21 := beq_f h21
  clear h14 h15 h16 h20 h21 HR
  go_enter Tryz.func106, Tryz.ntmps106
  go_wp2_with fail
  rw [← HW.out]
  clear HW
  go_wp2
  go_ret
  exact ⟨by rw [H9.out]; rfl, HB.out⟩
theorem ovl_num {xo xa o a : Int} (h1 : 1 ≤ xa ∧ xo + (xa - 1) ≤ 18446744073709551615) (h2 : 1 ≤ a ∧ o + (a - 1) ≤ 18446744073709551615) (h3 : 0 ≤ xo) (h4 : 0 ≤ o) : IntKind.u64.wrap (xa - 1) = xa - 1 ∧ IntKind.u64.wrap (a - 1) = a - 1 ∧ IntKind.u64.wrap (xo + (xa - 1)) = xo + (xa - 1) ∧ IntKind.u64.wrap (o + (a - 1)) = o + (a - 1) := by
  refine ⟨?_, ?_, ?_, ?_⟩ <;> (rw [IntKind.wrap_u64]; omega)
theorem roverlap_any (xg xk xo xa g k o a : Int) (xs s : Value) (w : World) (h1 : 1 ≤ xa ∧ xo + (xa - 1) ≤ 18446744073709551615) (h2 : 1 ≤ a ∧ o + (a - 1) ≤ 18446744073709551615) (h3 : 0 ≤ xo) (h4 : 0 ≤ o) :
    Calls Tryz.prog 145 #[.agg #[.int .i64 xg, .int .i64 xk, .int .u64 xo, .int .u64 xa, xs], .agg #[.int .i64 g, .int .i64 k, .int .u64 o, .int .u64 a, s]] w fun e w' => e = .returned (.bool (ovl ⟨g, k, o, a⟩ xo xa)) ∧ Below w.heap.size w w' := by
  obtain ⟨n1, n2, n3, n4⟩ := ovl_num h1 h2 h3 h4
  obtain ⟨R, hR⟩ : ∃ R, R = ovl ⟨g, k, o, a⟩ xo xa := ⟨_, rfl⟩
  rw [← hR]
  have HR : Hid (R = decide (xo ≤ o + (a - 1) ∧ o ≤ xo + (xa - 1))) := hide hR
  have HB := hide (((Below.refl w.heap.size w).alloc (Nat.le_refl _) (.cells #[.int .i64 xg, .int .i64 xk, .int .u64 xo, .int .u64 xa, xs] 36)).alloc (by simp) (.cells #[.int .i64 g, .int .i64 k, .int .u64 o, .int .u64 a, s] 36))
  clear hR h1 h2 h3 h4
  by_cases q1 : xo ≤ o + (a - 1)
  · have b1 : decide (xo ≤ o + (a - 1)) = true := decide_eq_true q1
    by_cases q2 : o ≤ xo + (xa - 1)
    · have b2 : decide (o ≤ xo + (xa - 1)) = true := decide_eq_true q2
      have H9 : Hid (R = true) := hide (by rw [HR.out]; exact decide_eq_true ⟨q1, q2⟩)
      clear HR
      go_enter Tryz.func145, Tryz.ntmps145
      go_wp2
      go_ret
      exact ⟨by rw [H9.out]; rfl, HB.out⟩
    · have b2 : decide (o ≤ xo + (xa - 1)) = false := decide_eq_false q2
      have H9 : Hid (R = false) := hide (by rw [HR.out]; exact decide_eq_false (fun q => q2 q.2))
      clear HR
      go_enter Tryz.func145, Tryz.ntmps145
      go_wp2
      go_ret
      exact ⟨by rw [H9.out]; rfl, HB.out⟩
  · have b1 : decide (xo ≤ o + (a - 1)) = false := decide_eq_false q1
    have H9 : Hid (R = false) := hide (by rw [HR.out]; exact decide_eq_false (fun q => q1 q.1))
    clear HR
    go_enter Tryz.func145, Tryz.ntmps145
    go_wp2
    go_ret
    exact ⟨by rw [H9.out]; rfl, HB.out⟩
end Go.Proofs.YtafkammiehcdjaaGreatDoor
/-
  The document's questions of memory.
-/
namespace Go.Proofs.YtafkammiehcdjaaGreatDoor
open Go.RowKit Go.Maps
set_option linter.unusedVariables false
theorem lvAny_drop {es : List E6.Ev} {j : Nat} {x : E6.Ev} (hx : es[j]? = some x) (p : Int → Int → Bool) : lvAny p ((es.drop j).map me) = ((lvB (me x) ((es.drop (j + 1)).map me) && p x.o x.a) || lvAny p ((es.drop (j + 1)).map me)) := by
  obtain ⟨hl, h9⟩ := List.getElem?_eq_some_iff.1 hx
  rw [List.drop_eq_getElem_cons hl, h9, List.map_cons, lvAny]
  rfl
theorem below_by {W wd w7 : World} (h : Below W.heap.size W wd) (h7 : ∃ m, w7 = wd.drewN m) : Below W.heap.size W w7 := by
  obtain ⟨m, rfl⟩ := h7
  exact below_drewN h m
theorem lvB_k {x : Me} {S : List Me} (h : lvB x S = true) : x.k = 20 := by
  unfold lvB at h
  rw [Bool.and_eq_true] at h
  exact of_decide_eq_true h.1
set_option maxRecDepth 4000 in
set_option maxHeartbeats 1000000 in
theorem rother_20 (ad : Option Addr) (n c : Nat) (es : List E6.Ev) (w : World) (hr : E6.ERow w ad n es) (hn : (n : Int) ≤ 1048576) (hg : ∀ e ∈ es, Eb e.g e.k e.o e.a) (g o a : Int) (s : Value) (he : Eb g 20 o a) :
    Calls Tryz.prog 106 #[.slice ad n c, .agg (evC g 20 o a s)] w fun e w' => e = .returned (.int .i64 (ofOt (es.map me) ⟨g, 20, o, a⟩)) ∧ Below w.heap.size w w' := by
  obtain ⟨W, hW⟩ : ∃ W, W = w.alloc (.cells (evC g 20 o a s) 36) := ⟨_, rfl⟩
  have hb : Below w.heap.size w W := by rw [hW]; exact below_alloc1 w _
  have hE : W.heap[w.heap.size]? = some (.cells (evC g 20 o a s) 36 (0, 0)) := by rw [hW]; exact heap_new _ _
  obtain ⟨p0, p1, p2, p3, p4⟩ := evc0 hE
  obtain ⟨R, hR⟩ : ∃ R : Int, R = ofOt (es.map me) ⟨g, 20, o, a⟩ := ⟨_, rfl⟩
  rw [← hR]
  have HR := hide hR
  have HB := hide hb
  have HW := hide hW
  have HE := hide (hr.bel hb)
  have HG := hide hg
  have HO := hide he
  have hleW : w.heap.size < W.heap.size := (Array.getElem?_eq_some_iff.1 hE).1
  clear hr hb hW hR hE hg he
  unfold evC
  unfold evC at HW
  have HRr : Hid (R = if lvAny (ovl ⟨g, 20, o, a⟩) ((es.drop 0).map me) = true then 27 else 0) := hide (by rw [List.drop_zero]; exact HR.out)
  have HC0 : Hid (∀ X, Below W.heap.size W X → X.cell? ⟨w.heap.size, 0, none⟩ = some (.int .i64 g) ∧ X.cell? ⟨w.heap.size, 1, none⟩ = some (.int .i64 20) ∧ X.cell? ⟨w.heap.size, 2, none⟩ = some (.int .u64 o) ∧ X.cell? ⟨w.heap.size, 3, none⟩ = some (.int .u64 a) ∧ X.cell? ⟨w.heap.size, 4, none⟩ = some s) := hide (fun X hX => ⟨E6.cell_bel p0 hX, E6.cell_bel p1 hX, E6.cell_bel p2 hX, E6.cell_bel p3 hX, E6.cell_bel p4 hX⟩)
  clear HR
  go_enter Tryz.func106, Tryz.ntmps106
  go_wp2_with fail
  rw [← HW.out]
  generalize hbb : w.heap.size = bb at HC0 p0 p1 p2 p3 p4 hleW ⊢
  have HBB := hide hbb
  clear HW hbb
  go_wp2
  clear p0 p1 p2 p3 p4
  go_loopw [7] (fun i wr => ∃ (j : Nat), j ≤ n ∧ i = .int .i64 j ∧ (R = if lvAny (ovl ⟨g, 20, o, a⟩) ((es.drop j).map me) = true then 27 else 0) ∧ Below W.heap.size W wr) (fun i _ => n - (intOf i).toNat)
  case atStart => exact ⟨0, Nat.zero_le _, rfl, HRr.out, Below.refl _ _⟩
  case round =>
    obtain ⟨j, hj, rfl, hRj, hbl⟩ := hrel
    have HBl := hide hbl
    clear hbl HRr
    by_cases hlt : j < n
    · have hjI : (j : Int) < n := by omega
      have hj0 : (0 : Int) ≤ j := by omega
      have HL0 := hide fun x hx => rlives_any ad n c es wr.drew ((HE.out.bel HBl.out).bel (Below.refl _ _).drew) hn j x hx
      obtain ⟨b, off, x, ha, hej, c0, c1, c2, c3, c4, hs⟩ := HE.out.at hlt
      subst ha
      have HL := hide (HL0.out x hej)
      have HLq := hide fun q => rlives_any (some ⟨b, off, none⟩) n c es (wr.drewN q) ((HE.out.bel HBl.out).bel (below_drewN (Below.refl _ _) q)) hn j x hej
      rw [lvAny_drop hej] at hRj
      have HRj := hide hRj
      have hxE := HG.out x (List.mem_of_getElem? hej)
      have HXE := hide hxE
      have HSx : Hid (∀ X, Below W.heap.size W X → X.cell? ⟨b, off + j * 5, none⟩ = some (.int .i64 x.g) ∧ X.cell? ⟨b, off + j * 5 + 1, none⟩ = some (.int .i64 x.k) ∧ X.cell? ⟨b, off + j * 5 + 2, none⟩ = some (.int .u64 x.o) ∧ X.cell? ⟨b, off + j * 5 + 3, none⟩ = some (.int .u64 x.a) ∧ X.cell? ⟨b, off + j * 5 + 4, none⟩ = some (.slice x.sa x.ls.length x.sc) ∧ X.cell? ⟨bb, 0, none⟩ = some (.int .i64 g) ∧ X.cell? ⟨bb, 1, none⟩ = some (.int .i64 20) ∧ X.cell? ⟨bb, 2, none⟩ = some (.int .u64 o) ∧ X.cell? ⟨bb, 3, none⟩ = some (.int .u64 a) ∧ X.cell? ⟨bb, 4, none⟩ = some s) := hide (fun X hX => ⟨E6.cell_bel c0 hX, E6.cell_bel c1 hX, E6.cell_bel c2 hX, E6.cell_bel c3 hX, E6.cell_bel c4 hX, HC0.out X hX⟩)
      have HBd := hide (HBl.out.trans ((Below.refl wr.heap.size wr).drew.mono HBl.out.size))
      have q := HSx.out wr HBl.out
      obtain ⟨q0, q1, q2, q3, q4, q5, q6, q7, q8, q9⟩ := q
      obtain ⟨Y, hY⟩ : ∃ Y, Y = lvB (me x) ((es.drop (j + 1)).map me) := ⟨_, rfl⟩
      rw [← hY] at HL HLq HRj
      have HY := hide hY
      clear hY hs hej hRj HL0 hxE c0 c1 c2 c3 c4 HC0
      cases Y with
      | false =>
        have H9 : Hid (R = if lvAny (ovl ⟨g, 20, o, a⟩) ((es.drop (j + 1)).map me) = true then 27 else 0) := hide (by have := HRj.out; rw [Bool.false_and, Bool.false_or] at this; exact this)
        clear HRj HY
        go_wp2_with fail
        go_quiet ((go_at_call 144; exact Calls.quiet_of (HLq.out _)))
        go_wp2
        exact ⟨⟨j + 1, by omega, by go_num, H9.out, below_drewN HBl.out _⟩, by simp [intOf]; omega⟩
      | true =>
        have hxk : x.k = 20 := lvB_k HY.out.symm
        have hxa := HXE.out.al (.inl hxk)
        have hxo := HXE.out.ok.o0
        have HXA := hide hxa
        have HXO := hide hxo
        clear hxk hxa hxo HY
        have HOv := hide fun X => roverlap_any x.g x.k x.o x.a g 20 o a (.slice x.sa x.ls.length x.sc) s X HXA.out (HO.out.al (.inl rfl)) HXO.out HO.out.ok.o0
        obtain ⟨V, hV⟩ : ∃ V, V = ovl ⟨g, 20, o, a⟩ x.o x.a := ⟨_, rfl⟩
        rw [← hV] at HOv HRj
        clear hV HXA HXO
        cases V with
        | true =>
          have H9 : Hid (R = 27) := hide (by have := HRj.out; rw [Bool.true_and, Bool.true_or] at this; exact this)
          clear HRj
          go_wp2_with fail
          go_region_held3 (fun X => X.cell? ⟨b, off + j * 5, none⟩ = some (.int .i64 x.g) ∧ X.cell? ⟨b, off + j * 5 + 1, none⟩ = some (.int .i64 x.k) ∧ X.cell? ⟨b, off + j * 5 + 2, none⟩ = some (.int .u64 x.o) ∧ X.cell? ⟨b, off + j * 5 + 3, none⟩ = some (.int .u64 x.a) ∧ X.cell? ⟨b, off + j * 5 + 4, none⟩ = some (.slice x.sa x.ls.length x.sc) ∧ X.cell? ⟨bb, 0, none⟩ = some (.int .i64 g) ∧ X.cell? ⟨bb, 1, none⟩ = some (.int .i64 20) ∧ X.cell? ⟨bb, 2, none⟩ = some (.int .u64 o) ∧ X.cell? ⟨bb, 3, none⟩ = some (.int .u64 a) ∧ X.cell? ⟨bb, 4, none⟩ = some s)
            (first | with_reducible exact HSx.out _ HBl.out | with_reducible exact HSx.out _ HBd.out | with_reducible exact HSx.out _ HB7.out | with_reducible exact HSx.out _ HB8.out)
            (first | (go_at_call 144; go_must (refine HL.out.mono ?_; rintro e9 w7 ⟨rfl, h7⟩; have HB7 : Hid (Below W.heap.size W w7) := hide (below_by HBd.out h7); clear h7)) | (go_at_call 145; go_must (refine (HOv.out _).mono ?_; rintro e9 w8 ⟨rfl, h8⟩; have HB8 : Hid (Below W.heap.size W w8) := hide (HB7.out.trans (h8.mono HB7.out.size)); clear h8)))
          go_wp2
          go_ret
          exact ⟨by rw [H9.out]; rfl, HB.out.trans (HB8.out.mono HB.out.size)⟩
        | false =>
          have H9 : Hid (R = if lvAny (ovl ⟨g, 20, o, a⟩) ((es.drop (j + 1)).map me) = true then 27 else 0) := hide (by have := HRj.out; rw [Bool.true_and, Bool.false_or] at this; exact this)
          clear HRj
          go_wp2_with fail
          go_region_held3 (fun X => X.cell? ⟨b, off + j * 5, none⟩ = some (.int .i64 x.g) ∧ X.cell? ⟨b, off + j * 5 + 1, none⟩ = some (.int .i64 x.k) ∧ X.cell? ⟨b, off + j * 5 + 2, none⟩ = some (.int .u64 x.o) ∧ X.cell? ⟨b, off + j * 5 + 3, none⟩ = some (.int .u64 x.a) ∧ X.cell? ⟨b, off + j * 5 + 4, none⟩ = some (.slice x.sa x.ls.length x.sc) ∧ X.cell? ⟨bb, 0, none⟩ = some (.int .i64 g) ∧ X.cell? ⟨bb, 1, none⟩ = some (.int .i64 20) ∧ X.cell? ⟨bb, 2, none⟩ = some (.int .u64 o) ∧ X.cell? ⟨bb, 3, none⟩ = some (.int .u64 a) ∧ X.cell? ⟨bb, 4, none⟩ = some s)
            (first | with_reducible exact HSx.out _ HBl.out | with_reducible exact HSx.out _ HBd.out | with_reducible exact HSx.out _ HB7.out | with_reducible exact HSx.out _ HB8.out)
            (first | (go_at_call 144; go_must (refine HL.out.mono ?_; rintro e9 w7 ⟨rfl, h7⟩; have HB7 : Hid (Below W.heap.size W w7) := hide (below_by HBd.out h7); clear h7)) | (go_at_call 145; go_must (refine (HOv.out _).mono ?_; rintro e9 w8 ⟨rfl, h8⟩; have HB8 : Hid (Below W.heap.size W w8) := hide (HB7.out.trans (h8.mono HB7.out.size)); clear h8)))
          go_wp2
          exact ⟨⟨j + 1, by omega, by go_num, H9.out, HB8.out⟩, by simp [intOf]; omega⟩
    · have h9 : j = n := by omega
      have H9 : Hid (R = 0) := hide (by
        rw [hRj, List.drop_eq_nil_of_le (by rw [HE.out.len]; omega)]; rfl)
      clear hRj
      go_wp2
      go_ret
      exact ⟨by rw [H9.out]; rfl, HB.out.trans (HBl.out.mono HB.out.size)⟩
set_option maxRecDepth 4000 in
set_option maxHeartbeats 1000000 in
theorem rother_21 (ad : Option Addr) (n c : Nat) (es : List E6.Ev) (w : World) (hr : E6.ERow w ad n es) (hn : (n : Int) ≤ 1048576) (hg : ∀ e ∈ es, Eb e.g e.k e.o e.a) (g o a : Int) (s : Value) (he : Eb g 21 o a) :
    Calls Tryz.prog 106 #[.slice ad n c, .agg (evC g 21 o a s)] w fun e w' => e = .returned (.int .i64 (ofOt (es.map me) ⟨g, 21, o, a⟩)) ∧ Below w.heap.size w w' := by
  obtain ⟨W, hW⟩ : ∃ W, W = w.alloc (.cells (evC g 21 o a s) 36) := ⟨_, rfl⟩
  have hb : Below w.heap.size w W := by rw [hW]; exact below_alloc1 w _
  have hE : W.heap[w.heap.size]? = some (.cells (evC g 21 o a s) 36 (0, 0)) := by rw [hW]; exact heap_new _ _
  obtain ⟨p0, p1, p2, p3, p4⟩ := evc0 hE
  obtain ⟨R, hR⟩ : ∃ R : Int, R = ofOt (es.map me) ⟨g, 21, o, a⟩ := ⟨_, rfl⟩
  rw [← hR]
  have HR := hide hR
  have HB := hide hb
  have HW := hide hW
  have HE := hide (hr.bel hb)
  have HG := hide hg
  have HO := hide he
  have hleW : w.heap.size < W.heap.size := (Array.getElem?_eq_some_iff.1 hE).1
  clear hr hb hW hR hE hg he
  unfold evC
  unfold evC at HW
  have HRr : Hid (R = if lvAny (fun o1 a1 => decide (o1 = o ∧ a1 = a)) ((es.drop 0).map me) = true then 0 else 28) := hide (by rw [List.drop_zero]; exact HR.out)
  have HC0 : Hid (∀ X, Below W.heap.size W X → X.cell? ⟨w.heap.size, 0, none⟩ = some (.int .i64 g) ∧ X.cell? ⟨w.heap.size, 1, none⟩ = some (.int .i64 21) ∧ X.cell? ⟨w.heap.size, 2, none⟩ = some (.int .u64 o) ∧ X.cell? ⟨w.heap.size, 3, none⟩ = some (.int .u64 a) ∧ X.cell? ⟨w.heap.size, 4, none⟩ = some s) := hide (fun X hX => ⟨E6.cell_bel p0 hX, E6.cell_bel p1 hX, E6.cell_bel p2 hX, E6.cell_bel p3 hX, E6.cell_bel p4 hX⟩)
  clear HR
  go_enter Tryz.func106, Tryz.ntmps106
  go_wp2_with fail
  rw [← HW.out]
  generalize hbb : w.heap.size = bb at HC0 p0 p1 p2 p3 p4 hleW ⊢
  have HBB := hide hbb
  clear HW hbb
  go_wp2
  clear p0 p1 p2 p3 p4
  go_loopw [8] (fun i wr => ∃ (j : Nat), j ≤ n ∧ i = .int .i64 j ∧ (R = if lvAny (fun o1 a1 => decide (o1 = o ∧ a1 = a)) ((es.drop j).map me) = true then 0 else 28) ∧ Below W.heap.size W wr) (fun i _ => n - (intOf i).toNat)
  case atStart => exact ⟨0, Nat.zero_le _, rfl, HRr.out, Below.refl _ _⟩
  case round =>
    obtain ⟨j, hj, rfl, hRj, hbl⟩ := hrel
    have HBl := hide hbl
    clear hbl HRr
    by_cases hlt : j < n
    · have hjI : (j : Int) < n := by omega
      have hj0 : (0 : Int) ≤ j := by omega
      have HL0 := hide fun x hx => rlives_any ad n c es wr.drew ((HE.out.bel HBl.out).bel (Below.refl _ _).drew) hn j x hx
      obtain ⟨b, off, x, ha, hej, c0, c1, c2, c3, c4, hs⟩ := HE.out.at hlt
      subst ha
      have HL := hide (HL0.out x hej)
      have HLq := hide fun q => rlives_any (some ⟨b, off, none⟩) n c es (wr.drewN q) ((HE.out.bel HBl.out).bel (below_drewN (Below.refl _ _) q)) hn j x hej
      rw [lvAny_drop hej] at hRj
      have HRj := hide hRj
      have hxE := HG.out x (List.mem_of_getElem? hej)
      have HXE := hide hxE
      have HSx : Hid (∀ X, Below W.heap.size W X → X.cell? ⟨b, off + j * 5, none⟩ = some (.int .i64 x.g) ∧ X.cell? ⟨b, off + j * 5 + 1, none⟩ = some (.int .i64 x.k) ∧ X.cell? ⟨b, off + j * 5 + 2, none⟩ = some (.int .u64 x.o) ∧ X.cell? ⟨b, off + j * 5 + 3, none⟩ = some (.int .u64 x.a) ∧ X.cell? ⟨b, off + j * 5 + 4, none⟩ = some (.slice x.sa x.ls.length x.sc) ∧ X.cell? ⟨bb, 0, none⟩ = some (.int .i64 g) ∧ X.cell? ⟨bb, 1, none⟩ = some (.int .i64 21) ∧ X.cell? ⟨bb, 2, none⟩ = some (.int .u64 o) ∧ X.cell? ⟨bb, 3, none⟩ = some (.int .u64 a) ∧ X.cell? ⟨bb, 4, none⟩ = some s) := hide (fun X hX => ⟨E6.cell_bel c0 hX, E6.cell_bel c1 hX, E6.cell_bel c2 hX, E6.cell_bel c3 hX, E6.cell_bel c4 hX, HC0.out X hX⟩)
      have HBd := hide (HBl.out.trans ((Below.refl wr.heap.size wr).drew.mono HBl.out.size))
      have q := HSx.out wr HBl.out
      obtain ⟨q0, q1, q2, q3, q4, q5, q6, q7, q8, q9⟩ := q
      obtain ⟨Y, hY⟩ : ∃ Y, Y = lvB (me x) ((es.drop (j + 1)).map me) := ⟨_, rfl⟩
      rw [← hY] at HL HLq HRj
      have HY := hide hY
      clear hY hs hej hRj HL0 hxE c0 c1 c2 c3 c4 HC0
      cases Y with
      | false =>
        have H9 : Hid (R = if lvAny (fun o1 a1 => decide (o1 = o ∧ a1 = a)) ((es.drop (j + 1)).map me) = true then 0 else 28) := hide (by have := HRj.out; rw [Bool.false_and, Bool.false_or] at this; exact this)
        clear HRj HY
        go_wp2_with fail
        go_quiet ((go_at_call 144; exact Calls.quiet_of (HLq.out _)))
        go_wp2
        exact ⟨⟨j + 1, by omega, by go_num, H9.out, below_drewN HBl.out _⟩, by simp [intOf]; omega⟩
      | true =>
        have hxk : x.k = 20 := lvB_k HY.out.symm
        have hxa := HXE.out.al (.inl hxk)
        have hxo := HXE.out.ok.o0
        have HXA := hide hxa
        have HXO := hide hxo
        clear hxk hxa hxo HY
        by_cases h1 : x.o = o
        · have h1b := beq_t h1
          by_cases h2 : x.a = a
          · have h2b := beq_t h2
            have H9 : Hid (R = 0) := hide (by have := HRj.out; rw [Bool.true_and, decide_eq_true ⟨h1, h2⟩, Bool.true_or] at this; exact this)
            clear HRj HXA HXO h1 h2
            go_wp2_with fail
            go_quiet ((go_at_call 144; exact Calls.quiet_of (HLq.out _)))
            go_wp2
            go_ret
            exact ⟨by rw [H9.out]; rfl, HB.out.trans ((below_drewN HBl.out _).mono HB.out.size)⟩
          · have h2b := beq_f h2
            have H9 : Hid (R = if lvAny (fun o1 a1 => decide (o1 = o ∧ a1 = a)) ((es.drop (j + 1)).map me) = true then 0 else 28) := hide (by have := HRj.out; rw [Bool.true_and, decide_eq_false (fun q => h2 q.2), Bool.false_or] at this; exact this)
            clear HRj HXA HXO h1 h2
            go_wp2_with fail
            go_quiet ((go_at_call 144; exact Calls.quiet_of (HLq.out _)))
            go_wp2
            exact ⟨⟨j + 1, by omega, by go_num, H9.out, below_drewN HBl.out _⟩, by simp [intOf]; omega⟩
        · have h1b := beq_f h1
          have H9 : Hid (R = if lvAny (fun o1 a1 => decide (o1 = o ∧ a1 = a)) ((es.drop (j + 1)).map me) = true then 0 else 28) := hide (by have := HRj.out; rw [Bool.true_and, decide_eq_false (fun q => h1 q.1), Bool.false_or] at this; exact this)
          clear HRj HXA HXO h1
          go_wp2_with fail
          go_quiet ((go_at_call 144; exact Calls.quiet_of (HLq.out _)))
          go_wp2
          exact ⟨⟨j + 1, by omega, by go_num, H9.out, below_drewN HBl.out _⟩, by simp [intOf]; omega⟩
    · have h9 : j = n := by omega
      have H9 : Hid (R = 28) := hide (by
        rw [hRj, List.drop_eq_nil_of_le (by rw [HE.out.len]; omega)]; rfl)
      clear hRj
      go_wp2
      go_ret
      exact ⟨by rw [H9.out]; rfl, HB.out.trans (HBl.out.mono HB.out.size)⟩
theorem rother_any (ad : Option Addr) (n c : Nat) (es : List E6.Ev) (w : World) (hr : E6.ERow w ad n es) (hn : (n : Int) ≤ 1048576) (hg : ∀ e ∈ es, Eb e.g e.k e.o e.a) (g o a : Int) (s : Value) (k : Int) (he : Eb g k o a) :
    Calls Tryz.prog 106 #[.slice ad n c, .agg (evC g k o a s)] w fun e w' => e = .returned (.int .i64 (ofOt (es.map me) ⟨g, k, o, a⟩)) ∧ Below w.heap.size w w' := by
  by_cases h14 : k = 14
  · subst h14; exact rother_14 ad n c es w hr hn hg g o a s he
  by_cases h15 : k = 15
  · subst h15; exact rother_15 ad n c es w hr hn hg g o a s he
  by_cases h16 : k = 16
  · subst h16; exact rother_16 ad n c es w hr hn hg g o a s he
  by_cases h20 : k = 20
  · subst h20; exact rother_20 ad n c es w hr hn hg g o a s he
  by_cases h21 : k = 21
  · subst h21; exact rother_21 ad n c es w hr hn hg g o a s he
  exact rother_no ad n c es w hr hn hg g o a s k he h14 h15 h16 h20 h21
end Go.Proofs.YtafkammiehcdjaaGreatDoor
