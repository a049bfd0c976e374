import Derived.Test.YtafkammiehcdjaaGreatDoorZs31
import Derived.Test.YtafkammiehcdjaaGreatDoorZs19
/-
  The statement's own look at an event that was taken: sound.
-/
namespace Go.Proofs.YtafkammiehcdjaaGreatDoor
open Go.RowKit Go.Maps
set_option linter.unusedVariables false
set_option maxRecDepth 4000 in
set_option maxHeartbeats 2000000 in
theorem sound_9 (ad : Option Addr) (n c : Nat) (es : List E6.Ev) (w : World) (hr : E6.ERow w ad n es) (hn : (n : Int) ≤ 1048576) (hg : ∀ e ∈ es, Eb e.g e.k e.o e.a) (g o a : Int) (s : Value) {T : List Me} {M : CS} (hT : Rch T M) (he : Eb g 9 o a) (hmap : es.map me = T ++ [⟨g, 9, o, a⟩]) (hgd : Gdm ⟨g, 9, o, a⟩) (hwy : M.why ⟨g, 9, o, a⟩ = 0) :
    Calls Tryz.prog 17 #[.agg #[.slice ad n c], .agg (evC g 9 o a s)] w fun e w' => e = .returned (.bool true) ∧ Below w.heap.size w w' := by
  obtain ⟨W0, hW0⟩ : ∃ W0, W0 = w.alloc (.cells #[.slice ad n c] 42) := ⟨_, rfl⟩
  obtain ⟨W, hW⟩ : ∃ W, W = W0.alloc (.cells (evC g 9 o a s) 36) := ⟨_, rfl⟩
  have hb0 : Below w.heap.size w W0 := by rw [hW0]; exact below_alloc1 w _
  have hb1 : Below W0.heap.size W0 W := by rw [hW]; exact below_alloc1 W0 _
  have hb := hb0.trans (hb1.mono hb0.size)
  have hE0 : W0.heap[w.heap.size]? = some (.cells #[.slice ad n c] 42 (0, 0)) := by rw [hW0]; exact heap_new _ _
  have hE1 : W.heap[W0.heap.size]? = some (.cells (evC g 9 o a s) 36 (0, 0)) := by rw [hW]; exact heap_new _ _
  obtain ⟨q0, q1, q2, q3, q4⟩ := evc0 hE1
  have z0 : W0.cell? ⟨w.heap.size, 0, none⟩ = some (.slice ad n c) := cell_at hE0 rfl
  have p0 := E6.cell_bel z0 hb1
  have hl0 : w.heap.size < W0.heap.size := lt_of_heap hE0
  have hl1 : W0.heap.size < W.heap.size := lt_of_heap hE1
  have hl2 : w.heap.size < W.heap.size := Nat.lt_trans hl0 hl1
  have HE := hide (hr.bel hb)
  have HG := hide hg
  have HB := hide hb
  have HW := hide (hW.trans (by rw [hW0]))
  have HS0 : W0.heap.size = w.heap.size + 1 := by rw [hW0]; simp
  rw [HS0] at q0 q1 q2 q3 q4 hl1
  have HCs : Hid (∀ X, Below W.heap.size W X → X.cell? ⟨w.heap.size, 0, none⟩ = some (.slice ad n c) ∧ X.cell? ⟨w.heap.size + 1, 0, none⟩ = some (.int .i64 g) ∧ X.cell? ⟨w.heap.size + 1, 1, none⟩ = some (.int .i64 9) ∧ X.cell? ⟨w.heap.size + 1, 2, none⟩ = some (.int .u64 o) ∧ X.cell? ⟨w.heap.size + 1, 3, none⟩ = some (.int .u64 a) ∧ w.heap.size < X.heap.size ∧ w.heap.size + 1 < X.heap.size) := hide (fun X hX => ⟨E6.cell_bel p0 hX, E6.cell_bel q0 hX, E6.cell_bel q1 hX, E6.cell_bel q2 hX, E6.cell_bel q3 hX, Nat.lt_of_lt_of_le hl2 hX.size, Nat.lt_of_lt_of_le hl1 hX.size⟩)
  have HT := hide hT
  have HMp := hide hmap
  have HGd := hide hgd
  have HWy := hide hwy
  have HEb := hide he
  clear hr hg hb hb0 hb1 hE0 hE1 hW hW0 z0 HS0 hT hmap hgd hwy he
  unfold evC
  unfold evC at HW
  have HFl := hide (lflow_any ad n c es W HE.out hn HG.out o)
  have HBm : Hid (∀ x ∈ T ++ [(⟨g, 9, o, a⟩ : Me)], x.k = 9 → 0 ≤ x.a ∧ x.a ≤ 65536) := hide (fun x hx hk => by
    rw [← HMp.out] at hx
    obtain ⟨y, hy, rfl⟩ := List.mem_map.1 hx
    have h2 := HG.out y hy
    exact ⟨h2.ok.a0, h2.mc hk⟩)
  have HLn : Hid ((es.map me).length = n) := hide (by rw [List.length_map, HE.out.len])
  go_enter Tryz.func17, Tryz.ntmps17
  go_wp2_with fail
  rw [← HW.out]
  clear HW
  go_wp2_with fail
  refine HFl.out.mono ?_
  rintro r w2 ⟨rm, se, re, cl, rfl, hF, hb2⟩
  have s1 : se ≤ 1048576 := by have h1 := hF.se; have h2 : cnA (es.map me) 10 o ≤ (es.map me).length := List.countP_le_length; rw [HLn.out] at h2; omega
  have s2 : 0 ≤ re := by have h1 := hF.re; omega
  rw [HMp.out] at hF
  obtain ⟨f1, f2, f3, f4, f5⟩ := snd_ch HT.out HGd.out HWy.out (by dsimp only; omega) HBm.out hF
  obtain ⟨p0, q0, q1, q2, q3, hl2, hl1⟩ := HCs.out w2 hb2
  have HB2 := hide (HB.out.trans (hb2.mono HB.out.size))
  have d1 : decide (rm < 0) = false := decide_eq_false (by omega)
  have d2 : decide (se < re) = false := decide_eq_false (by omega)
  have d5 : IntKind.i64.wrap (se - re) = se - re := by rw [IntKind.wrap_i64]; omega
  clear hF hb2 HFl
  by_cases hr0 : 0 < rm
  · have d6 : decide (0 < rm) = true := decide_eq_true hr0
    have d7 : decide (rm < se - re) = false := decide_eq_false (by have := f3 hr0; omega)
    clear f1 f2 f3 f4 f5
    go_wp2
    go_ret
    exact ⟨rfl, HB2.out⟩
  · have d6 : decide (0 < rm) = false := decide_eq_false hr0
    clear f1 f2 f3 f4 f5
    go_wp2
    go_ret
    exact ⟨rfl, HB2.out⟩
set_option maxRecDepth 4000 in
set_option maxHeartbeats 2000000 in
theorem sound_10 (ad : Option Addr) (n c : Nat) (es : List E6.Ev) (w : World) (hr : E6.ERow w ad n es) (hn : (n : Int) ≤ 1048576) (hg : ∀ e ∈ es, Eb e.g e.k e.o e.a) (g o a : Int) (s : Value) {T : List Me} {M : CS} (hT : Rch T M) (he : Eb g 10 o a) (hmap : es.map me = T ++ [⟨g, 10, o, a⟩]) (hgd : Gdm ⟨g, 10, o, a⟩) (hwy : M.why ⟨g, 10, o, a⟩ = 0) :
    Calls Tryz.prog 17 #[.agg #[.slice ad n c], .agg (evC g 10 o a s)] w fun e w' => e = .returned (.bool true) ∧ Below w.heap.size w w' := by
  obtain ⟨W0, hW0⟩ : ∃ W0, W0 = w.alloc (.cells #[.slice ad n c] 42) := ⟨_, rfl⟩
  obtain ⟨W, hW⟩ : ∃ W, W = W0.alloc (.cells (evC g 10 o a s) 36) := ⟨_, rfl⟩
  have hb0 : Below w.heap.size w W0 := by rw [hW0]; exact below_alloc1 w _
  have hb1 : Below W0.heap.size W0 W := by rw [hW]; exact below_alloc1 W0 _
  have hb := hb0.trans (hb1.mono hb0.size)
  have hE0 : W0.heap[w.heap.size]? = some (.cells #[.slice ad n c] 42 (0, 0)) := by rw [hW0]; exact heap_new _ _
  have hE1 : W.heap[W0.heap.size]? = some (.cells (evC g 10 o a s) 36 (0, 0)) := by rw [hW]; exact heap_new _ _
  obtain ⟨q0, q1, q2, q3, q4⟩ := evc0 hE1
  have z0 : W0.cell? ⟨w.heap.size, 0, none⟩ = some (.slice ad n c) := cell_at hE0 rfl
  have p0 := E6.cell_bel z0 hb1
  have hl0 : w.heap.size < W0.heap.size := lt_of_heap hE0
  have hl1 : W0.heap.size < W.heap.size := lt_of_heap hE1
  have hl2 : w.heap.size < W.heap.size := Nat.lt_trans hl0 hl1
  have HE := hide (hr.bel hb)
  have HG := hide hg
  have HB := hide hb
  have HW := hide (hW.trans (by rw [hW0]))
  have HS0 : W0.heap.size = w.heap.size + 1 := by rw [hW0]; simp
  rw [HS0] at q0 q1 q2 q3 q4 hl1
  have HCs : Hid (∀ X, Below W.heap.size W X → X.cell? ⟨w.heap.size, 0, none⟩ = some (.slice ad n c) ∧ X.cell? ⟨w.heap.size + 1, 0, none⟩ = some (.int .i64 g) ∧ X.cell? ⟨w.heap.size + 1, 1, none⟩ = some (.int .i64 10) ∧ X.cell? ⟨w.heap.size + 1, 2, none⟩ = some (.int .u64 o) ∧ X.cell? ⟨w.heap.size + 1, 3, none⟩ = some (.int .u64 a) ∧ w.heap.size < X.heap.size ∧ w.heap.size + 1 < X.heap.size) := hide (fun X hX => ⟨E6.cell_bel p0 hX, E6.cell_bel q0 hX, E6.cell_bel q1 hX, E6.cell_bel q2 hX, E6.cell_bel q3 hX, Nat.lt_of_lt_of_le hl2 hX.size, Nat.lt_of_lt_of_le hl1 hX.size⟩)
  have HT := hide hT
  have HMp := hide hmap
  have HGd := hide hgd
  have HWy := hide hwy
  have HEb := hide he
  clear hr hg hb hb0 hb1 hE0 hE1 hW hW0 z0 HS0 hT hmap hgd hwy he
  unfold evC
  unfold evC at HW
  have HFl := hide (lflow_any ad n c es W HE.out hn HG.out o)
  have HBm : Hid (∀ x ∈ T ++ [(⟨g, 10, o, a⟩ : Me)], x.k = 9 → 0 ≤ x.a ∧ x.a ≤ 65536) := hide (fun x hx hk => by
    rw [← HMp.out] at hx
    obtain ⟨y, hy, rfl⟩ := List.mem_map.1 hx
    have h2 := HG.out y hy
    exact ⟨h2.ok.a0, h2.mc hk⟩)
  have HLn : Hid ((es.map me).length = n) := hide (by rw [List.length_map, HE.out.len])
  go_enter Tryz.func17, Tryz.ntmps17
  go_wp2_with fail
  rw [← HW.out]
  clear HW
  go_wp2_with fail
  refine HFl.out.mono ?_
  rintro r w2 ⟨rm, se, re, cl, rfl, hF, hb2⟩
  have s1 : se ≤ 1048576 := by have h1 := hF.se; have h2 : cnA (es.map me) 10 o ≤ (es.map me).length := List.countP_le_length; rw [HLn.out] at h2; omega
  have s2 : 0 ≤ re := by have h1 := hF.re; omega
  rw [HMp.out] at hF
  obtain ⟨f1, f2, f3, f4, f5⟩ := snd_ch HT.out HGd.out HWy.out (by dsimp only; omega) HBm.out hF
  obtain ⟨p0, q0, q1, q2, q3, hl2, hl1⟩ := HCs.out w2 hb2
  have HB2 := hide (HB.out.trans (hb2.mono HB.out.size))
  have d1 : decide (rm < 0) = false := decide_eq_false (by omega)
  have d2 : decide (se < re) = false := decide_eq_false (by omega)
  have d5 : IntKind.i64.wrap (se - re) = se - re := by rw [IntKind.wrap_i64]; omega
  have d4 : decide (0 ≤ cl) = false := decide_eq_false (f4 rfl)
  clear hF hb2 HFl
  by_cases hr0 : 0 < rm
  · have d6 : decide (0 < rm) = true := decide_eq_true hr0
    have d7 : decide (rm < se - re) = false := decide_eq_false (by have := f3 hr0; omega)
    clear f1 f2 f3 f4 f5
    go_wp2
    go_ret
    exact ⟨rfl, HB2.out⟩
  · have d6 : decide (0 < rm) = false := decide_eq_false hr0
    clear f1 f2 f3 f4 f5
    go_wp2
    go_ret
    exact ⟨rfl, HB2.out⟩
set_option maxRecDepth 4000 in
set_option maxHeartbeats 2000000 in
theorem sound_11 (ad : Option Addr) (n c : Nat) (es : List E6.Ev) (w : World) (hr : E6.ERow w ad n es) (hn : (n : Int) ≤ 1048576) (hg : ∀ e ∈ es, Eb e.g e.k e.o e.a) (g o a : Int) (s : Value) {T : List Me} {M : CS} (hT : Rch T M) (he : Eb g 11 o a) (hmap : es.map me = T ++ [⟨g, 11, o, a⟩]) (hgd : Gdm ⟨g, 11, o, a⟩) (hwy : M.why ⟨g, 11, o, a⟩ = 0) :
    Calls Tryz.prog 17 #[.agg #[.slice ad n c], .agg (evC g 11 o a s)] w fun e w' => e = .returned (.bool true) ∧ Below w.heap.size w w' := by
  obtain ⟨W0, hW0⟩ : ∃ W0, W0 = w.alloc (.cells #[.slice ad n c] 42) := ⟨_, rfl⟩
  obtain ⟨W, hW⟩ : ∃ W, W = W0.alloc (.cells (evC g 11 o a s) 36) := ⟨_, rfl⟩
  have hb0 : Below w.heap.size w W0 := by rw [hW0]; exact below_alloc1 w _
  have hb1 : Below W0.heap.size W0 W := by rw [hW]; exact below_alloc1 W0 _
  have hb := hb0.trans (hb1.mono hb0.size)
  have hE0 : W0.heap[w.heap.size]? = some (.cells #[.slice ad n c] 42 (0, 0)) := by rw [hW0]; exact heap_new _ _
  have hE1 : W.heap[W0.heap.size]? = some (.cells (evC g 11 o a s) 36 (0, 0)) := by rw [hW]; exact heap_new _ _
  obtain ⟨q0, q1, q2, q3, q4⟩ := evc0 hE1
  have z0 : W0.cell? ⟨w.heap.size, 0, none⟩ = some (.slice ad n c) := cell_at hE0 rfl
  have p0 := E6.cell_bel z0 hb1
  have hl0 : w.heap.size < W0.heap.size := lt_of_heap hE0
  have hl1 : W0.heap.size < W.heap.size := lt_of_heap hE1
  have hl2 : w.heap.size < W.heap.size := Nat.lt_trans hl0 hl1
  have HE := hide (hr.bel hb)
  have HG := hide hg
  have HB := hide hb
  have HW := hide (hW.trans (by rw [hW0]))
  have HS0 : W0.heap.size = w.heap.size + 1 := by rw [hW0]; simp
  rw [HS0] at q0 q1 q2 q3 q4 hl1
  have HCs : Hid (∀ X, Below W.heap.size W X → X.cell? ⟨w.heap.size, 0, none⟩ = some (.slice ad n c) ∧ X.cell? ⟨w.heap.size + 1, 0, none⟩ = some (.int .i64 g) ∧ X.cell? ⟨w.heap.size + 1, 1, none⟩ = some (.int .i64 11) ∧ X.cell? ⟨w.heap.size + 1, 2, none⟩ = some (.int .u64 o) ∧ X.cell? ⟨w.heap.size + 1, 3, none⟩ = some (.int .u64 a) ∧ w.heap.size < X.heap.size ∧ w.heap.size + 1 < X.heap.size) := hide (fun X hX => ⟨E6.cell_bel p0 hX, E6.cell_bel q0 hX, E6.cell_bel q1 hX, E6.cell_bel q2 hX, E6.cell_bel q3 hX, Nat.lt_of_lt_of_le hl2 hX.size, Nat.lt_of_lt_of_le hl1 hX.size⟩)
  have HT := hide hT
  have HMp := hide hmap
  have HGd := hide hgd
  have HWy := hide hwy
  have HEb := hide he
  clear hr hg hb hb0 hb1 hE0 hE1 hW hW0 z0 HS0 hT hmap hgd hwy he
  unfold evC
  unfold evC at HW
  have HFl := hide (lflow_any ad n c es W HE.out hn HG.out o)
  have HBm : Hid (∀ x ∈ T ++ [(⟨g, 11, o, a⟩ : Me)], x.k = 9 → 0 ≤ x.a ∧ x.a ≤ 65536) := hide (fun x hx hk => by
    rw [← HMp.out] at hx
    obtain ⟨y, hy, rfl⟩ := List.mem_map.1 hx
    have h2 := HG.out y hy
    exact ⟨h2.ok.a0, h2.mc hk⟩)
  have HLn : Hid ((es.map me).length = n) := hide (by rw [List.length_map, HE.out.len])
  go_enter Tryz.func17, Tryz.ntmps17
  go_wp2_with fail
  rw [← HW.out]
  clear HW
  go_wp2_with fail
  refine HFl.out.mono ?_
  rintro r w2 ⟨rm, se, re, cl, rfl, hF, hb2⟩
  have s1 : se ≤ 1048576 := by have h1 := hF.se; have h2 : cnA (es.map me) 10 o ≤ (es.map me).length := List.countP_le_length; rw [HLn.out] at h2; omega
  have s2 : 0 ≤ re := by have h1 := hF.re; omega
  rw [HMp.out] at hF
  obtain ⟨f1, f2, f3, f4, f5⟩ := snd_ch HT.out HGd.out HWy.out (by dsimp only; omega) HBm.out hF
  obtain ⟨p0, q0, q1, q2, q3, hl2, hl1⟩ := HCs.out w2 hb2
  have HB2 := hide (HB.out.trans (hb2.mono HB.out.size))
  have d1 : decide (rm < 0) = false := decide_eq_false (by omega)
  have d2 : decide (se < re) = false := decide_eq_false (by omega)
  have d5 : IntKind.i64.wrap (se - re) = se - re := by rw [IntKind.wrap_i64]; omega
  clear hF hb2 HFl
  by_cases hr0 : 0 < rm
  · have d6 : decide (0 < rm) = true := decide_eq_true hr0
    have d7 : decide (rm < se - re) = false := decide_eq_false (by have := f3 hr0; omega)
    clear f1 f2 f3 f4 f5
    go_wp2
    go_ret
    exact ⟨rfl, HB2.out⟩
  · have d6 : decide (0 < rm) = false := decide_eq_false hr0
    clear f1 f2 f3 f4 f5
    go_wp2
    go_ret
    exact ⟨rfl, HB2.out⟩
set_option maxRecDepth 4000 in
set_option maxHeartbeats 2000000 in
theorem sound_12 (ad : Option Addr) (n c : Nat) (es : List E6.Ev) (w : World) (hr : E6.ERow w ad n es) (hn : (n : Int) ≤ 1048576) (hg : ∀ e ∈ es, Eb e.g e.k e.o e.a) (g o a : Int) (s : Value) {T : List Me} {M : CS} (hT : Rch T M) (he : Eb g 12 o a) (hmap : es.map me = T ++ [⟨g, 12, o, a⟩]) (hgd : Gdm ⟨g, 12, o, a⟩) (hwy : M.why ⟨g, 12, o, a⟩ = 0) :
    Calls Tryz.prog 17 #[.agg #[.slice ad n c], .agg (evC g 12 o a s)] w fun e w' => e = .returned (.bool true) ∧ Below w.heap.size w w' := by
  obtain ⟨W0, hW0⟩ : ∃ W0, W0 = w.alloc (.cells #[.slice ad n c] 42) := ⟨_, rfl⟩
  obtain ⟨W, hW⟩ : ∃ W, W = W0.alloc (.cells (evC g 12 o a s) 36) := ⟨_, rfl⟩
  have hb0 : Below w.heap.size w W0 := by rw [hW0]; exact below_alloc1 w _
  have hb1 : Below W0.heap.size W0 W := by rw [hW]; exact below_alloc1 W0 _
  have hb := hb0.trans (hb1.mono hb0.size)
  have hE0 : W0.heap[w.heap.size]? = some (.cells #[.slice ad n c] 42 (0, 0)) := by rw [hW0]; exact heap_new _ _
  have hE1 : W.heap[W0.heap.size]? = some (.cells (evC g 12 o a s) 36 (0, 0)) := by rw [hW]; exact heap_new _ _
  obtain ⟨q0, q1, q2, q3, q4⟩ := evc0 hE1
  have z0 : W0.cell? ⟨w.heap.size, 0, none⟩ = some (.slice ad n c) := cell_at hE0 rfl
  have p0 := E6.cell_bel z0 hb1
  have hl0 : w.heap.size < W0.heap.size := lt_of_heap hE0
  have hl1 : W0.heap.size < W.heap.size := lt_of_heap hE1
  have hl2 : w.heap.size < W.heap.size := Nat.lt_trans hl0 hl1
  have HE := hide (hr.bel hb)
  have HG := hide hg
  have HB := hide hb
  have HW := hide (hW.trans (by rw [hW0]))
  have HS0 : W0.heap.size = w.heap.size + 1 := by rw [hW0]; simp
  rw [HS0] at q0 q1 q2 q3 q4 hl1
  have HCs : Hid (∀ X, Below W.heap.size W X → X.cell? ⟨w.heap.size, 0, none⟩ = some (.slice ad n c) ∧ X.cell? ⟨w.heap.size + 1, 0, none⟩ = some (.int .i64 g) ∧ X.cell? ⟨w.heap.size + 1, 1, none⟩ = some (.int .i64 12) ∧ X.cell? ⟨w.heap.size + 1, 2, none⟩ = some (.int .u64 o) ∧ X.cell? ⟨w.heap.size + 1, 3, none⟩ = some (.int .u64 a) ∧ w.heap.size < X.heap.size ∧ w.heap.size + 1 < X.heap.size) := hide (fun X hX => ⟨E6.cell_bel p0 hX, E6.cell_bel q0 hX, E6.cell_bel q1 hX, E6.cell_bel q2 hX, E6.cell_bel q3 hX, Nat.lt_of_lt_of_le hl2 hX.size, Nat.lt_of_lt_of_le hl1 hX.size⟩)
  have HT := hide hT
  have HMp := hide hmap
  have HGd := hide hgd
  have HWy := hide hwy
  have HEb := hide he
  clear hr hg hb hb0 hb1 hE0 hE1 hW hW0 z0 HS0 hT hmap hgd hwy he
  unfold evC
  unfold evC at HW
  have HFl := hide (lflow_any ad n c es W HE.out hn HG.out o)
  have HBm : Hid (∀ x ∈ T ++ [(⟨g, 12, o, a⟩ : Me)], x.k = 9 → 0 ≤ x.a ∧ x.a ≤ 65536) := hide (fun x hx hk => by
    rw [← HMp.out] at hx
    obtain ⟨y, hy, rfl⟩ := List.mem_map.1 hx
    have h2 := HG.out y hy
    exact ⟨h2.ok.a0, h2.mc hk⟩)
  have HLn : Hid ((es.map me).length = n) := hide (by rw [List.length_map, HE.out.len])
  go_enter Tryz.func17, Tryz.ntmps17
  go_wp2_with fail
  rw [← HW.out]
  clear HW
  go_wp2_with fail
  refine HFl.out.mono ?_
  rintro r w2 ⟨rm, se, re, cl, rfl, hF, hb2⟩
  have s1 : se ≤ 1048576 := by have h1 := hF.se; have h2 : cnA (es.map me) 10 o ≤ (es.map me).length := List.countP_le_length; rw [HLn.out] at h2; omega
  have s2 : 0 ≤ re := by have h1 := hF.re; omega
  rw [HMp.out] at hF
  obtain ⟨f1, f2, f3, f4, f5⟩ := snd_ch HT.out HGd.out HWy.out (by dsimp only; omega) HBm.out hF
  obtain ⟨p0, q0, q1, q2, q3, hl2, hl1⟩ := HCs.out w2 hb2
  have HB2 := hide (HB.out.trans (hb2.mono HB.out.size))
  have d1 : decide (rm < 0) = false := decide_eq_false (by omega)
  have d2 : decide (se < re) = false := decide_eq_false (by omega)
  have d5 : IntKind.i64.wrap (se - re) = se - re := by rw [IntKind.wrap_i64]; omega
  clear hF hb2 HFl
  by_cases hr0 : 0 < rm
  · have d6 : decide (0 < rm) = true := decide_eq_true hr0
    have d7 : decide (rm < se - re) = false := decide_eq_false (by have := f3 hr0; omega)
    by_cases ha : a = 0
    · have b1 := beq_t ha
      obtain ⟨f6, f7⟩ := f5 rfl ha
      have d8 : decide (0 ≤ cl) = true := decide_eq_true f6
      have d9 : (re == se) = true := beq_t f7
      clear f1 f2 f3 f4 f5 f6 f7 ha
      go_wp2
      go_ret
      exact ⟨rfl, HB2.out⟩
    · have b1 := beq_f ha
      clear f1 f2 f3 f4 f5 ha
      go_wp2
      go_ret
      exact ⟨rfl, HB2.out⟩
  · have d6 : decide (0 < rm) = false := decide_eq_false hr0
    by_cases ha : a = 0
    · have b1 := beq_t ha
      obtain ⟨f6, f7⟩ := f5 rfl ha
      have d8 : decide (0 ≤ cl) = true := decide_eq_true f6
      have d9 : (re == se) = true := beq_t f7
      clear f1 f2 f3 f4 f5 f6 f7 ha
      go_wp2
      go_ret
      exact ⟨rfl, HB2.out⟩
    · have b1 := beq_f ha
      clear f1 f2 f3 f4 f5 ha
      go_wp2
      go_ret
      exact ⟨rfl, HB2.out⟩
set_option maxRecDepth 4000 in
set_option maxHeartbeats 2000000 in
theorem sound_13 (ad : Option Addr) (n c : Nat) (es : List E6.Ev) (w : World) (hr : E6.ERow w ad n es) (hn : (n : Int) ≤ 1048576) (hg : ∀ e ∈ es, Eb e.g e.k e.o e.a) (g o a : Int) (s : Value) {T : List Me} {M : CS} (hT : Rch T M) (he : Eb g 13 o a) (hmap : es.map me = T ++ [⟨g, 13, o, a⟩]) (hgd : Gdm ⟨g, 13, o, a⟩) (hwy : M.why ⟨g, 13, o, a⟩ = 0) :
    Calls Tryz.prog 17 #[.agg #[.slice ad n c], .agg (evC g 13 o a s)] w fun e w' => e = .returned (.bool true) ∧ Below w.heap.size w w' := by
  obtain ⟨W0, hW0⟩ : ∃ W0, W0 = w.alloc (.cells #[.slice ad n c] 42) := ⟨_, rfl⟩
  obtain ⟨W, hW⟩ : ∃ W, W = W0.alloc (.cells (evC g 13 o a s) 36) := ⟨_, rfl⟩
  have hb0 : Below w.heap.size w W0 := by rw [hW0]; exact below_alloc1 w _
  have hb1 : Below W0.heap.size W0 W := by rw [hW]; exact below_alloc1 W0 _
  have hb := hb0.trans (hb1.mono hb0.size)
  have hE0 : W0.heap[w.heap.size]? = some (.cells #[.slice ad n c] 42 (0, 0)) := by rw [hW0]; exact heap_new _ _
  have hE1 : W.heap[W0.heap.size]? = some (.cells (evC g 13 o a s) 36 (0, 0)) := by rw [hW]; exact heap_new _ _
  obtain ⟨q0, q1, q2, q3, q4⟩ := evc0 hE1
  have z0 : W0.cell? ⟨w.heap.size, 0, none⟩ = some (.slice ad n c) := cell_at hE0 rfl
  have p0 := E6.cell_bel z0 hb1
  have hl0 : w.heap.size < W0.heap.size := lt_of_heap hE0
  have hl1 : W0.heap.size < W.heap.size := lt_of_heap hE1
  have hl2 : w.heap.size < W.heap.size := Nat.lt_trans hl0 hl1
  have HE := hide (hr.bel hb)
  have HG := hide hg
  have HB := hide hb
  have HW := hide (hW.trans (by rw [hW0]))
  have HS0 : W0.heap.size = w.heap.size + 1 := by rw [hW0]; simp
  rw [HS0] at q0 q1 q2 q3 q4 hl1
  have HCs : Hid (∀ X, Below W.heap.size W X → X.cell? ⟨w.heap.size, 0, none⟩ = some (.slice ad n c) ∧ X.cell? ⟨w.heap.size + 1, 0, none⟩ = some (.int .i64 g) ∧ X.cell? ⟨w.heap.size + 1, 1, none⟩ = some (.int .i64 13) ∧ X.cell? ⟨w.heap.size + 1, 2, none⟩ = some (.int .u64 o) ∧ X.cell? ⟨w.heap.size + 1, 3, none⟩ = some (.int .u64 a) ∧ w.heap.size < X.heap.size ∧ w.heap.size + 1 < X.heap.size) := hide (fun X hX => ⟨E6.cell_bel p0 hX, E6.cell_bel q0 hX, E6.cell_bel q1 hX, E6.cell_bel q2 hX, E6.cell_bel q3 hX, Nat.lt_of_lt_of_le hl2 hX.size, Nat.lt_of_lt_of_le hl1 hX.size⟩)
  have HT := hide hT
  have HMp := hide hmap
  have HGd := hide hgd
  have HWy := hide hwy
  have HEb := hide he
  clear hr hg hb hb0 hb1 hE0 hE1 hW hW0 z0 HS0 hT hmap hgd hwy he
  unfold evC
  unfold evC at HW
  have HFl := hide (lflow_any ad n c es W HE.out hn HG.out o)
  have HBm : Hid (∀ x ∈ T ++ [(⟨g, 13, o, a⟩ : Me)], x.k = 9 → 0 ≤ x.a ∧ x.a ≤ 65536) := hide (fun x hx hk => by
    rw [← HMp.out] at hx
    obtain ⟨y, hy, rfl⟩ := List.mem_map.1 hx
    have h2 := HG.out y hy
    exact ⟨h2.ok.a0, h2.mc hk⟩)
  have HLn : Hid ((es.map me).length = n) := hide (by rw [List.length_map, HE.out.len])
  go_enter Tryz.func17, Tryz.ntmps17
  go_wp2_with fail
  rw [← HW.out]
  clear HW
  go_wp2_with fail
  refine HFl.out.mono ?_
  rintro r w2 ⟨rm, se, re, cl, rfl, hF, hb2⟩
  have s1 : se ≤ 1048576 := by have h1 := hF.se; have h2 : cnA (es.map me) 10 o ≤ (es.map me).length := List.countP_le_length; rw [HLn.out] at h2; omega
  have s2 : 0 ≤ re := by have h1 := hF.re; omega
  rw [HMp.out] at hF
  obtain ⟨f1, f2, f3, f4, f5⟩ := snd_ch HT.out HGd.out HWy.out (by dsimp only; omega) HBm.out hF
  obtain ⟨p0, q0, q1, q2, q3, hl2, hl1⟩ := HCs.out w2 hb2
  have HB2 := hide (HB.out.trans (hb2.mono HB.out.size))
  have d1 : decide (rm < 0) = false := decide_eq_false (by omega)
  have d2 : decide (se < re) = false := decide_eq_false (by omega)
  have d5 : IntKind.i64.wrap (se - re) = se - re := by rw [IntKind.wrap_i64]; omega
  clear hF hb2 HFl
  by_cases hr0 : 0 < rm
  · have d6 : decide (0 < rm) = true := decide_eq_true hr0
    have d7 : decide (rm < se - re) = false := decide_eq_false (by have := f3 hr0; omega)
    clear f1 f2 f3 f4 f5
    go_wp2
    go_ret
    exact ⟨rfl, HB2.out⟩
  · have d6 : decide (0 < rm) = false := decide_eq_false hr0
    clear f1 f2 f3 f4 f5
    go_wp2
    go_ret
    exact ⟨rfl, HB2.out⟩
set_option maxRecDepth 4000 in
set_option maxHeartbeats 2000000 in
theorem sound_14 (ad : Option Addr) (n c : Nat) (es : List E6.Ev) (w : World) (hr : E6.ERow w ad n es) (hn : (n : Int) ≤ 1048576) (hg : ∀ e ∈ es, Eb e.g e.k e.o e.a) (g o a : Int) (s : Value) {T : List Me} {M : CS} (hT : Rch T M) (he : Eb g 14 o a) (hmap : es.map me = T ++ [⟨g, 14, o, a⟩]) (hgd : Gdm ⟨g, 14, o, a⟩) (hwy : M.why ⟨g, 14, o, a⟩ = 0) :
    Calls Tryz.prog 17 #[.agg #[.slice ad n c], .agg (evC g 14 o a s)] w fun e w' => e = .returned (.bool true) ∧ Below w.heap.size w w' := by
  obtain ⟨W0, hW0⟩ : ∃ W0, W0 = w.alloc (.cells #[.slice ad n c] 42) := ⟨_, rfl⟩
  obtain ⟨W, hW⟩ : ∃ W, W = W0.alloc (.cells (evC g 14 o a s) 36) := ⟨_, rfl⟩
  have hb0 : Below w.heap.size w W0 := by rw [hW0]; exact below_alloc1 w _
  have hb1 : Below W0.heap.size W0 W := by rw [hW]; exact below_alloc1 W0 _
  have hb := hb0.trans (hb1.mono hb0.size)
  have hE0 : W0.heap[w.heap.size]? = some (.cells #[.slice ad n c] 42 (0, 0)) := by rw [hW0]; exact heap_new _ _
  have hE1 : W.heap[W0.heap.size]? = some (.cells (evC g 14 o a s) 36 (0, 0)) := by rw [hW]; exact heap_new _ _
  obtain ⟨q0, q1, q2, q3, q4⟩ := evc0 hE1
  have z0 : W0.cell? ⟨w.heap.size, 0, none⟩ = some (.slice ad n c) := cell_at hE0 rfl
  have p0 := E6.cell_bel z0 hb1
  have hl0 : w.heap.size < W0.heap.size := lt_of_heap hE0
  have hl1 : W0.heap.size < W.heap.size := lt_of_heap hE1
  have hl2 : w.heap.size < W.heap.size := Nat.lt_trans hl0 hl1
  have HE := hide (hr.bel hb)
  have HG := hide hg
  have HB := hide hb
  have HW := hide (hW.trans (by rw [hW0]))
  have HS0 : W0.heap.size = w.heap.size + 1 := by rw [hW0]; simp
  rw [HS0] at q0 q1 q2 q3 q4 hl1
  have HCs : Hid (∀ X, Below W.heap.size W X → X.cell? ⟨w.heap.size, 0, none⟩ = some (.slice ad n c) ∧ X.cell? ⟨w.heap.size + 1, 0, none⟩ = some (.int .i64 g) ∧ X.cell? ⟨w.heap.size + 1, 1, none⟩ = some (.int .i64 14) ∧ X.cell? ⟨w.heap.size + 1, 2, none⟩ = some (.int .u64 o) ∧ X.cell? ⟨w.heap.size + 1, 3, none⟩ = some (.int .u64 a) ∧ w.heap.size < X.heap.size ∧ w.heap.size + 1 < X.heap.size) := hide (fun X hX => ⟨E6.cell_bel p0 hX, E6.cell_bel q0 hX, E6.cell_bel q1 hX, E6.cell_bel q2 hX, E6.cell_bel q3 hX, Nat.lt_of_lt_of_le hl2 hX.size, Nat.lt_of_lt_of_le hl1 hX.size⟩)
  have HT := hide hT
  have HMp := hide hmap
  have HGd := hide hgd
  have HWy := hide hwy
  have HEb := hide he
  clear hr hg hb hb0 hb1 hE0 hE1 hW hW0 z0 HS0 hT hmap hgd hwy he
  unfold evC
  unfold evC at HW
  have HSm := hide (lsum_any ad n c es W HE.out hn HG.out o)
  rw [HMp.out] at HSm
  obtain ⟨⟨f1, f2⟩, f3⟩ := snd_wg HT.out HGd.out HWy.out (.inl rfl)
  dsimp only at f1 f2 f3
  generalize cnZ (T ++ [(⟨g, 14, o, a⟩ : Me)]) o = Z at HSm f1 f2 f3
  have d1 : decide (0 ≤ Z) = true := decide_eq_true f1
  have d2 : decide (Z ≤ 2147483647) = true := decide_eq_true f2
  go_enter Tryz.func17, Tryz.ntmps17
  go_wp2_with fail
  rw [← HW.out]
  clear HW
  go_wp2_with fail
  refine HSm.out.mono ?_
  rintro r w2 ⟨rfl, hb2⟩
  obtain ⟨p0, q0, q1, q2, q3, hl2, hl1⟩ := HCs.out w2 hb2
  have HB2 := hide (HB.out.trans (hb2.mono HB.out.size))
  clear hb2 HSm f1 f2 f3
  go_wp2
  go_ret
  exact ⟨rfl, HB2.out⟩
set_option maxRecDepth 4000 in
set_option maxHeartbeats 2000000 in
theorem sound_15 (ad : Option Addr) (n c : Nat) (es : List E6.Ev) (w : World) (hr : E6.ERow w ad n es) (hn : (n : Int) ≤ 1048576) (hg : ∀ e ∈ es, Eb e.g e.k e.o e.a) (g o a : Int) (s : Value) {T : List Me} {M : CS} (hT : Rch T M) (he : Eb g 15 o a) (hmap : es.map me = T ++ [⟨g, 15, o, a⟩]) (hgd : Gdm ⟨g, 15, o, a⟩) (hwy : M.why ⟨g, 15, o, a⟩ = 0) :
    Calls Tryz.prog 17 #[.agg #[.slice ad n c], .agg (evC g 15 o a s)] w fun e w' => e = .returned (.bool true) ∧ Below w.heap.size w w' := by
  obtain ⟨W0, hW0⟩ : ∃ W0, W0 = w.alloc (.cells #[.slice ad n c] 42) := ⟨_, rfl⟩
  obtain ⟨W, hW⟩ : ∃ W, W = W0.alloc (.cells (evC g 15 o a s) 36) := ⟨_, rfl⟩
  have hb0 : Below w.heap.size w W0 := by rw [hW0]; exact below_alloc1 w _
  have hb1 : Below W0.heap.size W0 W := by rw [hW]; exact below_alloc1 W0 _
  have hb := hb0.trans (hb1.mono hb0.size)
  have hE0 : W0.heap[w.heap.size]? = some (.cells #[.slice ad n c] 42 (0, 0)) := by rw [hW0]; exact heap_new _ _
  have hE1 : W.heap[W0.heap.size]? = some (.cells (evC g 15 o a s) 36 (0, 0)) := by rw [hW]; exact heap_new _ _
  obtain ⟨q0, q1, q2, q3, q4⟩ := evc0 hE1
  have z0 : W0.cell? ⟨w.heap.size, 0, none⟩ = some (.slice ad n c) := cell_at hE0 rfl
  have p0 := E6.cell_bel z0 hb1
  have hl0 : w.heap.size < W0.heap.size := lt_of_heap hE0
  have hl1 : W0.heap.size < W.heap.size := lt_of_heap hE1
  have hl2 : w.heap.size < W.heap.size := Nat.lt_trans hl0 hl1
  have HE := hide (hr.bel hb)
  have HG := hide hg
  have HB := hide hb
  have HW := hide (hW.trans (by rw [hW0]))
  have HS0 : W0.heap.size = w.heap.size + 1 := by rw [hW0]; simp
  rw [HS0] at q0 q1 q2 q3 q4 hl1
  have HCs : Hid (∀ X, Below W.heap.size W X → X.cell? ⟨w.heap.size, 0, none⟩ = some (.slice ad n c) ∧ X.cell? ⟨w.heap.size + 1, 0, none⟩ = some (.int .i64 g) ∧ X.cell? ⟨w.heap.size + 1, 1, none⟩ = some (.int .i64 15) ∧ X.cell? ⟨w.heap.size + 1, 2, none⟩ = some (.int .u64 o) ∧ X.cell? ⟨w.heap.size + 1, 3, none⟩ = some (.int .u64 a) ∧ w.heap.size < X.heap.size ∧ w.heap.size + 1 < X.heap.size) := hide (fun X hX => ⟨E6.cell_bel p0 hX, E6.cell_bel q0 hX, E6.cell_bel q1 hX, E6.cell_bel q2 hX, E6.cell_bel q3 hX, Nat.lt_of_lt_of_le hl2 hX.size, Nat.lt_of_lt_of_le hl1 hX.size⟩)
  have HT := hide hT
  have HMp := hide hmap
  have HGd := hide hgd
  have HWy := hide hwy
  have HEb := hide he
  clear hr hg hb hb0 hb1 hE0 hE1 hW hW0 z0 HS0 hT hmap hgd hwy he
  unfold evC
  unfold evC at HW
  have HSm := hide (lsum_any ad n c es W HE.out hn HG.out o)
  rw [HMp.out] at HSm
  obtain ⟨⟨f1, f2⟩, f3⟩ := snd_wg HT.out HGd.out HWy.out (.inr rfl)
  dsimp only at f1 f2 f3
  generalize cnZ (T ++ [(⟨g, 15, o, a⟩ : Me)]) o = Z at HSm f1 f2 f3
  have d1 : decide (0 ≤ Z) = true := decide_eq_true f1
  have d2 : decide (Z ≤ 2147483647) = true := decide_eq_true f2
  have d3 : (Z == 0) = true := beq_t (f3 rfl)
  go_enter Tryz.func17, Tryz.ntmps17
  go_wp2_with fail
  rw [← HW.out]
  clear HW
  go_wp2_with fail
  refine HSm.out.mono ?_
  rintro r w2 ⟨rfl, hb2⟩
  obtain ⟨p0, q0, q1, q2, q3, hl2, hl1⟩ := HCs.out w2 hb2
  have HB2 := hide (HB.out.trans (hb2.mono HB.out.size))
  clear hb2 HSm f1 f2 f3
  go_wp2
  go_ret
  exact ⟨rfl, HB2.out⟩
set_option maxRecDepth 4000 in
set_option maxHeartbeats 2000000 in
theorem sound_no (ad : Option Addr) (n c : Nat) (es : List E6.Ev) (w : World) (hr : E6.ERow w ad n es) (hn : (n : Int) ≤ 1048576) (hg : ∀ e ∈ es, Eb e.g e.k e.o e.a) (g o a : Int) (s : Value) {T : List Me} {M : CS} (hT : Rch T M) (k : Int) (n9 : ¬ k = 9) (n10 : ¬ k = 10) (n11 : ¬ k = 11) (n12 : ¬ k = 12) (n13 : ¬ k = 13) (n14 : ¬ k = 14) (n15 : ¬ k = 15) (n20 : ¬ k = 20) (he : Eb g k o a) (hmap : es.map me = T ++ [⟨g, k, o, a⟩]) (hgd : Gdm ⟨g, k, o, a⟩) (hwy : M.why ⟨g, k, o, a⟩ = 0) :
    Calls Tryz.prog 17 #[.agg #[.slice ad n c], .agg (evC g k o a s)] w fun e w' => e = .returned (.bool true) ∧ Below w.heap.size w w' := by
  obtain ⟨W0, hW0⟩ : ∃ W0, W0 = w.alloc (.cells #[.slice ad n c] 42) := ⟨_, rfl⟩
  obtain ⟨W, hW⟩ : ∃ W, W = W0.alloc (.cells (evC g k o a s) 36) := ⟨_, rfl⟩
  have hb0 : Below w.heap.size w W0 := by rw [hW0]; exact below_alloc1 w _
  have hb1 : Below W0.heap.size W0 W := by rw [hW]; exact below_alloc1 W0 _
  have hb := hb0.trans (hb1.mono hb0.size)
  have hE0 : W0.heap[w.heap.size]? = some (.cells #[.slice ad n c] 42 (0, 0)) := by rw [hW0]; exact heap_new _ _
  have hE1 : W.heap[W0.heap.size]? = some (.cells (evC g k o a s) 36 (0, 0)) := by rw [hW]; exact heap_new _ _
  obtain ⟨q0, q1, q2, q3, q4⟩ := evc0 hE1
  have z0 : W0.cell? ⟨w.heap.size, 0, none⟩ = some (.slice ad n c) := cell_at hE0 rfl
  have p0 := E6.cell_bel z0 hb1
  have hl0 : w.heap.size < W0.heap.size := lt_of_heap hE0
  have hl1 : W0.heap.size < W.heap.size := lt_of_heap hE1
  have hl2 : w.heap.size < W.heap.size := Nat.lt_trans hl0 hl1
  have HE := hide (hr.bel hb)
  have HG := hide hg
  have HB := hide hb
  have HW := hide (hW.trans (by rw [hW0]))
  have HS0 : W0.heap.size = w.heap.size + 1 := by rw [hW0]; simp
  rw [HS0] at q0 q1 q2 q3 q4 hl1
  have HCs : Hid (∀ X, Below W.heap.size W X → X.cell? ⟨w.heap.size, 0, none⟩ = some (.slice ad n c) ∧ X.cell? ⟨w.heap.size + 1, 0, none⟩ = some (.int .i64 g) ∧ X.cell? ⟨w.heap.size + 1, 1, none⟩ = some (.int .i64 k) ∧ X.cell? ⟨w.heap.size + 1, 2, none⟩ = some (.int .u64 o) ∧ X.cell? ⟨w.heap.size + 1, 3, none⟩ = some (.int .u64 a) ∧ w.heap.size < X.heap.size ∧ w.heap.size + 1 < X.heap.size) := hide (fun X hX => ⟨E6.cell_bel p0 hX, E6.cell_bel q0 hX, E6.cell_bel q1 hX, E6.cell_bel q2 hX, E6.cell_bel q3 hX, Nat.lt_of_lt_of_le hl2 hX.size, Nat.lt_of_lt_of_le hl1 hX.size⟩)
  have HT := hide hT
  have HMp := hide hmap
  have HGd := hide hgd
  have HWy := hide hwy
  have HEb := hide he
  clear hr hg hb hb0 hb1 hE0 hE1 hW hW0 z0 HS0 hT hmap hgd hwy he
  unfold evC
  unfold evC at HW
  have b9 := beq_f n9
  have b10 := beq_f n10
  have b11 := beq_f n11
  have b12 := beq_f n12
  have b13 := beq_f n13
  have b14 := beq_f n14
  have b15 := beq_f n15
  have b20 := beq_f n20
  clear n9 n10 n11 n12 n13 n14 n15 n20
  go_enter Tryz.func17, Tryz.ntmps17
  go_wp2_with fail
  rw [← HW.out]
  clear HW
  go_wp2
  go_ret
  exact ⟨rfl, HB.out⟩
end Go.Proofs.YtafkammiehcdjaaGreatDoor
