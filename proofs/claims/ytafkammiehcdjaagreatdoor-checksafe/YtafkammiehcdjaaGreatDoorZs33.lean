import Derived.Test.YtafkammiehcdjaaGreatDoorZs32
import Derived.Test.YtafkammiehcdjaaGreatDoorZs31
import Derived.Test.YtafkammiehcdjaaGreatDoorZs19
/-
  The statement's own look at an allocation that was taken; sound, whole.
-/
namespace Go.Proofs.YtafkammiehcdjaaGreatDoor
open Go.RowKit Go.Maps
set_option linter.unusedVariables false
theorem u_wrap {xo xa : Int} (h1 : 1 ≤ xa) (h2 : xo + (xa - 1) ≤ 18446744073709551615) (h3 : 0 ≤ xo) : IntKind.u64.wrap (xa - 1) = xa - 1 ∧ IntKind.u64.wrap (xo + (xa - 1)) = xo + (xa - 1) := by
  refine ⟨?_, ?_⟩ <;> (rw [IntKind.wrap_u64]; omega)
set_option maxRecDepth 4000 in
set_option maxHeartbeats 8000000 in
theorem sound_20 (ad : Option Addr) (n c : Nat) (es : List E6.Ev) (w : World) (hr : E6.ERow w ad n es) (hn : (n : Int) ≤ 1048576) (hg : ∀ e ∈ es, Eb e.g e.k e.o e.a) (g o a : Int) (s : Value) {T : List Me} {M : CS} (hT : Rch T M) (he : Eb g 20 o a) (hmap : es.map me = T ++ [⟨g, 20, o, a⟩]) (hgd : Gdm ⟨g, 20, o, a⟩) (hwy : M.why ⟨g, 20, o, a⟩ = 0) :
    Calls Tryz.prog 17 #[.agg #[.slice ad n c], .agg (evC g 20 o a s)] w fun e w' => e = .returned (.bool true) ∧ Below w.heap.size w w' := by
  obtain ⟨W0, hW0⟩ : ∃ W0, W0 = w.alloc (.cells #[.slice ad n c] 42) := ⟨_, rfl⟩
  obtain ⟨W, hW⟩ : ∃ W, W = W0.alloc (.cells (evC g 20 o a s) 36) := ⟨_, rfl⟩
  have hb0 : Below w.heap.size w W0 := by rw [hW0]; exact below_alloc1 w _
  have hb1 : Below W0.heap.size W0 W := by rw [hW]; exact below_alloc1 W0 _
  have hb := hb0.trans (hb1.mono hb0.size)
  have hE0 : W0.heap[w.heap.size]? = some (.cells #[.slice ad n c] 42 (0, 0)) := by rw [hW0]; exact heap_new _ _
  have hE1 : W.heap[W0.heap.size]? = some (.cells (evC g 20 o a s) 36 (0, 0)) := by rw [hW]; exact heap_new _ _
  obtain ⟨q0, q1, q2, q3, q4⟩ := evc0 hE1
  have z0 : W0.cell? ⟨w.heap.size, 0, none⟩ = some (.slice ad n c) := cell_at hE0 rfl
  have p0 := E6.cell_bel z0 hb1
  have hl0 : w.heap.size < W0.heap.size := lt_of_heap hE0
  have hl1 : W0.heap.size < W.heap.size := lt_of_heap hE1
  have hl2 : w.heap.size < W.heap.size := Nat.lt_trans hl0 hl1
  have HE := hide (hr.bel hb)
  have HG := hide hg
  have HB := hide hb
  have HW := hide (hW.trans (by rw [hW0]))
  have HS0 : W0.heap.size = w.heap.size + 1 := by rw [hW0]; simp
  rw [HS0] at q0 q1 q2 q3 q4 hl1
  have HCs : Hid (∀ X, Below W.heap.size W X → X.cell? ⟨w.heap.size, 0, none⟩ = some (.slice ad n c) ∧ X.cell? ⟨w.heap.size + 1, 0, none⟩ = some (.int .i64 g) ∧ X.cell? ⟨w.heap.size + 1, 1, none⟩ = some (.int .i64 20) ∧ X.cell? ⟨w.heap.size + 1, 2, none⟩ = some (.int .u64 o) ∧ X.cell? ⟨w.heap.size + 1, 3, none⟩ = some (.int .u64 a) ∧ w.heap.size < X.heap.size ∧ w.heap.size + 1 < X.heap.size) := hide (fun X hX => ⟨E6.cell_bel p0 hX, E6.cell_bel q0 hX, E6.cell_bel q1 hX, E6.cell_bel q2 hX, E6.cell_bel q3 hX, Nat.lt_of_lt_of_le hl2 hX.size, Nat.lt_of_lt_of_le hl1 hX.size⟩)
  have HT := hide hT
  have HMp := hide hmap
  have HGd := hide hgd
  have HWy := hide hwy
  have HEb := hide he
  clear hr hg hb hb0 hb1 hE0 hE1 hW hW0 z0 HS0 hT hmap hgd hwy he
  unfold evC
  unfold evC at HW
  have hn1 : 0 < n := by
    have h1 : (es.map me).length = n := by rw [List.length_map, HE.out.len]
    rw [HMp.out, List.length_append] at h1
    simp at h1
    omega
  have HTl : Hid (T.length + 1 = n) := hide (by
    have h1 : (es.map me).length = n := by rw [List.length_map, HE.out.len]
    rw [HMp.out, List.length_append] at h1
    simpa using h1)
  have HTe : Hid (∀ i x, i + 1 < n → es[i]? = some x → T[i]? = some (me x)) := hide (fun i x hi hx => by
    have h1 : (es.map me)[i]? = some (me x) := by rw [List.getElem?_map, hx]; rfl
    rw [HMp.out, List.getElem?_append_left (by have := HTl.out; omega)] at h1
    exact h1)
  have HTf : Hid (∀ i y, T[i]? = some y → i < n ∧ ∃ x, es[i]? = some x ∧ me x = y) := hide (fun i y hy => by
    have hl := (List.getElem?_eq_some_iff.1 hy).1
    have h1 : (es.map me)[i]? = some y := by rw [HMp.out, List.getElem?_append_left hl]; exact hy
    rw [List.getElem?_map] at h1
    refine ⟨by have := HTl.out; omega, ?_⟩
    cases hq : es[i]? with
    | none => rw [hq] at h1; cases h1
    | some x => rw [hq] at h1; exact ⟨x, rfl, by simpa using h1⟩)
  obtain ⟨ea1, ea2⟩ := HEb.out.al (.inl rfl)
  have eo := HEb.out.ok.o0
  obtain ⟨w1, w2⟩ := u_wrap ea1 ea2 eo
  go_enter Tryz.func17, Tryz.ntmps17
  go_wp2_with fail
  rw [← HW.out]
  clear HW
  go_wp2
  clear p0 q0 q1 q2 q3 q4 ea1 ea2 eo
  go_loopw [10] (fun i wr => ∃ j : Nat, j + 1 ≤ n ∧ i = .int .i64 j ∧ Hid (Below W.heap.size W wr)) (fun i _ => n - (intOf i).toNat)
  case atStart => exact ⟨0, by omega, rfl, hide (Below.refl _ _)⟩
  case round =>
    obtain ⟨j, hj, rfl, HBl⟩ := hrel
    obtain ⟨p0, q0, q1, q2, q3, h2l, h1l⟩ := HCs.out wr HBl.out
    have hwj : IntKind.i64.wrap ((j : Int) + 1) = (j : Int) + 1 := by rw [IntKind.wrap_i64]; omega
    by_cases hlt : j + 1 < n
    · have hjI : (j : Int) + 1 < n := by omega
      have hjn : (j : Int) < n := by omega
      obtain ⟨b, off, x, ha, hxj, c0, c1, c2, c3, c4, hs⟩ := (HE.out.bel HBl.out).at (i := j) (by omega)
      subst ha
      have hxb := HG.out x (List.mem_of_getElem? hxj)
      have HXT := hide (HTe.out j x hlt hxj)
      obtain ⟨V, hV⟩ : ∃ V, V = wr.alloc (.cells #[.int .i64 x.g, .int .i64 x.k, .int .u64 x.o, .int .u64 x.a, .slice x.sa x.ls.length x.sc] 36) := ⟨_, rfl⟩
      have hbV : Below wr.heap.size wr V := by rw [hV]; exact below_alloc1 wr _
      have hVE : V.heap[wr.heap.size]? = some (.cells (evC x.g x.k x.o x.a (.slice x.sa x.ls.length x.sc)) 36 (0, 0)) := by rw [hV]; exact heap_new _ _
      obtain ⟨v0, v1, v2, v3, v4⟩ := evc0 hVE
      have hvl : wr.heap.size < V.heap.size := lt_of_heap hVE
      have HBV := hide (HBl.out.trans (hbV.mono HBl.out.size))
      obtain ⟨p0', q0', q1', q2', q3', h2l', h1l'⟩ := HCs.out V HBV.out
      have HVC : Hid (∀ X, Below V.heap.size V X → X.cell? ⟨wr.heap.size, 2, none⟩ = some (.int .u64 x.o) ∧ X.cell? ⟨wr.heap.size, 3, none⟩ = some (.int .u64 x.a) ∧ wr.heap.size < X.heap.size) := hide (fun X hX => ⟨E6.cell_bel v2 hX, E6.cell_bel v3 hX, Nat.lt_of_lt_of_le hvl hX.size⟩)
      have HV := hide hV
      clear hs hxj hbV hVE hV
      by_cases hk : x.k = 20
      · have hkb := bne_f hk
        obtain ⟨xa1, xa2⟩ := hxb.al (.inl hk)
        obtain ⟨w3, w4⟩ := u_wrap xa1 xa2 hxb.ok.o0
        by_cases h1 : o + (a - 1) < x.o
        · have d1 : decide (o + (a - 1) < x.o) = true := decide_eq_true h1
          clear hk hxb xa1 xa2
          go_wp2_with fail
          rw [← HV.out]
          clear HV
          go_wp2
          exact ⟨⟨j + 1, by omega, by go_num, HBV⟩, by simp [intOf]; omega⟩
        · have d1 : decide (o + (a - 1) < x.o) = false := decide_eq_false h1
          by_cases h2 : x.o + (x.a - 1) < o
          · have d2 : decide (x.o + (x.a - 1) < o) = true := decide_eq_true h2
            clear hk hxb xa1 xa2
            go_wp2_with fail
            rw [← HV.out]
            clear HV
            go_wp2
            exact ⟨⟨j + 1, by omega, by go_num, HBV⟩, by simp [intOf]; omega⟩
          · have d2 : decide (x.o + (x.a - 1) < o) = false := decide_eq_false h2
            obtain ⟨kf, yf, z1, z2, z3, z4, z5⟩ := snd_al HT.out HGd.out HWy.out rfl HXT.out hk (by show x.o ≤ o + (a - 1); omega) (by show o ≤ x.o + (x.a - 1); omega)
            obtain ⟨zn, xf, zx, zm⟩ := HTf.out kf yf z2
            have HFr : Hid (j < kf ∧ kf < n ∧ es[kf]? = some xf ∧ xf.k = 21 ∧ xf.o = x.o ∧ xf.a = x.a) := hide (by subst zm; exact ⟨z1, zn, zx, z3, z4, z5⟩)
            clear hk hxb xa1 xa2 z1 z2 z3 z4 z5 zn zx zm h1 h2
            have hwq : IntKind.i64.wrap ((j : Int) + 1) = (j : Int) + 1 := hwj
            go_wp2_with fail
            rw [← HV.out]
            clear HV
            generalize wr.heap.size = vb at v0 v1 v2 v3 v4 hvl HVC ⊢
            go_wp2
            clear p0 q0 q1 q2 q3 p0' q0' q1' q2' q3' v0 v1 v2 v3 v4 c0 c1 c2 c3 c4
            go_loopw [12, 13] (fun fv i wq => ∃ (m : Nat) (fb : Bool), j + 1 ≤ m ∧ m ≤ n ∧ i = .int .i64 m ∧ fv = .bool fb ∧ Hid (fb = true ∨ m ≤ kf) ∧ Hid (Below V.heap.size V wq)) (fun _ i _ => n - (intOf i).toNat)
            case atStart => exact ⟨j + 1, false, Nat.le_refl _, by omega, by go_num, rfl, hide (.inr (by have := HFr.out.1; omega)), hide (Below.refl _ _)⟩
            case round =>
              obtain ⟨m, fb, hm1, hm2, rfl, rfl, HFb, HBq⟩ := hrel
              have HBW := hide (HBV.out.trans (HBq.out.mono HBV.out.size))
              obtain ⟨p0, q0, q1, q2, q3, y1, y2⟩ := HCs.out wr HBW.out
              obtain ⟨v2, v3, y3⟩ := HVC.out wr HBq.out
              by_cases hmn : m < n
              · have hmI : (m : Int) < n := by omega
                have hm0 : (0 : Int) ≤ m := by omega
                obtain ⟨b2, off2, y, ha2, hym, e0, e1, e2, e3, e4, hs2⟩ := (HE.out.bel HBW.out).at hmn
                cases ha2
                have HYm := hide hym
                clear hs2 hym
                cases fb with
                | true =>
                  go_wp2_with fail
                  go_quiet (fail)
                  go_wp2
                  exact ⟨⟨m + 1, true, by omega, by omega, by go_num, rfl, hide (.inl rfl), hide (below_drewN HBq.out _)⟩, by simp [intOf]; omega⟩
                | false =>
                  have HNx : Hid (¬ (y.k = 21 ∧ y.o = x.o ∧ y.a = x.a) → false = true ∨ m + 1 ≤ kf) := hide (fun hq => by
                    rcases HFb.out with h9 | h9
                    · cases h9
                    · by_cases hmk : m = kf
                      · subst hmk
                        obtain ⟨_, _, g3, g4⟩ := HFr.out
                        rw [HYm.out] at g3
                        cases g3
                        exact absurd g4 hq
                      · exact .inr (by omega))
                  by_cases hk : y.k = 21
                  · have k1 := beq_t hk
                    by_cases ho : y.o = x.o
                    · have k2 := beq_t ho
                      by_cases hay : y.a = x.a
                      · have k3 := beq_t hay
                        clear hk ho hay
                        go_wp2_with fail
                        go_quiet (fail)
                        go_wp2
                        exact ⟨⟨m + 1, true, by omega, by omega, by go_num, rfl, hide (.inl rfl), hide (below_drewN HBq.out _)⟩, by simp [intOf]; omega⟩
                      · have k3 := beq_f hay
                        have HN2 := hide (HNx.out (fun z => hay z.2.2))
                        clear hk ho hay
                        go_wp2_with fail
                        go_quiet (fail)
                        go_wp2
                        exact ⟨⟨m + 1, false, by omega, by omega, by go_num, rfl, HN2, hide (below_drewN HBq.out _)⟩, by simp [intOf]; omega⟩
                    · have k2 := beq_f ho
                      have HN2 := hide (HNx.out (fun z => ho z.2.1))
                      clear hk ho
                      go_wp2_with fail
                      go_quiet (fail)
                      go_wp2
                      exact ⟨⟨m + 1, false, by omega, by omega, by go_num, rfl, HN2, hide (below_drewN HBq.out _)⟩, by simp [intOf]; omega⟩
                  · have k1 := beq_f hk
                    have HN2 := hide (HNx.out (fun z => hk z.1))
                    clear hk
                    go_wp2_with fail
                    go_quiet (fail)
                    go_wp2
                    exact ⟨⟨m + 1, false, by omega, by omega, by go_num, rfl, HN2, hide (below_drewN HBq.out _)⟩, by simp [intOf]; omega⟩
              · have h9 : fb = true := by
                  rcases HFb.out with h9 | h9
                  · exact h9
                  · have := HFr.out.2.1; omega
                subst h9
                have hm9 : ¬ (m : Int) < n := by omega
                go_wp2
                exact ⟨⟨j + 1, by omega, by go_num, HBW⟩, by simp [intOf]; omega⟩
      · have hkb := bne_t hk
        clear hk hxb
        go_wp2_with fail
        rw [← HV.out]
        clear HV
        go_wp2
        exact ⟨⟨j + 1, by omega, by go_num, HBV⟩, by simp [intOf]; omega⟩
    · have hjI : ¬ ((j : Int) + 1 < n) := by omega
      go_wp2
      go_ret
      exact ⟨rfl, HB.out.trans (HBl.out.mono HB.out.size)⟩
theorem sound_any (ad : Option Addr) (n c : Nat) (es : List E6.Ev) (w : World) (hr : E6.ERow w ad n es) (hn : (n : Int) ≤ 1048576) (hg : ∀ e ∈ es, Eb e.g e.k e.o e.a) (g o a : Int) (s : Value) {T : List Me} {M : CS} (hT : Rch T M) (k : Int) (he : Eb g k o a) (hmap : es.map me = T ++ [⟨g, k, o, a⟩]) (hgd : Gdm ⟨g, k, o, a⟩) (hwy : M.why ⟨g, k, o, a⟩ = 0) :
    Calls Tryz.prog 17 #[.agg #[.slice ad n c], .agg (evC g k o a s)] w fun e w' => e = .returned (.bool true) ∧ Below w.heap.size w w' := by
  by_cases n9 : k = 9
  · subst n9; exact sound_9 ad n c es w hr hn hg g o a s hT he hmap hgd hwy
  by_cases n10 : k = 10
  · subst n10; exact sound_10 ad n c es w hr hn hg g o a s hT he hmap hgd hwy
  by_cases n11 : k = 11
  · subst n11; exact sound_11 ad n c es w hr hn hg g o a s hT he hmap hgd hwy
  by_cases n12 : k = 12
  · subst n12; exact sound_12 ad n c es w hr hn hg g o a s hT he hmap hgd hwy
  by_cases n13 : k = 13
  · subst n13; exact sound_13 ad n c es w hr hn hg g o a s hT he hmap hgd hwy
  by_cases n14 : k = 14
  · subst n14; exact sound_14 ad n c es w hr hn hg g o a s hT he hmap hgd hwy
  by_cases n15 : k = 15
  · subst n15; exact sound_15 ad n c es w hr hn hg g o a s hT he hmap hgd hwy
  by_cases n20 : k = 20
  · subst n20; exact sound_20 ad n c es w hr hn hg g o a s hT he hmap hgd hwy
  exact sound_no ad n c es w hr hn hg g o a s hT k n9 n10 n11 n12 n13 n14 n15 n20 he hmap hgd hwy
end Go.Proofs.YtafkammiehcdjaaGreatDoor
/-
  The statement's own look at goroutines: quiet.
-/
namespace Go.Proofs.YtafkammiehcdjaaGreatDoor
open Go.RowKit Go.Maps
set_option linter.unusedVariables false
theorem tj_mem {es : List E6.Ev} {i m : Nat} {y : E6.Ev} (hy : es[m]? = some y) (hm : m < i) : me y ∈ Tj es i := by
  unfold Tj
  refine List.mem_map.2 ⟨y, ?_, rfl⟩
  refine List.mem_of_getElem? (i := m) ?_
  rw [List.getElem?_take, if_pos hm]
  exact hy
theorem tj_ex {es : List E6.Ev} {i : Nat} {z : Me} (hz : z ∈ Tj es i) : ∃ m y, m < i ∧ es[m]? = some y ∧ me y = z := by
  unfold Tj at hz
  obtain ⟨y, hy, rfl⟩ := List.mem_map.1 hz
  obtain ⟨m, hm, he⟩ := List.getElem_of_mem hy
  have h1 : (es.take i)[m]? = some y := by rw [List.getElem?_eq_getElem hm, he]
  rw [List.getElem?_take] at h1
  split at h1
  · rename_i h2; exact ⟨m, y, h2, h1, rfl⟩
  · cases h1
set_option maxRecDepth 4000 in
set_option maxHeartbeats 8000000 in
theorem quiet_any (ad : Option Addr) (n c : Nat) (es : List E6.Ev) (w : World) (hr : E6.ERow w ad n es) (hn : (n : Int) ≤ 1048576) (hg : ∀ e ∈ es, Eb e.g e.k e.o e.a) {M : CS} (hT : Rch (es.map me) M) :
    Calls Tryz.prog 19 #[.agg #[.slice ad n c]] w fun e w' => e = .returned (.bool true) ∧ Below w.heap.size w w' := by
  obtain ⟨W, hW⟩ : ∃ W, W = w.alloc (.cells #[.slice ad n c] 42) := ⟨_, rfl⟩
  have hb : Below w.heap.size w W := by rw [hW]; exact below_alloc1 w _
  have hE : W.heap[w.heap.size]? = some (.cells #[.slice ad n c] 42 (0, 0)) := by rw [hW]; exact heap_new _ _
  have p0 : W.cell? ⟨w.heap.size, 0, none⟩ = some (.slice ad n c) := cell_at hE rfl
  have hlt0 : w.heap.size < W.heap.size := lt_of_heap hE
  have HP0 : Hid (∀ X, Below W.heap.size W X → X.cell? ⟨w.heap.size, 0, none⟩ = some (.slice ad n c) ∧ w.heap.size < X.heap.size) := hide (fun X hX => ⟨E6.cell_bel p0 hX, Nat.lt_of_lt_of_le hlt0 hX.size⟩)
  have HE := hide (hr.bel hb)
  have HG := hide hg
  have HB := hide hb
  have HW := hide hW
  have HT := hide hT
  clear hr hg hb hW hE hT
  go_enter Tryz.func19, Tryz.ntmps19
  go_wp2_with fail
  rw [← HW.out]
  generalize hbb : w.heap.size = bb at p0 hlt0 HP0 ⊢
  have HBB := hide hbb
  clear HW hbb
  go_wp2
  clear p0
  go_loopw [3] (fun i wr => ∃ j : Nat, j ≤ n ∧ i = .int .i64 j ∧ Hid (Below W.heap.size W wr)) (fun i _ => n - (intOf i).toNat)
  case atStart => exact ⟨0, Nat.zero_le _, rfl, hide (Below.refl _ _)⟩
  case round =>
    obtain ⟨j, hj, rfl, HBl⟩ := hrel
    obtain ⟨p0, hp1⟩ := HP0.out wr HBl.out
    by_cases hlt : j < n
    · have hjI : (j : Int) < n := by omega
      obtain ⟨b, off, x, ha, hxj, c0, c1, c2, c3, c4, hs⟩ := (HE.out.bel HBl.out).at hlt
      subst ha
      obtain ⟨t1, t2, t3⟩ := quiet_at HT.out (Tj_split hxj)
      have HT1 : Hid (x.g = 0 ∨ ∃ m y, m < j ∧ es[m]? = some y ∧ y.k = 7 ∧ y.a = x.g) := hide (by
        rcases t1 with t1 | ⟨z, hz, h1, h2⟩
        · exact .inl t1
        · obtain ⟨m, y, hm, hy, rfl⟩ := tj_ex hz
          exact .inr ⟨m, y, hm, hy, h1, h2⟩)
      have HT2 : Hid (∀ m y, m < j → es[m]? = some y → ¬ (y.k = 8 ∧ y.a = x.g)) := hide (fun m y hm hy => t2 (me y) (tj_mem hy hm))
      have HT3 : Hid (x.k = 7 ∨ x.k = 8 → ∀ m y, m < j → es[m]? = some y → y.k = x.k → ¬ y.a = x.a) := hide (fun hk m y hm hy h1 h2 => t3 hk (me y) (tj_mem hy hm) ⟨h1, h2⟩)
      obtain ⟨V, hV⟩ : ∃ V, V = wr.alloc (.cells #[.int .i64 x.g, .int .i64 x.k, .int .u64 x.o, .int .u64 x.a, .slice x.sa x.ls.length x.sc] 36) := ⟨_, rfl⟩
      have hbV : Below wr.heap.size wr V := by rw [hV]; exact below_alloc1 wr _
      have hVE : V.heap[wr.heap.size]? = some (.cells (evC x.g x.k x.o x.a (.slice x.sa x.ls.length x.sc)) 36 (0, 0)) := by rw [hV]; exact heap_new _ _
      obtain ⟨v0, v1, v2, v3, v4⟩ := evc0 hVE
      have hvl : wr.heap.size < V.heap.size := lt_of_heap hVE
      have HBV := hide (HBl.out.trans (hbV.mono HBl.out.size))
      have HVC : Hid (∀ X, Below V.heap.size V X → X.cell? ⟨wr.heap.size, 0, none⟩ = some (.int .i64 x.g) ∧ X.cell? ⟨wr.heap.size, 1, none⟩ = some (.int .i64 x.k) ∧ X.cell? ⟨wr.heap.size, 3, none⟩ = some (.int .u64 x.a) ∧ wr.heap.size < X.heap.size) := hide (fun X hX => ⟨E6.cell_bel v0 hX, E6.cell_bel v1 hX, E6.cell_bel v3 hX, Nat.lt_of_lt_of_le hvl hX.size⟩)
      have HV := hide hV
      obtain ⟨fb0, hfb0⟩ : ∃ fb0, (x.g == 0) = fb0 := ⟨_, rfl⟩
      have HI0 : Hid (fb0 = true ∨ (¬ x.g = 0 ∧ ∀ q y, q < 0 → es[q]? = some y → ¬ (y.k = 7 ∧ y.a = x.g))) := hide (by
        by_cases h0 : x.g = 0
        · exact .inl (by rw [← hfb0]; exact beq_t h0)
        · exact .inr ⟨h0, fun q y hq => by omega⟩)
      clear hs hxj hbV hVE hV t1 t2 t3
      go_wp2_with fail
      rw [← HV.out]
      clear HV
      generalize wr.heap.size = vb at v0 v1 v2 v3 v4 hvl HVC ⊢
      go_wp2
      clear p0 hp1 v0 v1 v2 v3 v4 c0 c1 c2 c3 c4
      go_loopw [5, 6] (fun fv i wq => ∃ (m : Nat) (fb : Bool), m ≤ j ∧ i = .int .i64 m ∧ fv = .bool fb ∧ Hid (fb = true ∨ (¬ x.g = 0 ∧ ∀ q y, q < m → es[q]? = some y → ¬ (y.k = 7 ∧ y.a = x.g))) ∧ Hid (Below V.heap.size V wq)) (fun _ i _ => j - (intOf i).toNat)
      case atStart => exact ⟨0, fb0, Nat.zero_le _, rfl, rfl, HI0, hide (Below.refl _ _)⟩
      case round =>
        obtain ⟨m, fb, hm, rfl, rfl, HFb, HBq⟩ := hrel
        clear HI0 hfb0
        have HBW := hide (HBV.out.trans (HBq.out.mono HBV.out.size))
        obtain ⟨p0, hp1⟩ := HP0.out wr HBW.out
        obtain ⟨v0, v1, v3, hv1⟩ := HVC.out wr HBq.out
        by_cases hmj : m < j
        · have hmI : (m : Int) < j := by omega
          have hmn : (m : Int) < n := by omega
          obtain ⟨b2, off2, y, ha2, hym, e0, e1, e2, e3, e4, hs2⟩ := (HE.out.bel HBW.out).at (i := m) (by omega)
          cases ha2
          have hyb := HG.out y (List.mem_of_getElem? hym)
          have HN8 := hide (HT2.out m y hmj hym)
          have HN3 := hide (fun hk => HT3.out hk m y hmj hym)
          have HNx : Hid (∀ f : Bool, (f = true ∨ (¬ x.g = 0 ∧ ∀ q y, q < m → es[q]? = some y → ¬ (y.k = 7 ∧ y.a = x.g))) → ¬ (y.k = 7 ∧ y.a = x.g) → (f = true ∨ (¬ x.g = 0 ∧ ∀ q y, q < m + 1 → es[q]? = some y → ¬ (y.k = 7 ∧ y.a = x.g)))) := hide (fun f hf hq => by
            rcases hf with hf | ⟨hf, hg⟩
            · exact .inl hf
            · refine .inr ⟨hf, fun q z hqm hz => ?_⟩
              by_cases hqq : q = m
              · subst hqq; rw [hym] at hz; cases hz; exact hq
              · exact hg q z (by omega) hz)
          obtain ⟨U, hU⟩ : ∃ U, U = wr.alloc (.cells #[.int .i64 y.g, .int .i64 y.k, .int .u64 y.o, .int .u64 y.a, .slice y.sa y.ls.length y.sc] 36) := ⟨_, rfl⟩
          have hbU : Below wr.heap.size wr U := by rw [hU]; exact below_alloc1 wr _
          have hUE : U.heap[wr.heap.size]? = some (.cells (evC y.g y.k y.o y.a (.slice y.sa y.ls.length y.sc)) 36 (0, 0)) := by rw [hU]; exact heap_new _ _
          obtain ⟨u0, u1, u2, u3, u4⟩ := evc0 hUE
          have hul : wr.heap.size < U.heap.size := lt_of_heap hUE
          have HBU := hide (HBq.out.trans (hbU.mono HBq.out.size))
          obtain ⟨g0, g1, g3, hg1⟩ := HVC.out U HBU.out
          have HU := hide hU
          clear hs2 hym hbU hUE hU
          by_cases y7 : y.k = 7
          · have k7 := beq_t y7
            have k8 : (y.k == 8) = false := beq_f (by omega)
            have hwa : IntKind.i64.wrap y.a = y.a := by rw [IntKind.wrap_i64]; have := hyb.fj (.inl y7); have := hyb.ok.a0; omega
            by_cases yg : y.a = x.g
            · have kg := beq_t yg
              clear y7 yg hyb
              by_cases x7 : x.k = 7
              · have kx7 := beq_t x7
                by_cases hyx : y.k = x.k
                · have kx := beq_t hyx
                  have kn := beq_f (HN3.out (.inl x7) hyx)
                  clear hyx x7
                  go_wp2_with fail
                  rw [← HU.out]
                  clear HU
                  go_wp2
                  exact ⟨⟨m + 1, true, by omega, by go_num, rfl, hide (.inl rfl), HBU⟩, by simp [intOf]; omega⟩
                · have kx := beq_f hyx
                  clear hyx x7
                  go_wp2_with fail
                  rw [← HU.out]
                  clear HU
                  go_wp2
                  exact ⟨⟨m + 1, true, by omega, by go_num, rfl, hide (.inl rfl), HBU⟩, by simp [intOf]; omega⟩
              · have kx7 := beq_f x7
                by_cases x8 : x.k = 8
                · have kx8 := beq_t x8
                  by_cases hyx : y.k = x.k
                  · have kx := beq_t hyx
                    have kn := beq_f (HN3.out (.inr x8) hyx)
                    clear hyx x7 x8
                    go_wp2_with fail
                    rw [← HU.out]
                    clear HU
                    go_wp2
                    exact ⟨⟨m + 1, true, by omega, by go_num, rfl, hide (.inl rfl), HBU⟩, by simp [intOf]; omega⟩
                  · have kx := beq_f hyx
                    clear hyx x7 x8
                    go_wp2_with fail
                    rw [← HU.out]
                    clear HU
                    go_wp2
                    exact ⟨⟨m + 1, true, by omega, by go_num, rfl, hide (.inl rfl), HBU⟩, by simp [intOf]; omega⟩
                · have kx8 := beq_f x8
                  clear x7 x8
                  go_wp2_with fail
                  rw [← HU.out]
                  clear HU
                  go_wp2
                  exact ⟨⟨m + 1, true, by omega, by go_num, rfl, hide (.inl rfl), HBU⟩, by simp [intOf]; omega⟩
            · have kg := beq_f yg
              have HN2 := hide (HNx.out fb HFb.out (fun q => yg q.2))
              clear y7 yg hyb
              by_cases x7 : x.k = 7
              · have kx7 := beq_t x7
                by_cases hyx : y.k = x.k
                · have kx := beq_t hyx
                  have kn := beq_f (HN3.out (.inl x7) hyx)
                  clear hyx x7
                  go_wp2_with fail
                  rw [← HU.out]
                  clear HU
                  go_wp2
                  exact ⟨⟨m + 1, fb, by omega, by go_num, rfl, HN2, HBU⟩, by simp [intOf]; omega⟩
                · have kx := beq_f hyx
                  clear hyx x7
                  go_wp2_with fail
                  rw [← HU.out]
                  clear HU
                  go_wp2
                  exact ⟨⟨m + 1, fb, by omega, by go_num, rfl, HN2, HBU⟩, by simp [intOf]; omega⟩
              · have kx7 := beq_f x7
                by_cases x8 : x.k = 8
                · have kx8 := beq_t x8
                  by_cases hyx : y.k = x.k
                  · have kx := beq_t hyx
                    have kn := beq_f (HN3.out (.inr x8) hyx)
                    clear hyx x7 x8
                    go_wp2_with fail
                    rw [← HU.out]
                    clear HU
                    go_wp2
                    exact ⟨⟨m + 1, fb, by omega, by go_num, rfl, HN2, HBU⟩, by simp [intOf]; omega⟩
                  · have kx := beq_f hyx
                    clear hyx x7 x8
                    go_wp2_with fail
                    rw [← HU.out]
                    clear HU
                    go_wp2
                    exact ⟨⟨m + 1, fb, by omega, by go_num, rfl, HN2, HBU⟩, by simp [intOf]; omega⟩
                · have kx8 := beq_f x8
                  clear x7 x8
                  go_wp2_with fail
                  rw [← HU.out]
                  clear HU
                  go_wp2
                  exact ⟨⟨m + 1, fb, by omega, by go_num, rfl, HN2, HBU⟩, by simp [intOf]; omega⟩
          · have k7 := beq_f y7
            have HN2 := hide (HNx.out fb HFb.out (fun q => y7 q.1))
            by_cases y8 : y.k = 8
            · have k8 := beq_t y8
              have hwa : IntKind.i64.wrap y.a = y.a := by rw [IntKind.wrap_i64]; have := hyb.fj (.inr y8); have := hyb.ok.a0; omega
              have kg : (y.a == x.g) = false := beq_f (fun q => HN8.out ⟨y8, q⟩)
              clear y7 y8 hyb
              by_cases x7 : x.k = 7
              · have kx7 := beq_t x7
                by_cases hyx : y.k = x.k
                · have kx := beq_t hyx
                  have kn := beq_f (HN3.out (.inl x7) hyx)
                  clear hyx x7
                  go_wp2_with fail
                  rw [← HU.out]
                  clear HU
                  go_wp2
                  exact ⟨⟨m + 1, fb, by omega, by go_num, rfl, HN2, HBU⟩, by simp [intOf]; omega⟩
                · have kx := beq_f hyx
                  clear hyx x7
                  go_wp2_with fail
                  rw [← HU.out]
                  clear HU
                  go_wp2
                  exact ⟨⟨m + 1, fb, by omega, by go_num, rfl, HN2, HBU⟩, by simp [intOf]; omega⟩
              · have kx7 := beq_f x7
                by_cases x8 : x.k = 8
                · have kx8 := beq_t x8
                  by_cases hyx : y.k = x.k
                  · have kx := beq_t hyx
                    have kn := beq_f (HN3.out (.inr x8) hyx)
                    clear hyx x7 x8
                    go_wp2_with fail
                    rw [← HU.out]
                    clear HU
                    go_wp2
                    exact ⟨⟨m + 1, fb, by omega, by go_num, rfl, HN2, HBU⟩, by simp [intOf]; omega⟩
                  · have kx := beq_f hyx
                    clear hyx x7 x8
                    go_wp2_with fail
                    rw [← HU.out]
                    clear HU
                    go_wp2
                    exact ⟨⟨m + 1, fb, by omega, by go_num, rfl, HN2, HBU⟩, by simp [intOf]; omega⟩
                · have kx8 := beq_f x8
                  clear x7 x8
                  go_wp2_with fail
                  rw [← HU.out]
                  clear HU
                  go_wp2
                  exact ⟨⟨m + 1, fb, by omega, by go_num, rfl, HN2, HBU⟩, by simp [intOf]; omega⟩
            · have k8 := beq_f y8
              clear y7 y8 hyb
              by_cases x7 : x.k = 7
              · have kx7 := beq_t x7
                by_cases hyx : y.k = x.k
                · have kx := beq_t hyx
                  have kn := beq_f (HN3.out (.inl x7) hyx)
                  clear hyx x7
                  go_wp2_with fail
                  rw [← HU.out]
                  clear HU
                  go_wp2
                  exact ⟨⟨m + 1, fb, by omega, by go_num, rfl, HN2, HBU⟩, by simp [intOf]; omega⟩
                · have kx := beq_f hyx
                  clear hyx x7
                  go_wp2_with fail
                  rw [← HU.out]
                  clear HU
                  go_wp2
                  exact ⟨⟨m + 1, fb, by omega, by go_num, rfl, HN2, HBU⟩, by simp [intOf]; omega⟩
              · have kx7 := beq_f x7
                by_cases x8 : x.k = 8
                · have kx8 := beq_t x8
                  by_cases hyx : y.k = x.k
                  · have kx := beq_t hyx
                    have kn := beq_f (HN3.out (.inr x8) hyx)
                    clear hyx x7 x8
                    go_wp2_with fail
                    rw [← HU.out]
                    clear HU
                    go_wp2
                    exact ⟨⟨m + 1, fb, by omega, by go_num, rfl, HN2, HBU⟩, by simp [intOf]; omega⟩
                  · have kx := beq_f hyx
                    clear hyx x7 x8
                    go_wp2_with fail
                    rw [← HU.out]
                    clear HU
                    go_wp2
                    exact ⟨⟨m + 1, fb, by omega, by go_num, rfl, HN2, HBU⟩, by simp [intOf]; omega⟩
                · have kx8 := beq_f x8
                  clear x7 x8
                  go_wp2_with fail
                  rw [← HU.out]
                  clear HU
                  go_wp2
                  exact ⟨⟨m + 1, fb, by omega, by go_num, rfl, HN2, HBU⟩, by simp [intOf]; omega⟩
        · have h9 : m = j := by omega
          subst h9
          have h8 : fb = true := by
            rcases HFb.out with h8 | ⟨h8, h7⟩
            · exact h8
            · rcases HT1.out with h6 | ⟨q, y, h5, h4, h3⟩
              · exact absurd h6 h8
              · exact absurd h3 (h7 q y h5 h4)
          subst h8
          go_wp2
          exact ⟨⟨m + 1, by omega, by go_num, HBW⟩, by simp [intOf]; omega⟩
    · have hjn : ¬ (j : Int) < n := by omega
      go_wp2
      go_ret
      exact ⟨rfl, HBB.out ▸ HB.out.trans (HBl.out.mono HB.out.size)⟩
end Go.Proofs.YtafkammiehcdjaaGreatDoor
