import Derived.Test.YtafkammiehcdjaaGreatDoorZa37
/-
  The document's Held.
-/
namespace Go.Proofs.YtafkammiehcdjaaGreatDoor
open Go.RowKit Go.Maps
set_option linter.unusedVariables false
def lenOf : Value → Nat
  | .slice _ n _ => n
  | _ => 0
def Gh (T : List Me) (g : Int) (x : E6.Ev) : Prop := x.g = g ∧ (3 ≤ x.k ∧ x.k ≤ 6) ∧ (wrs T g x.o = true ∨ rds T g x.o = true)
theorem Hl.push1 {w wr w' : World} {v1 v2 v' : Value} {K : List Int} {D : List Bool} {x : Int} (h : Hl w wr v1 v2 K D) (ho : Own layU 33 w' w.heap.size v' (K ++ [x])) (hg : wr.grownBy w' v1.ownBlock) : Hl w w' v' v2 (K ++ [x]) D :=
  ⟨ho, h.od.but (But.of_grown (S := fun k => v1.ownBlock = some k) hg (fun k e => e)) (E6.own_ne h.od h.ok (by decide)), h.bel.trans (((But.refl (fun k => w.heap.size ≤ k) _).grown hg (fun k _ e => (h.ok.lt k e).1)).below h.bel.size (fun k e => e))⟩
theorem Hl.push2 {w wr w' : World} {v1 v2 v' : Value} {K : List Int} {D : List Bool} {x : Bool} (h : Hl w wr v1 v2 K D) (ho : Own layBo 4 w' w.heap.size v' (D ++ [x])) (hg : wr.grownBy w' v2.ownBlock) : Hl w w' v1 v' K (D ++ [x]) :=
  ⟨h.ok.but (But.of_grown (S := fun k => v2.ownBlock = some k) hg (fun k e => e)) (E6.own_ne h.ok h.od (by decide)), ho, h.bel.trans (((But.refl (fun k => w.heap.size ≤ k) _).grown hg (fun k _ e => (h.od.lt k e).1)).below h.bel.size (fun k e => e))⟩
set_option maxRecDepth 8000 in
set_option maxHeartbeats 16000000 in
theorem rHeld_any (rb : Nat) (ta : Option Addr) (n tc : Nat) (es : List E6.Ev) (w : World) (hcell : w.cell? ⟨rb, 0, none⟩ = some (.slice ta n tc)) (hr : E6.ERow w ta n es) (hn : (n : Int) ≤ 1048576) (hg : ∀ e ∈ es, Eb e.g e.k e.o e.a) {M : CS} (hR : Rch (es.map me) M) (g : Int) (hfew : ((heldK M g).length : Int) ≤ 2000000) :
    Calls Tryz.prog 46 #[.pointer (some ⟨rb, 0, none⟩), .int .i64 g] w fun e w' => ∃ v1 v2, e = .returned (.tuple #[v1, v2]) ∧ Hl w w' v1 v2 (heldK M g) ((heldK M g).map M.toWrite) := by
  have hL := hR.lkL
  obtain ⟨K, hK⟩ : ∃ K, heldK M g = K := ⟨_, rfl⟩
  have HKr : Hid (K.Pairwise (· < ·)) := hide (by rw [← hK]; exact held_ris hL g)
  have HKG : Hid (∀ x ∈ es, Gh (es.map me) g x → x.o ∈ K) := hide (fun x hx hG => by rw [← hK]; exact (held_iff hL).2 hG.2.2)
  have HKE : Hid (∀ o ∈ K, ∃ x ∈ es, Gh (es.map me) g x ∧ x.o = o) := hide (fun o ho => by
    rw [← hK] at ho
    obtain ⟨y, hy, h1, h2, h3⟩ := held_ev hL ho
    obtain ⟨x, hx, rfl⟩ := List.mem_map.1 hy
    exact ⟨x, hx, ⟨h1, h2, by have h4 : x.o = o := h3; rw [h4]; exact (held_iff hL).1 ho⟩, h3⟩)
  have HKw : Hid (∀ o ∈ K, wrs (es.map me) g o = M.toWrite o) := hide (fun o ho => held_w hL (by rw [hK]; exact ho))
  rw [hK] at hfew ⊢
  obtain ⟨kn, hkn⟩ : ∃ kn, K.length = kn := ⟨_, rfl⟩
  have hknI : (kn : Int) ≤ 2000000 := by rw [← hkn]; exact hfew
  have HKn := hide hkn
  have HG := hide hg
  have HE := hide hr
  have hblt := World.block_lt_of_cell? w _ hcell
  have HCr : Hid (∀ X, Below w.heap.size w X → X.cell? ⟨rb, 0, none⟩ = some (.slice ta n tc) ∧ rb < X.heap.size) := hide (fun X hX => ⟨E6.cell_bel hcell hX, Nat.lt_of_lt_of_le hblt hX.size⟩)
  obtain ⟨i0, hi0, hz0, hz1, hz2⟩ := info_parts Tryz.infoU
  obtain ⟨i1, hi1, hy0, hy1, hy2⟩ := info_parts Tryz.infoBo
  clear hL hK hfew hkn hg hr hcell hR hblt
  go_enter Tryz.func46, Tryz.ntmps46
  go_wp2
  go_loopw [6, 7] (fun v6 v7 wr => ∃ (p c6 c7 : Nat) (a6 a7 : Option Addr), p ≤ kn ∧ v6 = .slice a6 p c6 ∧ v7 = .slice a7 p c7 ∧ Hid (Hl w wr (.slice a6 p c6) (.slice a7 p c7) (K.take p) ((K.take p).map M.toWrite))) (fun v6 _ _ => kn - lenOf v6)
  case atStart => exact ⟨0, 0, 0, none, none, Nat.zero_le _, rfl, rfl, hide (by simpa using ⟨Own.nil _ _ _ _, Own.nil _ _ _ _, Below.refl _ _⟩)⟩
  case round =>
    obtain ⟨p, c6, c7, a6, a7, hp, rfl, rfl, HH⟩ := hrel
    go_wp2
    go_loopw [8, 9] (fun b8 i wq => ∃ (j : Nat) (best : Int), j ≤ n ∧ i = .int .i64 j ∧ b8 = .int .i64 best ∧ Hid (Bst es K p (Gh (es.map me) g) j best) ∧ Hid (Hl w wq (.slice a6 p c6) (.slice a7 p c7) (K.take p) ((K.take p).map M.toWrite))) (fun _ i _ => n - (intOf i).toNat)
    case atStart => exact ⟨0, -1, Nat.zero_le _, rfl, rfl, hide Bst.zero, HH⟩
    case round =>
      obtain ⟨j, best, hj, rfl, rfl, HBst, HQ⟩ := hrel
      clear HH
      obtain ⟨r0, rl0⟩ := HCr.out wr HQ.out.bel
      by_cases hlt : j < n
      · have hjI : (j : Int) < n := by omega
        obtain ⟨b, off, x, ha, hxj, c0, c1, c2, c3, c4, hs⟩ := (HE.out.bel HQ.out.bel).at hlt
        subst ha
        have hxb := HG.out x (List.mem_of_getElem? hxj)
        have HXB := hide hxb
        have HXJ := hide hxj
        obtain ⟨V, hV⟩ : ∃ V, V = wr.alloc (.cells #[.int .i64 x.g, .int .i64 x.k, .int .u64 x.o, .int .u64 x.a, .slice x.sa x.ls.length x.sc] 36) := ⟨_, rfl⟩
        have hbV : Below wr.heap.size wr V := by rw [hV]; exact below_alloc1 wr _
        have hVE : V.heap[wr.heap.size]? = some (.cells (evC x.g x.k x.o x.a (.slice x.sa x.ls.length x.sc)) 36 (0, 0)) := by rw [hV]; exact heap_new _ _
        obtain ⟨v0, v1, v2, v3, v4⟩ := evc0 hVE
        have hvl : wr.heap.size < V.heap.size := lt_of_heap hVE
        have HQV := hide (HQ.out.on hbV)
        have HV := hide hV
        obtain ⟨r1, rl1⟩ := HCr.out V HQV.out.bel
        have HEV := hide (HE.out.bel HQV.out.bel)
        clear hs hxj hbV hVE hV hxb
        by_cases hxg : x.g = g
        · have bg := bne_f hxg
          have hg0 : 0 ≤ g := by rw [← hxg]; exact HXB.out.ok.g0
          obtain ⟨WV, hWV⟩ : ∃ WV, wrs (es.map me) g x.o = WV := ⟨_, rfl⟩
          obtain ⟨RV, hRV⟩ : ∃ RV, rds (es.map me) g x.o = RV := ⟨_, rfl⟩
          have HQw : Hid (∀ q, Calls Tryz.prog 107 #[.slice (some ⟨b, off, none⟩) n tc, .int .i64 g, .int .u64 x.o] (V.drewN q) fun e w' => e = .returned (.bool WV) ∧ w' = V.drewN q) := hide (fun q => by rw [← hWV]; exact rwrites_any (some ⟨b, off, none⟩) n tc es (V.drewN q) (HEV.out.bel (below_drewN (Below.refl _ _) q)) hn g x.o hg0)
          have HQr : Hid (∀ q, Calls Tryz.prog 108 #[.slice (some ⟨b, off, none⟩) n tc, .int .i64 g, .int .u64 x.o] (V.drewN q) fun e w' => e = .returned (.bool RV) ∧ w' = V.drewN q) := hide (fun q => by rw [← hRV]; exact rreads_any (some ⟨b, off, none⟩) n tc es (V.drewN q) (HEV.out.bel (below_drewN (Below.refl _ _) q)) hn g x.o hg0)
          by_cases hk3 : x.k < 3
          · have b3 : decide (x.k < 3) = true := decide_eq_true hk3
            have HNc : Hid (¬ Cnd K p (Gh (es.map me) g) x) := hide (fun q => by have := q.1.2.1.1; omega)
            clear hxg hg0 hk3 hWV hRV
            go_wp2_with fail
            rw [← HV.out]
            clear HV
            go_quiet ((first | (go_at_call 107; exact Calls.quiet_of_same (HQw.out _)) | (go_at_call 108; exact Calls.quiet_of_same (HQr.out _))))
            go_wp2
            exact ⟨⟨j + 1, best, by omega, by go_num, rfl, hide (HBst.out.skip HXJ.out HNc.out), hide (HQV.out.on (below_drewN (Below.refl _ _) _))⟩, by simp [intOf]; omega⟩
          · have b3 : decide (x.k < 3) = false := decide_eq_false hk3
            by_cases hk6 : 6 < x.k
            · have b6 : decide (6 < x.k) = true := decide_eq_true hk6
              have HNc : Hid (¬ Cnd K p (Gh (es.map me) g) x) := hide (fun q => by have := q.1.2.1.2; omega)
              clear hxg hg0 hk3 hk6 hWV hRV
              go_wp2_with fail
              rw [← HV.out]
              clear HV
              go_quiet ((first | (go_at_call 107; exact Calls.quiet_of_same (HQw.out _)) | (go_at_call 108; exact Calls.quiet_of_same (HQr.out _))))
              go_wp2
              exact ⟨⟨j + 1, best, by omega, by go_num, rfl, hide (HBst.out.skip HXJ.out HNc.out), hide (HQV.out.on (below_drewN (Below.refl _ _) _))⟩, by simp [intOf]; omega⟩
            · have b6 : decide (6 < x.k) = false := decide_eq_false hk6
              cases WV with
              | true =>
                have HG9 : Hid (Gh (es.map me) g x) := hide ⟨hxg, by omega, .inl hWV⟩
                clear hxg hg0 hk3 hk6 hWV hRV
                go_wp2_with fail
                rw [← HV.out]
                clear HV
                go_quiet ((first | (go_at_call 107; exact Calls.quiet_of_same (HQw.out _)) | (go_at_call 108; exact Calls.quiet_of_same (HQr.out _))))
                by_cases hp0 : p = 0
                · subst hp0
                  have HCn : Hid (Cnd K 0 (Gh (es.map me) g) x) := hide ⟨HG9.out, .inl rfl⟩
                  by_cases hb0 : best < 0
                  · have bb : decide (best < 0) = true := decide_eq_true hb0
                    have HB2 := hide (HBst.out.take HXJ.out HCn.out (fun q => absurd hb0 q))
                    clear hb0
                    go_wp2_with fail
                    go_quiet (fail)
                    go_wp2
                    exact ⟨⟨j + 1, (j : Int), by omega, by go_num, rfl, HB2, hide (HQV.out.on (below_drewN (Below.refl _ _) _))⟩, by simp [intOf]; omega⟩
                  · have bb : decide (best < 0) = false := decide_eq_false hb0
                    obtain ⟨bi, z, hbi, hbl, hbz, hw1, hw2⟩ := HBst.out.yes hb0
                    clear hw1 hw2
                    subst hbi
                    have hbI : (bi : Int) < n := by omega
                    have hbI0 : (0 : Int) ≤ bi := by omega
                    obtain ⟨b2, off2, z2, ha2, hz2', d0, d1, d2, d3, d4, hs2⟩ := HEV.out.at (i := bi) (by omega)
                    cases ha2
                    rw [hbz] at hz2'
                    cases hz2'
                    by_cases hxz : x.o < z.o
                    · have bxz : decide (x.o < z.o) = true := decide_eq_true hxz
                      have HB2 := hide (HBst.out.take HXJ.out HCn.out (fun _ i y hi hy => by obtain rfl : i = bi := (by omega); rw [hbz] at hy; cases hy; omega))
                      clear hxz hb0 hbz hbl hs2
                      go_wp2_with fail
                      go_quiet (fail)
                      go_wp2
                      exact ⟨⟨j + 1, (j : Int), by omega, by go_num, rfl, HB2, hide (HQV.out.on (below_drewN (Below.refl _ _) _))⟩, by simp [intOf]; omega⟩
                    · have bxz : decide (x.o < z.o) = false := decide_eq_false hxz
                      have HB2 := hide (HBst.out.keep HXJ.out hb0 (fun i y hi hy => by obtain rfl : i = bi := (by omega); rw [hbz] at hy; cases hy; omega))
                      clear hxz hb0 hbz hbl hs2
                      go_wp2_with fail
                      go_quiet (fail)
                      go_wp2
                      exact ⟨⟨j + 1, _, by omega, by go_num, rfl, HB2, hide (HQV.out.on (below_drewN (Below.refl _ _) _))⟩, by simp [intOf]; omega⟩
                · have hpI : ((p : Int) == 0) = false := beq_f (by omega)
                  have hpI2 : (p == 0) = false := by simp; omega
                  have hpw : IntKind.i64.wrap ((p : Int) - 1) = (p : Int) - 1 := by rw [IntKind.wrap_i64]; omega
                  have hpn : (p : Int) - 1 < p := by omega
                  have hpz : (0 : Int) ≤ (p : Int) - 1 := by omega
                  obtain ⟨y, hy⟩ : ∃ y, K[p - 1]? = some y := ⟨_, List.getElem?_eq_getElem (by have := HKn.out; omega)⟩
                  have hyt : (K.take p)[p - 1]? = some y := by rw [List.getElem?_take, if_pos (by omega)]; exact hy
                  have HHn := HQV
                  obtain ⟨lb, lo, hla, lc⟩ := ucell (HHn.out.ok.row (by rw [List.length_take, HKn.out]; omega)) hyt
                  subst hla
                  have hpt : ((p : Int) - 1).toNat = p - 1 := by omega
                  by_cases hyx : y < x.o
                  · have byx : decide (y < x.o) = true := decide_eq_true hyx
                    have HCn : Hid (Cnd K p (Gh (es.map me) g) x) := hide ⟨HG9.out, .inr ⟨y, hy, hyx⟩⟩
                    clear hy hyt hyx
                    by_cases hb0 : best < 0
                    · have bb : decide (best < 0) = true := decide_eq_true hb0
                      have HB2 := hide (HBst.out.take HXJ.out HCn.out (fun q => absurd hb0 q))
                      clear hb0
                      go_wp2_with fail
                      go_quiet (fail)
                      go_wp2
                      exact ⟨⟨j + 1, (j : Int), by omega, by go_num, rfl, HB2, hide (HQV.out.on (below_drewN (Below.refl _ _) _))⟩, by simp [intOf]; omega⟩
                    · have bb : decide (best < 0) = false := decide_eq_false hb0
                      obtain ⟨bi, z, hbi, hbl, hbz, hw1, hw2⟩ := HBst.out.yes hb0
                      clear hw1 hw2
                      subst hbi
                      have hbI : (bi : Int) < n := by omega
                      have hbI0 : (0 : Int) ≤ bi := by omega
                      obtain ⟨b2, off2, z2, ha2, hz2', d0, d1, d2, d3, d4, hs2⟩ := HEV.out.at (i := bi) (by omega)
                      cases ha2
                      rw [hbz] at hz2'
                      cases hz2'
                      by_cases hxz : x.o < z.o
                      · have bxz : decide (x.o < z.o) = true := decide_eq_true hxz
                        have HB2 := hide (HBst.out.take HXJ.out HCn.out (fun _ i y hi hy => by obtain rfl : i = bi := (by omega); rw [hbz] at hy; cases hy; omega))
                        clear hxz hb0 hbz hbl hs2
                        go_wp2_with fail
                        go_quiet (fail)
                        go_wp2
                        exact ⟨⟨j + 1, (j : Int), by omega, by go_num, rfl, HB2, hide (HQV.out.on (below_drewN (Below.refl _ _) _))⟩, by simp [intOf]; omega⟩
                      · have bxz : decide (x.o < z.o) = false := decide_eq_false hxz
                        have HB2 := hide (HBst.out.keep HXJ.out hb0 (fun i y hi hy => by obtain rfl : i = bi := (by omega); rw [hbz] at hy; cases hy; omega))
                        clear hxz hb0 hbz hbl hs2
                        go_wp2_with fail
                        go_quiet (fail)
                        go_wp2
                        exact ⟨⟨j + 1, _, by omega, by go_num, rfl, HB2, hide (HQV.out.on (below_drewN (Below.refl _ _) _))⟩, by simp [intOf]; omega⟩
                  · have byx : decide (y < x.o) = false := decide_eq_false hyx
                    have HB2 := hide (HBst.out.skip HXJ.out (fun q => by
                      rcases q.2 with h | ⟨z, hz, hzx⟩
                      · exact hp0 h
                      · rw [hy] at hz; cases hz; exact hyx hzx))
                    clear hy hyt hyx
                    go_wp2_with fail
                    go_quiet (fail)
                    go_wp2
                    exact ⟨⟨j + 1, _, by omega, by go_num, rfl, HB2, hide (HQV.out.on (below_drewN (Below.refl _ _) _))⟩, by simp [intOf]; omega⟩
              | false =>
                cases RV with
                | true =>
                  have HG9 : Hid (Gh (es.map me) g x) := hide ⟨hxg, by omega, .inr hRV⟩
                  clear hxg hg0 hk3 hk6 hWV hRV
                  go_wp2_with fail
                  rw [← HV.out]
                  clear HV
                  go_quiet ((first | (go_at_call 107; exact Calls.quiet_of_same (HQw.out _)) | (go_at_call 108; exact Calls.quiet_of_same (HQr.out _))))
                  by_cases hp0 : p = 0
                  · subst hp0
                    have HCn : Hid (Cnd K 0 (Gh (es.map me) g) x) := hide ⟨HG9.out, .inl rfl⟩
                    by_cases hb0 : best < 0
                    · have bb : decide (best < 0) = true := decide_eq_true hb0
                      have HB2 := hide (HBst.out.take HXJ.out HCn.out (fun q => absurd hb0 q))
                      clear hb0
                      go_wp2_with fail
                      go_quiet (fail)
                      go_wp2
                      exact ⟨⟨j + 1, (j : Int), by omega, by go_num, rfl, HB2, hide (HQV.out.on (below_drewN (Below.refl _ _) _))⟩, by simp [intOf]; omega⟩
                    · have bb : decide (best < 0) = false := decide_eq_false hb0
                      obtain ⟨bi, z, hbi, hbl, hbz, hw1, hw2⟩ := HBst.out.yes hb0
                      clear hw1 hw2
                      subst hbi
                      have hbI : (bi : Int) < n := by omega
                      have hbI0 : (0 : Int) ≤ bi := by omega
                      obtain ⟨b2, off2, z2, ha2, hz2', d0, d1, d2, d3, d4, hs2⟩ := HEV.out.at (i := bi) (by omega)
                      cases ha2
                      rw [hbz] at hz2'
                      cases hz2'
                      by_cases hxz : x.o < z.o
                      · have bxz : decide (x.o < z.o) = true := decide_eq_true hxz
                        have HB2 := hide (HBst.out.take HXJ.out HCn.out (fun _ i y hi hy => by obtain rfl : i = bi := (by omega); rw [hbz] at hy; cases hy; omega))
                        clear hxz hb0 hbz hbl hs2
                        go_wp2_with fail
                        go_quiet (fail)
                        go_wp2
                        exact ⟨⟨j + 1, (j : Int), by omega, by go_num, rfl, HB2, hide (HQV.out.on (below_drewN (Below.refl _ _) _))⟩, by simp [intOf]; omega⟩
                      · have bxz : decide (x.o < z.o) = false := decide_eq_false hxz
                        have HB2 := hide (HBst.out.keep HXJ.out hb0 (fun i y hi hy => by obtain rfl : i = bi := (by omega); rw [hbz] at hy; cases hy; omega))
                        clear hxz hb0 hbz hbl hs2
                        go_wp2_with fail
                        go_quiet (fail)
                        go_wp2
                        exact ⟨⟨j + 1, _, by omega, by go_num, rfl, HB2, hide (HQV.out.on (below_drewN (Below.refl _ _) _))⟩, by simp [intOf]; omega⟩
                  · have hpI : ((p : Int) == 0) = false := beq_f (by omega)
                    have hpI2 : (p == 0) = false := by simp; omega
                    have hpw : IntKind.i64.wrap ((p : Int) - 1) = (p : Int) - 1 := by rw [IntKind.wrap_i64]; omega
                    have hpn : (p : Int) - 1 < p := by omega
                    have hpz : (0 : Int) ≤ (p : Int) - 1 := by omega
                    obtain ⟨y, hy⟩ : ∃ y, K[p - 1]? = some y := ⟨_, List.getElem?_eq_getElem (by have := HKn.out; omega)⟩
                    have hyt : (K.take p)[p - 1]? = some y := by rw [List.getElem?_take, if_pos (by omega)]; exact hy
                    have HHn := HQV
                    obtain ⟨lb, lo, hla, lc⟩ := ucell (HHn.out.ok.row (by rw [List.length_take, HKn.out]; omega)) hyt
                    subst hla
                    have hpt : ((p : Int) - 1).toNat = p - 1 := by omega
                    by_cases hyx : y < x.o
                    · have byx : decide (y < x.o) = true := decide_eq_true hyx
                      have HCn : Hid (Cnd K p (Gh (es.map me) g) x) := hide ⟨HG9.out, .inr ⟨y, hy, hyx⟩⟩
                      clear hy hyt hyx
                      by_cases hb0 : best < 0
                      · have bb : decide (best < 0) = true := decide_eq_true hb0
                        have HB2 := hide (HBst.out.take HXJ.out HCn.out (fun q => absurd hb0 q))
                        clear hb0
                        go_wp2_with fail
                        go_quiet (fail)
                        go_wp2
                        exact ⟨⟨j + 1, (j : Int), by omega, by go_num, rfl, HB2, hide (HQV.out.on (below_drewN (Below.refl _ _) _))⟩, by simp [intOf]; omega⟩
                      · have bb : decide (best < 0) = false := decide_eq_false hb0
                        obtain ⟨bi, z, hbi, hbl, hbz, hw1, hw2⟩ := HBst.out.yes hb0
                        clear hw1 hw2
                        subst hbi
                        have hbI : (bi : Int) < n := by omega
                        have hbI0 : (0 : Int) ≤ bi := by omega
                        obtain ⟨b2, off2, z2, ha2, hz2', d0, d1, d2, d3, d4, hs2⟩ := HEV.out.at (i := bi) (by omega)
                        cases ha2
                        rw [hbz] at hz2'
                        cases hz2'
                        by_cases hxz : x.o < z.o
                        · have bxz : decide (x.o < z.o) = true := decide_eq_true hxz
                          have HB2 := hide (HBst.out.take HXJ.out HCn.out (fun _ i y hi hy => by obtain rfl : i = bi := (by omega); rw [hbz] at hy; cases hy; omega))
                          clear hxz hb0 hbz hbl hs2
                          go_wp2_with fail
                          go_quiet (fail)
                          go_wp2
                          exact ⟨⟨j + 1, (j : Int), by omega, by go_num, rfl, HB2, hide (HQV.out.on (below_drewN (Below.refl _ _) _))⟩, by simp [intOf]; omega⟩
                        · have bxz : decide (x.o < z.o) = false := decide_eq_false hxz
                          have HB2 := hide (HBst.out.keep HXJ.out hb0 (fun i y hi hy => by obtain rfl : i = bi := (by omega); rw [hbz] at hy; cases hy; omega))
                          clear hxz hb0 hbz hbl hs2
                          go_wp2_with fail
                          go_quiet (fail)
                          go_wp2
                          exact ⟨⟨j + 1, _, by omega, by go_num, rfl, HB2, hide (HQV.out.on (below_drewN (Below.refl _ _) _))⟩, by simp [intOf]; omega⟩
                    · have byx : decide (y < x.o) = false := decide_eq_false hyx
                      have HB2 := hide (HBst.out.skip HXJ.out (fun q => by
                        rcases q.2 with h | ⟨z, hz, hzx⟩
                        · exact hp0 h
                        · rw [hy] at hz; cases hz; exact hyx hzx))
                      clear hy hyt hyx
                      go_wp2_with fail
                      go_quiet (fail)
                      go_wp2
                      exact ⟨⟨j + 1, _, by omega, by go_num, rfl, HB2, hide (HQV.out.on (below_drewN (Below.refl _ _) _))⟩, by simp [intOf]; omega⟩
                | false =>
                  have HNc : Hid (¬ Cnd K p (Gh (es.map me) g) x) := hide (fun q => by rcases q.1.2.2 with h | h; rw [hWV] at h; cases h; rw [hRV] at h; cases h)
                  clear hxg hg0 hk3 hk6 hWV hRV
                  go_wp2_with fail
                  rw [← HV.out]
                  clear HV
                  go_quiet ((first | (go_at_call 107; exact Calls.quiet_of_same (HQw.out _)) | (go_at_call 108; exact Calls.quiet_of_same (HQr.out _))))
                  go_wp2
                  exact ⟨⟨j + 1, best, by omega, by go_num, rfl, hide (HBst.out.skip HXJ.out HNc.out), hide (HQV.out.on (below_drewN (Below.refl _ _) _))⟩, by simp [intOf]; omega⟩
        · have bg := bne_t hxg
          have HNc : Hid (¬ Cnd K p (Gh (es.map me) g) x) := hide (fun q => hxg q.1.1)
          clear hxg
          go_wp2_with fail
          rw [← HV.out]
          clear HV
          go_quiet (fail)
          go_wp2
          exact ⟨⟨j + 1, best, by omega, by go_num, rfl, hide (HBst.out.skip HXJ.out HNc.out), hide (HQV.out.on (below_drewN (Below.refl _ _) _))⟩, by simp [intOf]; omega⟩
      · have h9 : j = n := by omega
        subst h9
        have hD := HBst.out.done HE.out.len HKr.out (by rw [HKn.out]; exact hp) HKG.out HKE.out
        by_cases hb0 : best < 0
        · have bb : decide (best < 0) = true := decide_eq_true hb0
          have hpk := hD.1 hb0
          have HQ5 : Hid (Hl w wr (.slice a6 p c6) (.slice a7 p c7) K (K.map M.toWrite)) := hide (by
            have h1 := HQ.out
            rw [List.take_of_length_le (by omega)] at h1
            exact h1)
          clear hD hb0 hpk
          go_wp2
          go_ret2
          exact ⟨_, _, rfl, HQ5.out⟩
        · have bb : decide (best < 0) = false := decide_eq_false hb0
          obtain ⟨bi, z, hbi, hbl, hbz, hKp⟩ := hD.2 hb0
          subst hbi
          have hbI : (bi : Int) < j := by omega
          have hbI0 : (0 : Int) ≤ bi := by omega
          have hpl : p < kn := by rw [← HKn.out]; exact (List.getElem?_eq_some_iff.1 hKp).1
          obtain ⟨b2, off2, z2, ha2, hz2', d0, d1, d2, d3, d4, hs2⟩ := (HE.out.bel HQ.out.bel).at (i := bi) hbl
          subst ha2
          rw [hbz] at hz2'
          cases hz2'
          have hzK := List.mem_of_getElem? hKp
          have hg0 : 0 ≤ g := by
            obtain ⟨y, hy, hG, _⟩ := HKE.out _ hzK
            rw [← hG.1]
            exact (HG.out y hy).ok.g0
          have HTk1 := hide (take_next hKp)
          have HTk2 : Hid ((K.take (p + 1)).map M.toWrite = (K.take p).map M.toWrite ++ [M.toWrite z.o]) := hide (by rw [take_next hKp, List.map_append]; rfl)
          have HWz := hide (HKw.out _ hzK)
          have HLk : Hid ((K.take p).length = p ∧ ((K.take p).map M.toWrite).length = p) := hide (by rw [List.length_map, List.length_take, HKn.out]; omega)
          have HQ2 := hide (HQ.out.on (below_alloc1 wr (.cells #[.int .u64 z.o] 33)))
          have HT := hide (TRow.one (y := layU) (w := wr.alloc (.cells #[.int .u64 z.o] 33)) (B := wr.heap.size) (x := z.o) (heap_new wr (.cells #[.int .u64 z.o] 33)))
          have HEz := hide hbz
          clear hD hb0 hbz hs2 hKp hzK HBst
          go_wp2_with (at_builtin; refine append_lay layU _ 85 33 i0 _ 8 Tryz.underlying85 hi0 hz0 hz1 hz2 rfl rfl _ _ rfl w.heap.size _ (K.take p) rfl HQ2.out.ok _ 1 1 [z.o] rfl HT.out (fun e => by cases e) ?b1 ?b2 HQ2.out.bel.size ?_)
          case b1 => unfold maxLen; have := HLk.out; omega
          case b2 => have := HLk.out; omega
          intro v6 w2 o1 g1 l1
          have hQ3 := HQ2.out.push1 o1 g1
          rw [← HTk1.out] at hQ3
          obtain ⟨a6', c6', hv6, _, _⟩ := own_form hQ3.ok
          rw [show (K.take (p + 1)).length = p + 1 by rw [List.length_take, HKn.out]; omega] at hv6
          subst hv6
          have HQ3 := hide hQ3
          have HE3 := hide (HE.out.bel hQ3.bel)
          obtain ⟨r3, rl3⟩ := HCr.out w2 hQ3.bel
          obtain ⟨b4, off4, z4, ha4, hz4, e0, e1, e2, e3, e4, hs4⟩ := (HE.out.bel hQ3.bel).at (i := bi) hbl
          obtain ⟨WV, hWV⟩ : ∃ WV, M.toWrite z.o = WV := ⟨_, rfl⟩
          rw [hWV] at HWz HTk2
          have hz49 : z4 = z := by
            have h1 := HEz.out
            rw [hz4] at h1
            exact Option.some.inj h1
          subst hz49
          cases ha4
          have HQw : Hid (∀ q, Calls Tryz.prog 107 #[.slice (some ⟨b2, off2, none⟩) j tc, .int .i64 g, .int .u64 z4.o] (w2.drewN q) fun e w' => e = .returned (.bool WV) ∧ w' = w2.drewN q) := hide (fun q => by rw [← HWz.out]; exact rwrites_any (some ⟨b2, off2, none⟩) j tc es (w2.drewN q) (HE3.out.bel (below_drewN (Below.refl _ _) q)) hn g z4.o hg0)
          clear o1 g1 l1 hQ3 hs4 hz4 d0 d1 d2 d3 d4 r0 rl0 HT HQ2 hWV HWz
          go_wp2_with fail
          go_quiet ((go_at_call 107; exact Calls.quiet_of_same (HQw.out _)))
          have HQ4 := hide (HQ3.out.on (below_drewN (Below.refl w2.heap.size w2) nq))
          have HQ5 := hide (HQ4.out.on (below_alloc1 (w2.drewN nq) (.cells #[.bool WV] 4)))
          have HT5 := hide (TRow.one (y := layBo) (w := (w2.drewN nq).alloc (.cells #[.bool WV] 4)) (B := w2.heap.size) (x := WV) (heap_new (w2.drewN nq) (.cells #[.bool WV] 4)))
          go_wp2_with (at_builtin; refine append_lay layBo _ 86 4 i1 _ 1 Tryz.underlying86 hi1 hy0 hy1 hy2 rfl rfl _ _ rfl w.heap.size _ ((K.take p).map M.toWrite) rfl HQ5.out.od _ 1 1 [WV] rfl HT5.out (fun e => by cases e) ?b3 ?b4 HQ5.out.bel.size ?_)
          case b3 => unfold maxLen; have := HLk.out; omega
          case b4 => have := HLk.out; omega
          intro v7 w6 o2 g2 l2
          rw [← List.map_take] at o2
          have hQ6 := HQ5.out.push2 o2 g2
          rw [← HTk2.out] at hQ6
          obtain ⟨a7', c7', hv7, _, _⟩ := own_form hQ6.od
          rw [show ((K.take (p + 1)).map M.toWrite).length = p + 1 by rw [List.length_map, List.length_take, HKn.out]; omega] at hv7
          subst hv7
          have HQ6 := hide hQ6
          clear o2 g2 l2 hQ6
          go_wp2
          exact ⟨⟨p + 1, c6', c7', a6', a7', by omega, rfl, rfl, HQ6⟩, by simp [lenOf]; omega⟩
end Go.Proofs.YtafkammiehcdjaaGreatDoor
