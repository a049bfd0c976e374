import Derived.Test.YtafkammiehcdjaaGreatDoorZa40
/-
  What the two of a pair tell is the same, and may be written over.
-/
namespace Go.Proofs.YtafkammiehcdjaaGreatDoor
open Go.RowKit Go.Maps Go.Shelf
set_option linter.unusedVariables false
theorem below_of_drew {w W : World} (h : ∃ m, W = w.drewN m) : Below w.heap.size w W := by obtain ⟨m, rfl⟩ := h; exact below_drewN (Below.refl _ _) m
set_option maxRecDepth 8000 in
set_option maxHeartbeats 16000000 in
theorem asked_any {w0 : World} {o r : Value} {K : Int → List Int} {D : Int → List Bool} {A : List Int} (h : Ask w0 o r K D A) (pb off : Nat) (hc0 : w0.cell? ⟨pb, off, none⟩ = some o) (hc1 : w0.cell? ⟨pb, off + 1, none⟩ = some r) (g : Int) (g0 : -9223372036854775808 ≤ g) (g1 : g ≤ 9223372036854775807) :
    Calls Tryz.prog 23 #[.pointer (some ⟨pb, off, none⟩), .int .i64 g] w0 fun e w' => e = .returned (.bool true) ∧ Below w0.heap.size w0 w' := by
  have HA := hide h
  have HP : Hid (∀ X, Below w0.heap.size w0 X → X.cell? ⟨pb, off, none⟩ = some o ∧ X.cell? ⟨pb, off + 1, none⟩ = some r ∧ pb < X.heap.size) := hide (fun X hX => ⟨E6.cell_bel hc0 hX, E6.cell_bel hc1 hX, Nat.lt_of_lt_of_le (World.block_lt_of_cell? w0 _ hc0) hX.size⟩)
  have HG := hide (And.intro g0 g1)
  obtain ⟨n, hn⟩ : ∃ n, (K g).length = n := ⟨_, rfl⟩
  obtain ⟨m, hm⟩ : ∃ m, (K 0).length = m := ⟨_, rfl⟩
  obtain ⟨l, hl⟩ : ∃ l, A.length = l := ⟨_, rfl⟩
  have HN := hide hn
  have HM := hide hm
  have HL := hide hl
  have HNd : Hid ((D g).length = n) := hide ((h.few g).2.trans hn)
  have HMd : Hid ((D 0).length = m) := hide ((h.few 0).2.trans hm)
  have hn2 : (n : Int) ≤ 2000000 := by have := (h.few g).1; omega
  have hm2 : (m : Int) ≤ 2000000 := by have := (h.few 0).1; omega
  have hl2 : (l : Int) ≤ 2000000 := by have := h.fa; omega
  obtain ⟨p0, p1, pl⟩ := HP.out w0 (Below.refl _ _)
  have HB0 := hide (Below.refl w0.heap.size w0)
  have HC1 := hide (h.oh w0 g (Below.refl _ _) g0 g1)
  clear h hc0 hc1 g0 g1 hn hm hl
  go_enter Tryz.func23, Tryz.ntmps23
  go_wp2_with fail
  refine HC1.out.mono ?_
  rintro z w1 ⟨v1, v2, rfl, hh⟩
  obtain ⟨a1, c1, hv1, _, _⟩ := own_form hh.ok
  obtain ⟨x1, d1, hv2, _, _⟩ := own_form hh.od
  rw [HN.out] at hv1
  rw [HNd.out] at hv2
  subst hv1
  subst hv2
  have HH1 := hide hh
  have HB1 := hide (HB0.out.trans (hh.bel.mono HB0.out.size))
  have HD1 := hide (Below.refl w1.heap.size w1)
  clear hh p0 p1 pl HC1
  obtain ⟨p0, p1, pl⟩ := HP.out w1 HB1.out
  have HC2 := hide (HA.out.oh w1 0 HB1.out (by decide) (by decide))
  go_wp2_with fail
  refine HC2.out.mono ?_
  rintro z w2 ⟨v1, v2, rfl, hh⟩
  obtain ⟨a2, c2, hv1, _, _⟩ := own_form hh.ok
  obtain ⟨x2, d2, hv2, _, _⟩ := own_form hh.od
  rw [HM.out] at hv1
  rw [HMd.out] at hv2
  subst hv1
  subst hv2
  have HH2 := hide hh
  have HB2 := hide (HB1.out.trans (hh.bel.mono HB1.out.size))
  replace HD1 := hide (HD1.out.trans (hh.bel.mono HD1.out.size))
  have HD2 := hide (Below.refl w2.heap.size w2)
  clear hh p0 p1 pl HC2
  obtain ⟨p0, p1, pl⟩ := HP.out w2 HB2.out
  have HC3 := hide (HA.out.oh w2 g HB2.out HG.out.1 HG.out.2)
  go_wp2_with fail
  refine HC3.out.mono ?_
  rintro z w3 ⟨v1, v2, rfl, hh⟩
  obtain ⟨a3, c3, hv1, _, _⟩ := own_form hh.ok
  obtain ⟨x3, d3, hv2, _, _⟩ := own_form hh.od
  rw [HN.out] at hv1
  rw [HNd.out] at hv2
  subst hv1
  subst hv2
  have HH3 := hide hh
  have HB3 := hide (HB2.out.trans (hh.bel.mono HB2.out.size))
  replace HD1 := hide (HD1.out.trans (hh.bel.mono HD1.out.size))
  replace HD2 := hide (HD2.out.trans (hh.bel.mono HD2.out.size))
  have HD3 := hide (Below.refl w3.heap.size w3)
  clear hh p0 p1 pl HC3
  obtain ⟨p0, p1, pl⟩ := HP.out w3 HB3.out
  have HC4 := hide (HA.out.rh w3 g HB3.out HG.out.1 HG.out.2)
  go_wp2_with fail
  refine HC4.out.mono ?_
  rintro z w4 ⟨v1, v2, rfl, hh⟩
  obtain ⟨a4, c4, hv1, _, _⟩ := own_form hh.ok
  obtain ⟨x4, d4, hv2, _, _⟩ := own_form hh.od
  rw [HN.out] at hv1
  rw [HNd.out] at hv2
  subst hv1
  subst hv2
  have HH4 := hide hh
  have HB4 := hide (HB3.out.trans (hh.bel.mono HB3.out.size))
  replace HD1 := hide (HD1.out.trans (hh.bel.mono HD1.out.size))
  replace HD2 := hide (HD2.out.trans (hh.bel.mono HD2.out.size))
  replace HD3 := hide (HD3.out.trans (hh.bel.mono HD3.out.size))
  have HD4 := hide (Below.refl w4.heap.size w4)
  clear hh p0 p1 pl HC4
  obtain ⟨p0, p1, pl⟩ := HP.out w4 HB4.out
  have HC5 := hide (HA.out.rh w4 0 HB4.out (by decide) (by decide))
  go_wp2_with fail
  refine HC5.out.mono ?_
  rintro z w5 ⟨v1, v2, rfl, hh⟩
  obtain ⟨a5, c5, hv1, _, _⟩ := own_form hh.ok
  obtain ⟨x5, d5, hv2, _, _⟩ := own_form hh.od
  rw [HM.out] at hv1
  rw [HMd.out] at hv2
  subst hv1
  subst hv2
  have HH5 := hide hh
  have HB5 := hide (HB4.out.trans (hh.bel.mono HB4.out.size))
  replace HD1 := hide (HD1.out.trans (hh.bel.mono HD1.out.size))
  replace HD2 := hide (HD2.out.trans (hh.bel.mono HD2.out.size))
  replace HD3 := hide (HD3.out.trans (hh.bel.mono HD3.out.size))
  replace HD4 := hide (HD4.out.trans (hh.bel.mono HD4.out.size))
  have HD5 := hide (Below.refl w5.heap.size w5)
  clear hh p0 p1 pl HC5
  obtain ⟨p0, p1, pl⟩ := HP.out w5 HB5.out
  have HC6 := hide (HA.out.oa w5 HB5.out)
  go_wp2_with fail
  refine HC6.out.mono ?_
  rintro z w6 ⟨v1, rfl, hh⟩
  obtain ⟨a6, c6, hv1, _, _⟩ := own_form hh.own
  rw [HL.out] at hv1
  subst hv1
  have HH6 := hide hh
  have HB6 := hide (HB5.out.trans (hh.bel.mono HB5.out.size))
  replace HD1 := hide (HD1.out.trans (hh.bel.mono HD1.out.size))
  replace HD2 := hide (HD2.out.trans (hh.bel.mono HD2.out.size))
  replace HD3 := hide (HD3.out.trans (hh.bel.mono HD3.out.size))
  replace HD4 := hide (HD4.out.trans (hh.bel.mono HD4.out.size))
  replace HD5 := hide (HD5.out.trans (hh.bel.mono HD5.out.size))
  have HD6 := hide (Below.refl w6.heap.size w6)
  clear hh p0 p1 pl HC6
  obtain ⟨p0, p1, pl⟩ := HP.out w6 HB6.out
  have HC7 := hide (HA.out.oa w6 HB6.out)
  go_wp2_with fail
  refine HC7.out.mono ?_
  rintro z w7 ⟨v1, rfl, hh⟩
  obtain ⟨a7, c7, hv1, _, _⟩ := own_form hh.own
  rw [HL.out] at hv1
  subst hv1
  have HH7 := hide hh
  have HB7 := hide (HB6.out.trans (hh.bel.mono HB6.out.size))
  replace HD1 := hide (HD1.out.trans (hh.bel.mono HD1.out.size))
  replace HD2 := hide (HD2.out.trans (hh.bel.mono HD2.out.size))
  replace HD3 := hide (HD3.out.trans (hh.bel.mono HD3.out.size))
  replace HD4 := hide (HD4.out.trans (hh.bel.mono HD4.out.size))
  replace HD5 := hide (HD5.out.trans (hh.bel.mono HD5.out.size))
  replace HD6 := hide (HD6.out.trans (hh.bel.mono HD6.out.size))
  have HD7 := hide (Below.refl w7.heap.size w7)
  clear hh p0 p1 pl HC7
  obtain ⟨p0, p1, pl⟩ := HP.out w7 HB7.out
  have HC8 := hide (sameLocks_any a1 a4 n c1 c4 (K g) w7 ((HH1.out.ok.row HN.out).below HD1.out) ((HH4.out.ok.row HN.out).below HD4.out) (by omega))
  go_wp2_with fail
  refine HC8.out.mono ?_
  rintro z w8 ⟨rfl, hw⟩
  have hb := below_of_drew hw
  clear hw HC8
  replace HD1 := hide (HD1.out.trans (hb.mono HD1.out.size))
  replace HD2 := hide (HD2.out.trans (hb.mono HD2.out.size))
  replace HD3 := hide (HD3.out.trans (hb.mono HD3.out.size))
  replace HD4 := hide (HD4.out.trans (hb.mono HD4.out.size))
  replace HD5 := hide (HD5.out.trans (hb.mono HD5.out.size))
  replace HD6 := hide (HD6.out.trans (hb.mono HD6.out.size))
  replace HD7 := hide (HD7.out.trans (hb.mono HD7.out.size))
  have HB8 := hide (HB7.out.trans (hb.mono HB7.out.size))
  clear p0 p1 pl
  obtain ⟨p0, p1, pl⟩ := HP.out w8 HB8.out
  clear hb
  have HC9 := hide (sameBools_any x1 x4 n d1 d4 (D g) w8 ((HH1.out.od.row HNd.out).below HD1.out) ((HH4.out.od.row HNd.out).below HD4.out) (by omega))
  go_wp2_with fail
  refine HC9.out.mono ?_
  rintro z w9 ⟨rfl, hw⟩
  have hb := below_of_drew hw
  clear hw HC9
  replace HD1 := hide (HD1.out.trans (hb.mono HD1.out.size))
  replace HD2 := hide (HD2.out.trans (hb.mono HD2.out.size))
  replace HD3 := hide (HD3.out.trans (hb.mono HD3.out.size))
  replace HD4 := hide (HD4.out.trans (hb.mono HD4.out.size))
  replace HD5 := hide (HD5.out.trans (hb.mono HD5.out.size))
  replace HD6 := hide (HD6.out.trans (hb.mono HD6.out.size))
  replace HD7 := hide (HD7.out.trans (hb.mono HD7.out.size))
  have HB9 := hide (HB8.out.trans (hb.mono HB8.out.size))
  clear p0 p1 pl
  obtain ⟨p0, p1, pl⟩ := HP.out w9 HB9.out
  clear hb
  have HC10 := hide (HA.out.ra w9 HB9.out)
  go_wp2_with fail
  refine HC10.out.mono ?_
  rintro z w10 ⟨v1, rfl, hh⟩
  obtain ⟨a10, c10, hv1, _, _⟩ := own_form hh.own
  rw [HL.out] at hv1
  subst hv1
  have hb := hh.bel
  clear HC10
  replace HD1 := hide (HD1.out.trans (hb.mono HD1.out.size))
  replace HD2 := hide (HD2.out.trans (hb.mono HD2.out.size))
  replace HD3 := hide (HD3.out.trans (hb.mono HD3.out.size))
  replace HD4 := hide (HD4.out.trans (hb.mono HD4.out.size))
  replace HD5 := hide (HD5.out.trans (hb.mono HD5.out.size))
  replace HD6 := hide (HD6.out.trans (hb.mono HD6.out.size))
  replace HD7 := hide (HD7.out.trans (hb.mono HD7.out.size))
  have HB10 := hide (HB9.out.trans (hb.mono HB9.out.size))
  clear p0 p1 pl
  obtain ⟨p0, p1, pl⟩ := HP.out w10 HB10.out
  have HC11 := hide (sameInts_any a6 a10 l c6 c10 A w10 ((HH6.out.own.row HL.out).below HD6.out) (hh.own.row HL.out) (by omega))
  clear hh hb
  go_wp2_with fail
  refine HC11.out.mono ?_
  rintro z V ⟨rfl, hw⟩
  have hb := below_of_drew hw
  clear hw HC11
  replace HD1 := hide (HD1.out.trans (hb.mono HD1.out.size))
  replace HD2 := hide (HD2.out.trans (hb.mono HD2.out.size))
  replace HD3 := hide (HD3.out.trans (hb.mono HD3.out.size))
  replace HD4 := hide (HD4.out.trans (hb.mono HD4.out.size))
  replace HD5 := hide (HD5.out.trans (hb.mono HD5.out.size))
  replace HD6 := hide (HD6.out.trans (hb.mono HD6.out.size))
  replace HD7 := hide (HD7.out.trans (hb.mono HD7.out.size))
  have HB11 := hide (HB10.out.trans (hb.mono HB10.out.size))
  clear p0 p1 pl hb
  have HS0 : Hid (∀ k, ((Value.slice a1 n c1).ownBlock = some k ∨ (Value.slice x1 n d1).ownBlock = some k ∨ (Value.slice a6 l c6).ownBlock = some k) → (w0.heap.size ≤ k ∧ k < w1.heap.size) ∨ (w5.heap.size ≤ k ∧ k < w6.heap.size)) := hide (fun k e => by
    rcases e with e | e | e
    · exact .inl (HH1.out.ok.lt k e)
    · exact .inl (HH1.out.od.lt k e)
    · exact .inr (HH6.out.own.lt k e))
  have HLd : Hid (Ld w0.heap.size V V (Value.slice a1 n c1).ownBlock (Value.slice x1 n d1).ownBlock (Value.slice a6 l c6).ownBlock (.slice a1 n c1) (.slice x1 n d1) (.slice a6 l c6) n n l) := hide ⟨⟨K g, HN.out, HH1.out.ok.below HD1.out⟩, ⟨D g, HNd.out, HH1.out.od.below HD1.out⟩, ⟨A, HL.out, own_below (own_mono HH6.out.own HB5.out.size) HD6.out⟩, fun k hk => .inl hk, fun k hk => .inl hk, fun k hk => .inl hk, But.refl _ _, HB11.out.size⟩
  generalize (Value.slice a1 n c1).ownBlock = A0 at HLd HS0
  generalize (Value.slice x1 n d1).ownBlock = X0 at HLd HS0
  generalize (Value.slice a6 l c6).ownBlock = L0 at HLd HS0
  go_wp2
  go_loopw [17] (fun i wr => ∃ j : Nat, j ≤ n ∧ i = .int .i64 j ∧ Hid (Ld w0.heap.size V wr A0 X0 L0 (.slice a1 n c1) (.slice x1 n d1) (.slice a6 l c6) n n l)) (fun i _ => n - (intOf i).toNat)
  case atStart => exact ⟨0, Nat.zero_le _, rfl, HLd⟩
  case round =>
    clear HLd
    obtain ⟨j, hj, rfl, HJ⟩ := hrel
    by_cases hlt : j < n
    · have hjI : (j : Int) < n := by omega
      have hj0 : (0 : Int) ≤ j := by omega
      obtain ⟨L1, e1, q1⟩ := HJ.out.oa
      obtain ⟨L2, e2, q2⟩ := HJ.out.ox
      obtain ⟨ga, ca, hva, _, hgl, _⟩ := q1.frm (by omega)
      obtain ⟨gx, cx, hvx, _, hxl, _⟩ := q2.frm (by omega)
      rw [e1] at hva
      rw [e2] at hvx
      cases hva
      cases hvx
      have f1 := q1.frozen j
      obtain ⟨y1, k1⟩ : ∃ y1, wr.cell? ⟨ga, j, none⟩ = some (.int .u64 y1) := by
        have h8 : wr.cell? ⟨ga, j * 1 + 0, none⟩ = some (.int .u64 L1[j]) := q1.cell (List.getElem?_eq_getElem (by omega)) 0 rfl
        rw [Nat.mul_one, Nat.add_zero] at h8
        exact ⟨_, h8⟩
      have HJ2 : Hid (∀ y, Ld w0.heap.size V (wr.setCell ⟨ga, j, none⟩ (.int .u64 y)) A0 X0 L0 (.slice (some ⟨ga, 0, none⟩) n c1) (.slice (some ⟨gx, 0, none⟩) n d1) (.slice a6 l c6) n n l) := hide (fun y => HJ.out.setA hlt y)
      have HJ3 : Hid (∀ y y', Ld w0.heap.size V ((wr.setCell ⟨ga, j, none⟩ (.int .u64 y)).setCell ⟨gx, j, none⟩ (.bool y')) A0 X0 L0 (.slice (some ⟨ga, 0, none⟩) n c1) (.slice (some ⟨gx, 0, none⟩) n d1) (.slice a6 l c6) n n l) := hide (fun y y' => (HJ.out.setA hlt y).setX hlt y')
      have hXc : ∀ y, ∃ b, (wr.setCell ⟨ga, j, none⟩ (.int .u64 y)).cell? ⟨gx, j, none⟩ = some (.bool b) ∧ (wr.setCell ⟨ga, j, none⟩ (.int .u64 y)).frozen? ⟨gx, j, none⟩ = false := fun y => by
        obtain ⟨M2, e3, q3⟩ := (HJ2.out y).ox
        have h8 : (wr.setCell ⟨ga, j, none⟩ (.int .u64 y)).cell? ⟨gx, j * 1 + 0, none⟩ = some (.bool M2[j]) := q3.cell (List.getElem?_eq_getElem (by omega)) 0 rfl
        rw [Nat.mul_one, Nat.add_zero] at h8
        exact ⟨_, h8, q3.frozen j⟩
      obtain ⟨b1, k2, f2⟩ := hXc (900 + j)
      clear hXc q1 q2 e1 e2
      go_wp2
      exact ⟨⟨j + 1, by omega, by go_num, hide (HJ3.out _ _)⟩, by simp [intOf]; omega⟩
    · have hjI : ¬ (j : Int) < n := by omega
      go_wp2
      go_loopw [18] (fun i wr => ∃ j : Nat, j ≤ l ∧ i = .int .i64 j ∧ Hid (Ld w0.heap.size V wr A0 X0 L0 (.slice a1 n c1) (.slice x1 n d1) (.slice a6 l c6) n n l)) (fun i _ => l - (intOf i).toNat)
      case atStart => exact ⟨0, Nat.zero_le _, rfl, HJ⟩
      case round =>
        clear HJ hjI hlt hj
        obtain ⟨j, hj, rfl, HJ⟩ := hrel
        by_cases hlt : j < l
        · have hjI : (j : Int) < l := by omega
          have hj0 : (0 : Int) ≤ j := by omega
          obtain ⟨L1, e1, q1⟩ := HJ.out.ol
          obtain ⟨ga, ca, hva, _, hgl, _⟩ := q1.frm (by omega)
          rw [e1] at hva
          cases hva
          have f1 := q1.frozen j
          obtain ⟨y1, k1⟩ : ∃ y1, wr.cell? ⟨ga, j, none⟩ = some (.int .i64 y1) := by
            have h8 : wr.cell? ⟨ga, j * 1 + 0, none⟩ = some (.int .i64 L1[j]) := q1.cell (List.getElem?_eq_getElem (by omega)) 0 rfl
            rw [Nat.mul_one, Nat.add_zero] at h8
            exact ⟨_, h8⟩
          have HJ2 : Hid (∀ y, Ld w0.heap.size V (wr.setCell ⟨ga, j, none⟩ (.int .i64 y)) A0 X0 L0 (.slice a1 n c1) (.slice x1 n d1) (.slice (some ⟨ga, 0, none⟩) l c6) n n l) := hide (fun y => HJ.out.setL hlt y)
          clear q1 e1
          go_wp2
          exact ⟨⟨j + 1, by omega, by go_num, hide (HJ2.out _)⟩, by simp [intOf]; omega⟩
        · have hjI : ¬ (j : Int) < l := by omega
          go_wp2
          go_loopw [5, 6, 15, 19] (fun va vx vl i wr => ∃ (j : Nat) (aa xx ll : Option Addr) (ca cx cl : Nat), j ≤ 70 ∧ i = .int .i64 j ∧ va = .slice aa (n + j) ca ∧ vx = .slice xx (n + j) cx ∧ vl = .slice ll (l + j) cl ∧ Hid (Ld w0.heap.size V wr A0 X0 L0 (.slice aa (n + j) ca) (.slice xx (n + j) cx) (.slice ll (l + j) cl) (n + j) (n + j) (l + j))) (fun _ _ _ i _ => 70 - (intOf i).toNat)
          case atStart => exact ⟨0, _, _, _, _, _, _, by omega, rfl, rfl, rfl, rfl, HJ⟩
          case round =>
            clear HJ hjI hlt hj
            obtain ⟨j, aa, xx, ll, ca, cx, cl, hj, rfl, rfl, rfl, rfl, HJ⟩ := hrel
            by_cases hlt : j < 70
            · have hjI : (j : Int) < 70 := by omega
              have hj0 : (0 : Int) ≤ j := by omega
              obtain ⟨L1, e1, q1⟩ := HJ.out.oa
              have HE1 := hide e1
              have HQ1 : Hid (∀ ob, Own layU 33 (wr.alloc ob) w0.heap.size (.slice aa (n + j) ca) L1) := hide (fun ob => q1.below (below_alloc1 wr ob))
              have HJ1 : Hid (∀ ob, Ld w0.heap.size V (wr.alloc ob) A0 X0 L0 (.slice aa (n + j) ca) (.slice xx (n + j) cx) (.slice ll (l + j) cl) (n + j) (n + j) (l + j)) := hide (fun ob => HJ.out.on (below_alloc1 wr ob))
              have HBs : Hid (w0.heap.size ≤ wr.heap.size) := hide HJ.out.bs
              obtain ⟨iU, hU, hU0, hU1, hU2⟩ := info_parts Tryz.infoU
              obtain ⟨iB, hB, hB0, hB1, hB2⟩ := info_parts Tryz.infoBo
              obtain ⟨iI, hI, hI0, hI1, hI2⟩ := info_parts Tryz.infoI
              clear e1 q1
              go_wp2_with (at_builtin; refine append_lay layU _ 85 33 iU _ 8 Tryz.underlying85 hU hU0 hU1 hU2 rfl rfl _ _ rfl w0.heap.size _ L1 rfl (HQ1.out _) _ 1 1 [_] rfl (TRow.one (y := layU) (heap_new _ _)) (fun e => by cases e) ?b1 ?b2 ?b3 ?_)
              case b1 => unfold maxLen; have := HE1.out; omega
              case b2 => have := HE1.out; omega
              case b3 => have := HBs.out; simp; omega
              intro v1 W1 o2 g2 l2
              obtain ⟨aa1, ca1, hv1, _, _⟩ := own_form o2
              rw [List.length_append, HE1.out] at hv1
              have hv1' : v1 = .slice aa1 (n + j + 1) ca1 := hv1
              subst hv1'
              have HK1 := hide ((HJ1.out _).pushA HE1.out o2 g2 (l2.imp id (fun q => q.trans (by simp))))
              clear hv1 o2 g2 l2 HJ HJ1 HQ1 HE1 HBs
              obtain ⟨L2, e2, q2⟩ := HK1.out.ox
              have HE2 := hide e2
              have HQ2 : Hid (∀ ob, Own layBo 4 (W1.alloc ob) w0.heap.size (.slice xx (n + j) cx) L2) := hide (fun ob => q2.below (below_alloc1 W1 ob))
              have HJ2 : Hid (∀ ob, Ld w0.heap.size V (W1.alloc ob) A0 X0 L0 (.slice aa1 (n + j + 1) ca1) (.slice xx (n + j) cx) (.slice ll (l + j) cl) (n + j + 1) (n + j) (l + j)) := hide (fun ob => HK1.out.on (below_alloc1 W1 ob))
              have HBs : Hid (w0.heap.size ≤ W1.heap.size) := hide HK1.out.bs
              clear e2 q2 HK1
              go_wp2_with (at_builtin; refine append_lay layBo _ 86 4 iB _ 1 Tryz.underlying86 hB hB0 hB1 hB2 rfl rfl _ _ rfl w0.heap.size _ L2 rfl (HQ2.out _) _ 1 1 [_] rfl (TRow.one (y := layBo) (heap_new _ _)) (fun e => by cases e) ?b1 ?b2 ?b3 ?_)
              case b1 => unfold maxLen; have := HE2.out; omega
              case b2 => have := HE2.out; omega
              case b3 => have := HBs.out; simp; omega
              intro v1 W2 o2 g2 l2
              obtain ⟨xx1, cx1, hv1, _, _⟩ := own_form o2
              rw [List.length_append, HE2.out] at hv1
              have hv1' : v1 = .slice xx1 (n + j + 1) cx1 := hv1
              subst hv1'
              have HK2 := hide ((HJ2.out _).pushX HE2.out o2 g2 (l2.imp id (fun q => q.trans (by simp))))
              clear hv1 o2 g2 l2 HJ2 HQ2 HE2 HBs
              obtain ⟨L3, e3, q3⟩ := HK2.out.ol
              have HE3 := hide e3
              have HQ3 : Hid (∀ ob, Own layI 3 (W2.alloc ob) w0.heap.size (.slice ll (l + j) cl) L3) := hide (fun ob => q3.below (below_alloc1 W2 ob))
              have HJ3 : Hid (∀ ob, Ld w0.heap.size V (W2.alloc ob) A0 X0 L0 (.slice aa1 (n + j + 1) ca1) (.slice xx1 (n + j + 1) cx1) (.slice ll (l + j) cl) (n + j + 1) (n + j + 1) (l + j)) := hide (fun ob => HK2.out.on (below_alloc1 W2 ob))
              have HBs : Hid (w0.heap.size ≤ W2.heap.size) := hide HK2.out.bs
              clear e3 q3 HK2
              go_wp2_with (at_builtin; refine append_lay layI _ 43 3 iI _ 8 Tryz.underlying43 hI hI0 hI1 hI2 rfl rfl _ _ rfl w0.heap.size _ L3 rfl (HQ3.out _) _ 1 1 [_] rfl (TRow.one (y := layI) (heap_new _ _)) (fun e => by cases e) ?b1 ?b2 ?b3 ?_)
              case b1 => unfold maxLen; have := HE3.out; omega
              case b2 => have := HE3.out; omega
              case b3 => have := HBs.out; simp; omega
              intro v1 W3 o2 g2 l2
              obtain ⟨ll1, cl1, hv1, _, _⟩ := own_form o2
              rw [List.length_append, HE3.out] at hv1
              have hv1' : v1 = .slice ll1 (l + j + 1) cl1 := hv1
              subst hv1'
              have HK3 := hide ((HJ3.out _).pushL HE3.out o2 g2 (l2.imp id (fun q => q.trans (by simp))))
              clear hv1 o2 g2 l2 HJ3 HQ3 HE3 HBs
              go_wp2
              exact ⟨⟨j + 1, _, _, _, _, _, _, by omega, by go_num, rfl, rfl, rfl, HK3⟩, by simp [intOf]; omega⟩
            · have h70 : j = 70 := by omega
              subst h70
              have hq1 : (((n + 70 : Nat) : Int) != (n : Int) + 70) = false := by simp
              have hq2 : (((l + 70 : Nat) : Int) != (l : Int) + 70) = false := by simp
              have HBf : Hid (Below w0.heap.size w0 wr) := hide (HB11.out.trans (HJ.out.bt.below HB11.out.size (fun k e => by
                have h5 := HB5.out.size
                rcases HS0.out k e with e | e <;> omega)))
              have s1 := HH1.out.bel.size
              have s2 := HH2.out.bel.size
              have s3 := HH3.out.bel.size
              have s4 := HH4.out.bel.size
              have s5 := HH5.out.bel.size
              have s6 := HH6.out.bel.size
              have s7 := HH7.out.bel.size
              have t3 := hide (HH3.out.ok.rowB HN.out ((But.of_below HD3.out).trans HJ.out.bt (fun _ _ e => e)) (fun k h1 h2 e => by rcases HS0.out k e with e | e <;> omega))
              have t4 := hide (HH4.out.ok.rowB HN.out ((But.of_below HD4.out).trans HJ.out.bt (fun _ _ e => e)) (fun k h1 h2 e => by rcases HS0.out k e with e | e <;> omega))
              have t2 := hide (HH2.out.ok.rowB HM.out ((But.of_below HD2.out).trans HJ.out.bt (fun _ _ e => e)) (fun k h1 h2 e => by rcases HS0.out k e with e | e <;> omega))
              have t5 := hide (HH5.out.ok.rowB HM.out ((But.of_below HD5.out).trans HJ.out.bt (fun _ _ e => e)) (fun k h1 h2 e => by rcases HS0.out k e with e | e <;> omega))
              have u3 := hide (HH3.out.od.rowB HNd.out ((But.of_below HD3.out).trans HJ.out.bt (fun _ _ e => e)) (fun k h1 h2 e => by rcases HS0.out k e with e | e <;> omega))
              have u4 := hide (HH4.out.od.rowB HNd.out ((But.of_below HD4.out).trans HJ.out.bt (fun _ _ e => e)) (fun k h1 h2 e => by rcases HS0.out k e with e | e <;> omega))
              have u2 := hide (HH2.out.od.rowB HMd.out ((But.of_below HD2.out).trans HJ.out.bt (fun _ _ e => e)) (fun k h1 h2 e => by rcases HS0.out k e with e | e <;> omega))
              have u5 := hide (HH5.out.od.rowB HMd.out ((But.of_below HD5.out).trans HJ.out.bt (fun _ _ e => e)) (fun k h1 h2 e => by rcases HS0.out k e with e | e <;> omega))
              have t7 := hide (HH7.out.own.rowB HL.out ((But.of_below HD7.out).trans HJ.out.bt (fun _ _ e => e)) (fun k h1 h2 e => by rcases HS0.out k e with e | e <;> omega))
              clear s1 s2 s3 s4 s5 s6 s7 HJ HS0 HH1 HH2 HH3 HH4 HH5 HH6 HH7 HD1 HD2 HD3 HD4 HD5 HD6 HD7
              have HE1 := hide (sameLocks_any a3 a4 n c3 c4 (K g) wr t3.out t4.out (by omega))
              go_wp2_with fail
              refine HE1.out.mono ?_
              rintro z y1 ⟨rfl, hw⟩
              have G1 := hide (below_of_drew hw)
              have HE2 := hide (sameBools_any x3 x4 n d3 d4 (D g) y1 (u3.out.below G1.out) (u4.out.below G1.out) (by omega))
              clear hw HE1
              go_wp2_with fail
              refine HE2.out.mono ?_
              rintro z y2 ⟨rfl, hw⟩
              have G2 := hide (G1.out.trans ((below_of_drew hw).mono G1.out.size))
              have HE3 := hide (sameLocks_any a2 a5 m c2 c5 (K 0) y2 (t2.out.below G2.out) (t5.out.below G2.out) (by omega))
              clear hw HE2
              go_wp2_with fail
              refine HE3.out.mono ?_
              rintro z y3 ⟨rfl, hw⟩
              have G3 := hide (G2.out.trans ((below_of_drew hw).mono G2.out.size))
              have HE4 := hide (sameBools_any x2 x5 m d2 d5 (D 0) y3 (u2.out.below G3.out) (u5.out.below G3.out) (by omega))
              clear hw HE3
              go_wp2_with fail
              refine HE4.out.mono ?_
              rintro z y4 ⟨rfl, hw⟩
              have G4 := hide (G3.out.trans ((below_of_drew hw).mono G3.out.size))
              have B4 := hide (HBf.out.trans (G4.out.mono HBf.out.size))
              have HE5 := hide (HA.out.ra y4 B4.out)
              obtain ⟨p0, p1, pl⟩ := HP.out y4 B4.out
              clear hw HE4
              go_wp2_with fail
              refine HE5.out.mono ?_
              rintro z y5 ⟨v1, rfl, hh⟩
              obtain ⟨a9, c9, hv1, _, _⟩ := own_form hh.own
              rw [HL.out] at hv1
              subst hv1
              have G5 := hide (G4.out.trans (hh.bel.mono G4.out.size))
              have HE6 := hide (sameInts_any a7 a9 l c7 c9 A y5 (t7.out.below G5.out) (hh.own.row HL.out) (by omega))
              clear hh HE5 p0 p1 pl
              go_wp2_with fail
              refine HE6.out.mono ?_
              rintro z y6 ⟨rfl, hw⟩
              have B6 := hide (HBf.out.trans ((G5.out.trans ((below_of_drew hw).mono G5.out.size)).mono HBf.out.size))
              clear hw HE6
              go_wp2
              go_ret
              exact ⟨rfl, B6.out⟩
end Go.Proofs.YtafkammiehcdjaaGreatDoor
/-
  Both of a pair are told an event.
-/
namespace Go.Proofs.YtafkammiehcdjaaGreatDoor
open Go.RowKit Go.Maps Go.Shelf
set_option linter.unusedVariables false
theorem addO_nil (w : World) (e : E6.Ev) : Calls Tryz.prog 14 #[.pointer none, .agg #[.int .i64 e.g, .int .i64 e.k, .int .u64 e.o, .int .u64 e.a, .slice e.sa e.ls.length e.sc]] w fun z w' => z = .returned (.tuple #[.int .i64 0, .int .i64 1]) ∧ Below w.heap.size w w' := by
  obtain ⟨W, hW⟩ : ∃ W, W = w.alloc (.cells #[.int .i64 e.g, .int .i64 e.k, .int .u64 e.o, .int .u64 e.a, .slice e.sa e.ls.length e.sc] 36) := ⟨_, rfl⟩
  have HB : Hid (Below w.heap.size w W) := hide (by rw [hW]; exact below_alloc1 w _)
  go_enter Tryz.func14, Tryz.ntmps14
  go_wp2_with fail
  rw [← hW]
  refine (missing_nil W).mono ?_
  rintro z w1 ⟨rfl, hw⟩
  obtain rfl : W = w1 := hw.symm
  clear hW
  go_wp2
  go_ret2
  exact ⟨rfl, HB.out⟩
theorem addR_nil (w : World) (e : E6.Ev) : Calls Tryz.prog 44 #[.pointer none, .agg #[.int .i64 e.g, .int .i64 e.k, .int .u64 e.o, .int .u64 e.a, .slice e.sa e.ls.length e.sc]] w fun z w' => z = .returned (.tuple #[.int .i64 0, .int .i64 1]) ∧ Below w.heap.size w w' := by
  obtain ⟨W, hW⟩ : ∃ W, W = w.alloc (.cells #[.int .i64 e.g, .int .i64 e.k, .int .u64 e.o, .int .u64 e.a, .slice e.sa e.ls.length e.sc] 36) := ⟨_, rfl⟩
  have HB : Hid (Below w.heap.size w W) := hide (by rw [hW]; exact below_alloc1 w _)
  go_enter Tryz.func44, Tryz.ntmps44
  go_wp2_with fail
  rw [← hW]
  clear hW
  go_wp2
  go_ret2
  exact ⟨rfl, HB.out⟩
section
variable {w X : World} {S : Nat → Prop} {o r : Value}
theorem PrV.more {wr : World} {T : Nat → Prop} (h : PrV w wr S o r) (hS : ∀ k, S k → T k) (hb : ∀ k, T k → w.heap.size ≤ k ∧ k < wr.heap.size) : PrV w wr T o r := by
  rcases h with ⟨h1, h2, h3⟩ | ⟨cb, rb, M, qs, h1, h2, h3⟩
  · exact .inl ⟨h1, h2, hb⟩
  · exact .inr ⟨cb, rb, M, qs, h1, h2, h3.more hS hb⟩
theorem PrV.on {wr w' : World} (h : PrV w wr S o r) (hb : Below wr.heap.size wr w') : PrV w w' S o r :=
  h.but (T := fun _ => False) (But.of_below hb) (fun _ e => e.elim) (fun _ e => e.elim)
theorem PrV.add (h : PrV w X S o r) (hbw : Below w.heap.size w X) (hK : E6.Kr w) (e f : E6.Ev) (ht : e.twin f) (hoke : e.ok) (hokf : f.ok) (hse : E6.SRow w e.sa e.ls.length e.ls) (hsf : E6.SRow X f.sa f.ls.length f.ls) :
    ∃ Y E : Int, Calls Tryz.prog 14 #[o, .agg #[.int .i64 f.g, .int .i64 f.k, .int .u64 f.o, .int .u64 f.a, .slice f.sa f.ls.length f.sc]] X fun z X1 => z = .returned (.tuple #[.int .i64 Y, .int .i64 E]) ∧ But S X X1 ∧ ∀ X2, Below X1.heap.size X1 X2 → Calls Tryz.prog 44 #[r, .agg #[.int .i64 e.g, .int .i64 e.k, .int .u64 e.o, .int .u64 e.a, .slice e.sa e.ls.length e.sc]] X2 fun z w' => z = .returned (.tuple #[.int .i64 Y, .int .i64 E]) ∧ But S X2 w' ∧ PrV w w' (Nw S X w') o r := by
  rcases h with ⟨rfl, rfl, h3⟩ | ⟨cb, rb, M, qs, rfl, rfl, h⟩
  · refine ⟨0, 1, (addO_nil X f).mono ?_⟩
    rintro z X1 ⟨rfl, hb⟩
    refine ⟨rfl, But.of_below hb, fun X2 hb2 => (addR_nil X2 e).mono ?_⟩
    rintro z w' ⟨rfl, hb3⟩
    exact ⟨rfl, But.of_below hb3, .inl ⟨rfl, rfl, nw_bd h3 hbw.size (Nat.le_trans hb.size (Nat.le_trans hb2.size hb3.size))⟩⟩
  · have hsz := hK.size
    have hfc : f.chk = e.chk := E6.Ev.twin.chk ht
    have hme : me f = me e := by obtain ⟨t1, t2, t3, t4, _⟩ := ht; unfold me; rw [t1, t2, t3, t4]
    refine ⟨M.addY e.chk (me e), M.addE e.chk, (h.addO (hK.below hbw (by omega)) f hokf hsf).mono ?_⟩
    rintro z X1 ⟨rfl, ⟨B, F, vt, g1, g2, g3, g4, g5, g6⟩, hB⟩
    rw [hfc, hme] at g1
    refine ⟨by rw [hfc, hme], hB, fun X2 hb2 => ?_⟩
    have g3' := g3.on hb2
    have hw2 := g3'.bel
    refine (rAdd_any g3' h.eb h.rch h.tk h.le e hoke (E6.SRow.bel hse hw2)).mono ?_
    rintro z w' ⟨rfl, vt', qs', l1, l2, l3, l4⟩
    have s1 := hB.size
    have s2 := hb2.size
    have s3 := l2.size
    have hS2 : ∀ k, (k = rb ∨ vt.ownBlock = some k) → S k := fun k hk => by
      rcases hk with rfl | hk
      · exact g4
      · exact (g6 k hk).1
    refine ⟨rfl, l2.mono hS2, .inr ⟨cb, rb, M.addS e.chk (me e), qs', rfl, rfl, ⟨B, F, vt', ?_, fun k hk => ?_, l1, .inl g4, g5, fun k hk => ?_⟩, addS_inv h.inv (fun hc => chk_eb hc hoke.ho.1 hoke.ho.2 hoke.ha.1 hoke.ha.2), ?_, ?_, ?_, ?_, ?_⟩⟩
    · refine (g1.below hb2).but (X := fun _ => False) l2 (fun k _ ht l hl => ?_) (FEx.refl _ _) (fun k l hl => Nat.lt_of_lt_of_le (g1.lt k l hl) (by omega))
      rcases ht with rfl | ht
      · rw [g5] at hl; cases hl
      · rw [(g6 k ht).2] at hl; cases hl
    · rcases g2 k hk with q | q
      · exact .inl q
      · exact .inr ⟨q.1, by omega⟩
    · rcases l3 k hk with q | q
      · exact ⟨.inl (g6 k q).1, (g6 k q).2⟩
      · refine ⟨.inr ⟨by omega, (l1.ot.lt k hk).2⟩, ?_⟩
        cases hq : F k with
        | none => rfl
        | some l => have := g1.lt k l hq; omega
    · rcases l4 with ⟨m1, rfl⟩ | ⟨m1, m2, m3, rfl⟩
      · rw [m1]; exact h.rch
      · rw [m3, List.map_append]
        exact .step h.rch (gdm_of m1 hoke).1 m2
    · rcases l4 with ⟨m1, rfl⟩ | ⟨m1, m2, m3, rfl⟩
      · rw [m1]; exact h.tk
      · rw [m3, next_taken m2, h.tk, List.length_append]; rfl
    · rcases l4 with ⟨m1, rfl⟩ | ⟨m1, m2, m3, rfl⟩
      · rw [m1]; exact h.le
      · rw [m3, next_taken m2]
        have hne : ¬ M.taken = 1048576 := fun hf => by
          have h9 := (add_full hf (me e)).2.2
          rw [m1] at m3
          rw [h9] at m3
          have h8 := next_taken m2
          rw [← m3] at h8
          omega
        have := h.le
        omega
    · rcases l4 with ⟨m1, rfl⟩ | ⟨m1, m2, m3, rfl⟩
      · exact h.eb
      · intro x hx
        rcases List.mem_append.1 hx with hx | hx
        · exact h.eb x hx
        · cases List.mem_singleton.1 hx; exact (gdm_of m1 hoke).2
    · exact nw_bd h.bd hbw.size (by omega)
end
end Go.Proofs.YtafkammiehcdjaaGreatDoor
/-
  One step with a pair.
-/
namespace Go.Proofs.YtafkammiehcdjaaGreatDoor
open Go.RowKit Go.Maps Go.Shelf
set_option linter.unusedVariables false
/-- A pair lies in a row. -/
structure Pa (w wr : World) (S : Nat → Prop) (o r : Value) (pb off : Nat) (cs : Array Value) (ty : TypeId) : Prop where
  pv : PrV w wr S o r
  bel : Below w.heap.size w wr
  hp : wr.heap[pb]? = some (.cells cs ty (0, 0))
  c0 : cs[off]? = some o
  c1 : cs[off + 1]? = some r
  ns : ¬ S pb
  ge : w.heap.size ≤ pb
/-- What a step leaves. -/
def Stp (w wr w' : World) (S : Nat → Prop) (pb off : Nat) (cs : Array Value) (ty : TypeId) : Prop := ∃ o' r', PrV w w' (Nw S wr w') o' r' ∧ w'.heap[pb]? = some (.cells ((cs.setIfInBounds off o').setIfInBounds (off + 1) r') ty (0, 0)) ∧ But (fun k => S k ∨ k = pb) wr w'
theorem set_self {cs : Array Value} {i : Nat} {v : Value} (h : cs[i]? = some v) : cs.setIfInBounds i v = cs := by
  obtain ⟨hi, hv⟩ := Array.getElem?_eq_some_iff.1 h
  apply Array.ext
  · simp
  · intro k h1 h2
    rw [Array.getElem_setIfInBounds]
    split
    · rename_i e; subst e; exact hv.symm
    · rfl
section
variable {w wr w' : World} {S : Nat → Prop} {o r : Value} {pb off : Nat} {cs : Array Value} {ty : TypeId}
theorem Pa.lt (h : Pa w wr S o r pb off cs ty) : pb < wr.heap.size := lt_of_heap h.hp
theorem Pa.on (h : Pa w wr S o r pb off cs ty) (hb : Below wr.heap.size wr w') : Pa w w' S o r pb off cs ty :=
  ⟨h.pv.on hb, h.bel.trans (hb.mono h.bel.size), (hb.block pb h.lt).trans h.hp, h.c0, h.c1, h.ns, h.ge⟩
theorem Pa.cell0 (h : Pa w wr S o r pb off cs ty) : wr.cell? ⟨pb, off, none⟩ = some o := cell_at h.hp h.c0
theorem Pa.cell1 (h : Pa w wr S o r pb off cs ty) : wr.cell? ⟨pb, off + 1, none⟩ = some r := cell_at h.hp h.c1
/-- Nothing of the pair has changed. -/
theorem Pa.same (h : Pa w wr S o r pb off cs ty) (hb : Below wr.heap.size wr w') : Stp w wr w' S pb off cs ty := by
  refine ⟨o, r, (h.pv.on hb).more (fun k hk => .inl hk) (nw_bd h.pv.bd h.bel.size hb.size), ?_, But.of_below hb⟩
  rw [set_self h.c0, set_self h.c1]
  exact (hb.block pb h.lt).trans h.hp
theorem Pa.add {w5 : World} (h : Pa w wr S o r pb off cs ty) (hp : PrV w w5 (Nw S wr w5) o r) (hb : But S wr w5) : Stp w wr w5 S pb off cs ty := by
  refine ⟨o, r, hp, ?_, hb.mono (fun k e => .inl e)⟩
  rw [set_self h.c0, set_self h.c1]
  exact (hb.block pb h.lt h.ns).trans h.hp
/-- Both cells are written. -/
theorem Pa.put {w1 : World} {o' r' : Value} (h : Pa w wr S o r pb off cs ty) (h1 : w1.heap[pb]? = some (.cells (cs.setIfInBounds off o') ty (0, 0))) (hb : But (fun k => S k ∨ k = pb) wr w1) (hp : PrV w (w1.setCell ⟨pb, off + 1, none⟩ r') (Nw S wr (w1.setCell ⟨pb, off + 1, none⟩ r')) o' r') : Stp w wr (w1.setCell ⟨pb, off + 1, none⟩ r') S pb off cs ty :=
  ⟨o', r', hp, by rw [set1_heap r' h1], hb.setCell ⟨pb, off + 1, none⟩ (fun _ => .inr rfl) r'⟩
end
theorem row1_cell {w : World} {base gb c : Nat} {f : E6.Ev} (h : w.ownsRow base 36 5 (.slice (some ⟨gb, 0, none⟩) 1 c) 1 (E6.ecells [f])) : w.cell? ⟨gb, 0, none⟩ = some (.int .i64 f.g) ∧ w.cell? ⟨gb, 1, none⟩ = some (.int .i64 f.k) ∧ w.cell? ⟨gb, 2, none⟩ = some (.int .u64 f.o) ∧ w.cell? ⟨gb, 3, none⟩ = some (.int .u64 f.a) ∧ w.cell? ⟨gb, 4, none⟩ = some (.slice f.sa f.ls.length f.sc) ∧ gb < w.heap.size := by
  have k := fun i u hu => World.ownsRow.cells h (g := gb) rfl i u hu
  have k0 := k 0 (.int .i64 f.g) rfl
  have k1 := k 1 (.int .i64 f.k) rfl
  have k2 := k 2 (.int .u64 f.o) rfl
  have k3 := k 3 (.int .u64 f.a) rfl
  have k4 := k 4 (.slice f.sa f.ls.length f.sc) rfl
  rw [add_at] at k0 k1 k2 k3 k4
  exact ⟨by simpa using k0, by simpa using k1, by simpa using k2, by simpa using k3, by simpa using k4, (h.lt gb rfl).2⟩
theorem rNew_any (w : World) : Calls Tryz.prog 45 #[] w fun z w' => z = .returned (gPtr w.heap.size) ∧ w' = w.alloc (.cells #[.slice none 0 0] 135) := by
  go_enter Tryz.func45, Tryz.ntmps45
  go_wp2
  go_ret
  exact ⟨rfl, rfl⟩
def opC (k wh : Int) (e : E6.Ev) (g : Int) : Array Value := #[.int .i64 k, .int .i64 wh, .int .i64 e.g, .int .i64 e.k, .int .u64 e.o, .int .u64 e.a, .slice e.sa e.ls.length e.sc, .int .i64 g]
theorem op_cells {W : World} {b : Nat} {k wh g : Int} {e : E6.Ev} (h : W.heap[b]? = some (.cells (opC k wh e g) 55 (0, 0))) : ∀ X, Below W.heap.size W X → X.cell? ⟨b, 0, none⟩ = some (.int .i64 k) ∧ X.cell? ⟨b, 1, none⟩ = some (.int .i64 wh) ∧ X.cell? ⟨b, 2, none⟩ = some (.int .i64 e.g) ∧ X.cell? ⟨b, 3, none⟩ = some (.int .i64 e.k) ∧ X.cell? ⟨b, 4, none⟩ = some (.int .u64 e.o) ∧ X.cell? ⟨b, 5, none⟩ = some (.int .u64 e.a) ∧ X.cell? ⟨b, 6, none⟩ = some (.slice e.sa e.ls.length e.sc) ∧ X.cell? ⟨b, 7, none⟩ = some (.int .i64 g) ∧ b < X.heap.size := fun X hX => by
  have hX2 : X.heap[b]? = some (.cells (opC k wh e g) 55 (0, 0)) := (hX.block b (lt_of_heap h)).trans h
  exact ⟨cell_at hX2 rfl, cell_at hX2 rfl, cell_at hX2 rfl, cell_at hX2 rfl, cell_at hX2 rfl, cell_at hX2 rfl, cell_at hX2 rfl, cell_at hX2 rfl, lt_of_heap hX2⟩
section
variable {w wr : World} {S : Nat → Prop} {o r : Value} {pb off : Nat} {cs : Array Value} {ty : TypeId}
set_option maxRecDepth 8000 in
set_option maxHeartbeats 8000000 in
theorem step_other (h : Pa w wr S o r pb off cs ty) (k wh : Int) (e : E6.Ev) (g : Int) (n1 : k ≠ 1) (n2 : k ≠ 2) (n3 : k ≠ 3) (n4 : k ≠ 4) (n5 : k ≠ 5) :
    Calls Tryz.prog 22 #[.pointer (some ⟨pb, off, none⟩), .agg #[.int .i64 k, .int .i64 wh, .int .i64 e.g, .int .i64 e.k, .int .u64 e.o, .int .u64 e.a, .slice e.sa e.ls.length e.sc, .int .i64 g]] wr fun z w' => z = .returned (.bool true) ∧ Stp w wr w' S pb off cs ty := by
  have b1 := beq_f n1
  have b2 := beq_f n2
  have b3 := beq_f n3
  have b4 := beq_f n4
  have b5 := beq_f n5
  have HS : Hid (∀ ob, Stp w wr (wr.alloc ob) S pb off cs ty) := hide (fun ob => h.same (below_alloc1 wr ob))
  clear h n1 n2 n3 n4 n5
  go_enter Tryz.func22, Tryz.ntmps22
  go_wp2
  go_ret
  exact ⟨rfl, HS.out _⟩
set_option maxRecDepth 8000 in
set_option maxHeartbeats 8000000 in
theorem step_ask (h : Pa w wr S o r pb off cs ty) (k wh : Int) (e : E6.Ev) (g : Int) (hk : k = 2 ∨ k = 3) (g0 : -9223372036854775808 ≤ g) (g1 : g ≤ 9223372036854775807) :
    Calls Tryz.prog 22 #[.pointer (some ⟨pb, off, none⟩), .agg #[.int .i64 k, .int .i64 wh, .int .i64 e.g, .int .i64 e.k, .int .u64 e.o, .int .u64 e.a, .slice e.sa e.ls.length e.sc, .int .i64 g]] wr fun z w' => z = .returned (.bool true) ∧ Stp w wr w' S pb off cs ty := by
  obtain ⟨W, hW⟩ : ∃ W, W = wr.alloc (.cells (opC k wh e g) 55) := ⟨_, rfl⟩
  have hb : Below wr.heap.size wr W := by rw [hW]; exact below_alloc1 wr _
  have hE : W.heap[wr.heap.size]? = some (.cells (opC k wh e g) 55 (0, 0)) := by rw [hW]; exact heap_new _ _
  obtain ⟨p0, p1, p2, p3, p4, p5, p6, p7, pl⟩ := op_cells hE W (Below.refl _ _)
  have hP := h.on hb
  obtain ⟨K, D, A, hA⟩ := hP.pv.ask
  have HQ := hide (asked_any hA pb off hP.cell0 hP.cell1 g g0 g1)
  have HS : Hid (∀ X, Below W.heap.size W X → Stp w wr X S pb off cs ty) := hide (fun X hX => h.same (hb.trans (hX.mono hb.size)))
  have HW := hide hW
  unfold opC at HW
  clear h hb hE hP hA hW g0 g1
  rcases hk with rfl | rfl
  · go_enter Tryz.func22, Tryz.ntmps22
    go_wp2_with fail
    rw [← HW.out]
    clear HW
    generalize wr.heap.size = eb at p0 p1 p2 p3 p4 p5 p6 p7 pl ⊢
    go_wp2_with fail
    refine HQ.out.mono ?_
    rintro z w1 ⟨rfl, hb1⟩
    have HS1 := hide (HS.out w1 hb1)
    clear HQ hb1 p0 p1 p2 p3 p4 p5 p6 p7 pl HS
    go_wp2
    go_ret
    exact ⟨rfl, HS1.out⟩
  · go_enter Tryz.func22, Tryz.ntmps22
    go_wp2_with fail
    rw [← HW.out]
    clear HW
    generalize wr.heap.size = eb at p0 p1 p2 p3 p4 p5 p6 p7 pl ⊢
    go_wp2_with fail
    refine HQ.out.mono ?_
    rintro z w1 ⟨rfl, hb1⟩
    have HS1 := hide (HS.out w1 hb1)
    clear HQ hb1 p0 p1 p2 p3 p4 p5 p6 p7 pl HS
    go_wp2
    go_ret
    exact ⟨rfl, HS1.out⟩
set_option maxRecDepth 8000 in
set_option maxHeartbeats 8000000 in
theorem step_nil (h : Pa w wr S o r pb off cs ty) (wh : Int) (e : E6.Ev) (g : Int) :
    Calls Tryz.prog 22 #[.pointer (some ⟨pb, off, none⟩), .agg #[.int .i64 4, .int .i64 wh, .int .i64 e.g, .int .i64 e.k, .int .u64 e.o, .int .u64 e.a, .slice e.sa e.ls.length e.sc, .int .i64 g]] wr fun z w' => z = .returned (.bool true) ∧ Stp w wr w' S pb off cs ty := by
  obtain ⟨W, hW⟩ : ∃ W, W = wr.alloc (.cells (opC 4 wh e g) 55) := ⟨_, rfl⟩
  have hb : Below wr.heap.size wr W := by rw [hW]; exact below_alloc1 wr _
  have hE : W.heap[wr.heap.size]? = some (.cells (opC 4 wh e g) 55 (0, 0)) := by rw [hW]; exact heap_new _ _
  have hP := h.on hb
  have q0 := hP.cell0
  have ql := hP.lt
  have qf : W.frozen? ⟨pb, off, none⟩ = false := frz hP.hp off
  have hW1 : (W.setCell ⟨pb, off, none⟩ (.pointer none)).heap[pb]? = some (.cells (cs.setIfInBounds off (.pointer none)) ty (0, 0)) := set1_heap _ hP.hp
  have hc1 : (cs.setIfInBounds off (Value.pointer none))[off + 1]? = some r := by rw [Array.getElem?_setIfInBounds]; rw [if_neg (by omega)]; exact h.c1
  have z0 : (W.setCell ⟨pb, off, none⟩ (.pointer none)).cell? ⟨pb, off + 1, none⟩ = some r := cell_at hW1 hc1
  have zf : (W.setCell ⟨pb, off, none⟩ (.pointer none)).frozen? ⟨pb, off + 1, none⟩ = false := frz hW1 _
  have hB1 : But (fun k => S k ∨ k = pb) wr (W.setCell ⟨pb, off, none⟩ (.pointer none)) := (But.of_below hb).setCell ⟨pb, off, none⟩ (fun _ => .inr rfl) _
  have HS : Hid (Stp w wr ((W.setCell ⟨pb, off, none⟩ (.pointer none)).setCell ⟨pb, off + 1, none⟩ (.pointer none)) S pb off cs ty) := hide (h.put hW1 hB1 (.inl ⟨rfl, rfl, nw_bd h.pv.bd h.bel.size (hB1.setCell ⟨pb, off + 1, none⟩ (fun _ => .inr rfl) (.pointer none)).size⟩))
  have HW := hide hW
  unfold opC at HW
  clear h hb hE hP hW hW1 hc1 hB1
  rw [HW.out] at q0 ql qf z0 zf HS
  clear HW
  go_enter Tryz.func22, Tryz.ntmps22
  go_wp2
  go_ret
  exact ⟨rfl, HS.out⟩
end
end Go.Proofs.YtafkammiehcdjaaGreatDoor
