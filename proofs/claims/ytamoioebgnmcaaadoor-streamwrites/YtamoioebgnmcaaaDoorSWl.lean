/-
  StreamWrites: the walk.
-/
import Derived.Test.YtamoioebgnmcaaaDoorSWk
import Derived.Deep.DeepCutAuto
namespace Go.Proofs.YtamoioebgnmcaaaDoor
open Go.RowKit
attribute [local go_sem] Oper.semAt_some
structure Op8 where
  kind : Int
  who : Int
  r : Rc
/-- A script that came in. -/
structure ORow (w : World) (a : Option Addr) (n : Nat) (os : List Op8) : Prop where
  len : os.length = n
  cells : n = 0 ∨ ∃ b off, a = some ⟨b, off, none⟩ ∧ b < w.heap.size ∧ ∀ i e, os[i]? = some e → w.cell? ⟨b, off + i * 7, none⟩ = some (.int .i64 e.kind) ∧ w.cell? ⟨b, off + i * 7 + 1, none⟩ = some (.int .i64 e.who) ∧ w.cell? ⟨b, off + i * 7 + 2, none⟩ = some (.int .i64 e.r.stamp) ∧ w.cell? ⟨b, off + i * 7 + 3, none⟩ = some (.int .i64 e.r.kind) ∧ w.cell? ⟨b, off + i * 7 + 4, none⟩ = some (.int .u64 e.r.obj) ∧ w.cell? ⟨b, off + i * 7 + 5, none⟩ = some (.int .u64 e.r.arg) ∧ w.cell? ⟨b, off + i * 7 + 6, none⟩ = some (.int .i64 e.r.stack)
theorem spoil_nil (a : Option Addr) (c : Nat) (w : World) : Calls Tryd.prog 33 #[.slice a 0 c] w fun e w' => e = .returned (.tuple #[]) ∧ w' = w := by
  go_enter Tryd.func33, Tryd.ntmps33
  go_wp2_with fail
  go_loopw [2] (fun iv wr => iv = .int .i64 0 ∧ wr = w) (fun _ _ => 0)
  case atStart => exact ⟨rfl, rfl⟩
  case round =>
    obtain ⟨rfl, hwr⟩ := hrel
    rw [hwr]
    go_wp2
    go_end0
    exact ⟨rfl, rfl⟩
theorem But.drewN {S : Nat → Prop} {a w : World} (h : But S a w) (m : Nat) : But S a (w.drewN m) := ⟨h.os, h.tape, h.output, h.size, h.block⟩
theorem AnsO.spoil {B : Nat} {M : Nat → Prop} {n0 : Nat} {W w2 : World} {vp vq : Value} {xa : Option Addr} {xn xc : Nat} {ya : Option Addr} {zs : List Int} {M' : Nat → Prop} (an : AnsO B M n0 W w2 vp vq xa xn xc ya zs M') (m : Nat) :
    Calls Tryd.prog 33 #[.slice xa xn xc] (w2.drewN m) fun e w' => e = .returned (.tuple #[]) ∧ But M W w' ∧ PO B w' vp vq M' := by
  have hb2 : But M W (w2.drewN m) := an.but.drewN m
  have hp2 : PO B (w2.drewN m) vp vq M' := an.po.but ((But.refl (fun _ => False) w2).drewN m) (fun _ _ e => e)
  by_cases h0 : xn = 0
  · subst h0
    refine (spoil_nil xa xc _).mono ?_
    rintro e w' ⟨rfl, rfl⟩
    exact ⟨rfl, hb2, hp2⟩
  · obtain ⟨g, hxa, hMg⟩ := an.old.resolve_left h0
    obtain ⟨g', cs, hxa', hh, hn, hz, hM', hc⟩ := an.sp.resolve_left h0
    obtain rfl : g = g' := by rw [hxa] at hxa'; injection hxa' with e; injection e
    subst hxa
    refine (spoil_any (w := w2.drewN m) (g := g) (n := xn) (c := xc) (cs := cs) hh hn hz an.sm hc).mono ?_
    rintro e w' ⟨rfl, hb⟩
    exact ⟨rfl, hb2.trans hb (fun i _ e => e ▸ hMg), hp2.but hb (fun z h1 h2 => hM' ((h2 : z = g) ▸ h1))⟩
theorem But.cellB {S : Nat → Prop} {w w' : World} (h : But S w w') {p : Addr} (hp : p.block < w.heap.size) (hn : ¬ S p.block) : w'.cell? p = w.cell? p := World.cell?_of_block (w := w) (h.block p.block hp hn)
set_option maxHeartbeats 6400000 in
set_option maxRecDepth 10000 in
theorem writes_any (l1 l2 : Int) (a : Option Addr) (n c : Nat) (os : List Op8) (w : World) (hK : Kn w) (hw : 0 < w.heap.size) (hr : ORow w a n os) (hok : ∀ e ∈ os, e.r.ok) (hn : (n : Int) ≤ 9000000000000000000) :
    Calls Tryd.prog 8 #[.int .i64 l1, .int .i64 l2, .slice a n c] w fun e w' => e = .returned (.bool true) ∧ Below w.heap.size w w' := by
  have HR : Hid _ := hide hr
  have HL : Hid _ := hide hr.len
  have HOK : Hid _ := hide hok
  have HKN : Hid _ := hide hK
  have N1 := newP w.heap.size l1 w (Nat.le_refl _)
  clear hr hok hK
  go_enter Tryd.func8, Tryd.ntmps8
  go_wp2_with fail
  refine N1.mono ?_
  rintro e w1 ⟨po1, E1, rfl, hb1, hX1⟩
  have N2 := hX1 w1 (Below.refl _ _)
  have s1 := hb1.size
  clear N1 hX1
  go_wp2_with fail
  refine N2.mono ?_
  rintro e w2 ⟨qo1, M0, rfl, hi1, hb2, hp1, -⟩
  have s2 := hb2.size
  have N3 := newP w.heap.size l2 w2 (by omega)
  clear N2
  go_wp2_with fail
  refine N3.mono ?_
  rintro e w3 ⟨po2, E2, rfl, hb3, hX3⟩
  have s3 := hb3.size
  have N4 := hX3 w3 (Below.refl _ _)
  clear N3 hX3
  go_wp2_with fail
  refine N4.mono ?_
  rintro e w4 ⟨qo2, M1, rfl, hi2, hb4, hp2, hg2⟩
  have s4 := hb4.size
  clear N4
  obtain ⟨w6, hw6⟩ : ∃ w6, w6 = (w4.alloc (.cells #[.pointer po1, .pointer po2, .pointer none] 42)).alloc (.cells #[.pointer qo1, .pointer qo2, .pointer none] 58) := ⟨_, rfl⟩
  have b6 : Below w4.heap.size w4 w6 := by rw [hw6]; exact below_alloc2 _ _ _
  have HL0 : Hid (L2 w.heap.size w6 w4.heap.size (w4.heap.size + 1) (.pointer po1) (.pointer po2) (.pointer qo1) (.pointer qo2) M0 M1) := hide (by
    refine ⟨by rw [hw6]; exact heap_old (heap_new _ _), by rw [hw6]; exact heap_new2 _ _ _, ((hp1.below hb3).below hb4).below b6, hp2.below b6, fun z h0 h1 => ?_⟩
    have h8 := hp1.lt h0
    have h9 := hg2 z h1
    omega)
  have HB0 : Hid (Below w.heap.size w w6) := hide ((((hb1.trans (hb2.mono s1)).trans (hb3.mono (by omega))).trans (hb4.mono (by omega))).trans (b6.mono (by omega)))
  have HW6 : Hid _ := hide hw6
  have q1 : ∀ W : World, (binOp .eql 42 (.pointer po1) (.pointer none)).run Tryd.prog W = .ok (.bool po1.isNone) W := fun W => by cases po1 <;> go_simp
  have q2 : ∀ W : World, (binOp .eql 58 (.pointer qo1) (.pointer none)).run Tryd.prog W = .ok (.bool po1.isNone) W := fun W => by rw [← hi1]; cases qo1 <;> go_simp
  have q3 : ∀ W : World, (binOp .eql 42 (.pointer po2) (.pointer none)).run Tryd.prog W = .ok (.bool po2.isNone) W := fun W => by cases po2 <;> go_simp
  have q4 : ∀ W : World, (binOp .eql 58 (.pointer qo2) (.pointer none)).run Tryd.prog W = .ok (.bool po2.isNone) W := fun W => by rw [← hi2]; cases qo2 <;> go_simp
  have e1 : (E1 != E1) = false := by simp
  have e2 : (E2 != E2) = false := by simp
  have e3 : (po1.isNone != po1.isNone) = false := by simp
  have e4 : (po2.isNone != po2.isNone) = false := by simp
  clear hi1 hi2 hp1 hp2 hg2 hb1 hb2 hb3 hb4 b6 hw6 s1 s2 s3 s4
  go_upto_region 9 with fail
  rw [← HW6.out]
  clear q1 q2 q3 q4 e1 e2 e3 e4
  go_wp2_with fail
  go_loopw [17] (fun iv wr => ∃ (k : Nat) (M0 M1 : Nat → Prop), iv = .int .i64 (k : Int) ∧ k ≤ n ∧ Hid (L2 w.heap.size wr w4.heap.size (w4.heap.size + 1) (.pointer po1) (.pointer po2) (.pointer qo1) (.pointer qo2) M0 M1) ∧ Hid (Below w.heap.size w wr)) (fun iv _ => n - (intOf iv).toNat)
  case atStart => exact ⟨0, M0, M1, rfl, Nat.zero_le _, HL0, HB0⟩
  case round =>
    obtain ⟨k, N0, N1, rfl, hk, HLk, HBk⟩ := hrel
    rename World => wr
    by_cases hlt : k < n
    · have hltI : (k : Int) < (n : Int) := by omega
      obtain ⟨⟨kd, who, ⟨t, kk, o, ar, s⟩⟩, hop⟩ : ∃ e, os[k]? = some e := ⟨_, List.getElem?_eq_getElem (by rw [HL.out]; exact hlt)⟩
      have hro := HOK.out _ (List.mem_of_getElem? hop)
      rcases HR.out.cells with h0 | ⟨ob, oo, hao, hobl, hoc⟩
      · omega
      subst hao
      obtain ⟨x0, x1, x2, x3, x4, x5, x6⟩ := hoc k _ hop
      dsimp only at x0 x1 x2 x3 x4 x5 x6 hro
      have X0 := (HBk.out.cell (p := ⟨ob, oo + k * 7, none⟩) hobl).trans x0
      have X1 := (HBk.out.cell (p := ⟨ob, oo + k * 7 + 1, none⟩) hobl).trans x1
      have X2 := (HBk.out.cell (p := ⟨ob, oo + k * 7 + 2, none⟩) hobl).trans x2
      have X3 := (HBk.out.cell (p := ⟨ob, oo + k * 7 + 3, none⟩) hobl).trans x3
      have X4 := (HBk.out.cell (p := ⟨ob, oo + k * 7 + 4, none⟩) hobl).trans x4
      have X5 := (HBk.out.cell (p := ⟨ob, oo + k * 7 + 5, none⟩) hobl).trans x5
      have X6 := (HBk.out.cell (p := ⟨ob, oo + k * 7 + 6, none⟩) hobl).trans x6
      obtain ⟨w7, hw7⟩ : ∃ w7, w7 = wr.alloc (.cells #[.int .i64 kd, .int .i64 who, .int .i64 t, .int .i64 kk, .int .u64 o, .int .u64 ar, .int .i64 s] 64) := ⟨_, rfl⟩
      have b7 : Below wr.heap.size wr w7 := by rw [hw7]; exact below_alloc1 _ _
      have O7 : w7.heap[wr.heap.size]? = some (.cells #[.int .i64 kd, .int .i64 who, .int .i64 t, .int .i64 kk, .int .u64 o, .int .u64 ar, .int .i64 s] 64 (0, 0)) := by rw [hw7]; exact heap_new _ _
      have HO7 : Hid _ := hide O7
      have HL7 : Hid _ := hide (HLk.out.below b7)
      have HB7 : Hid (Below w.heap.size w w7) := hide (HBk.out.trans (b7.mono HBk.out.size))
      have HW7 : Hid _ := hide hw7
      have y0 : w7.cell? ⟨wr.heap.size, 0, none⟩ = some (.int .i64 kd) := by rw [cell_of_row w7 _ 0 _ _ (0, 0) O7]; rfl
      have y1 : w7.cell? ⟨wr.heap.size, 1, none⟩ = some (.int .i64 who) := by rw [cell_of_row w7 _ 1 _ _ (0, 0) O7]; rfl
      have HRO : Hid _ := hide hro
      clear x0 x1 x2 x3 x4 x5 x6 hoc hop hw7 b7 O7 hro
      go_upto_region 13 with fail
      rw [← HW7.out]
      clear X0 X1 X2 X3 X4 X5 X6
      go_upto_region 14 with fail
      go_cut [93] from 76 to 159 (fun v wx => (∃ fl : Bool, v = .bool fl ∧ (fl = false → 0 ≤ who ∧ who ≤ 2)) ∧ wx = w7)
      case first =>
        by_cases h1 : who < 0
        · have d1 : decide (who < 0) = true := decide_eq_true h1
          go_wp2_with fail
          go_meet
          exact ⟨⟨true, rfl, fun e => by cases e⟩, rfl⟩
        · have d1 : decide (who < 0) = false := decide_eq_false h1
          by_cases h2 : 2 < who
          · have d2 : decide (2 < who) = true := decide_eq_true h2
            go_wp2_with fail
            go_meet
            exact ⟨⟨true, rfl, fun e => by cases e⟩, rfl⟩
          · have d2 : decide (2 < who) = false := decide_eq_false h2
            go_wp2_with fail
            go_meet
            exact ⟨⟨false, rfl, fun _ => by omega⟩, rfl⟩
      case rest =>
      obtain ⟨⟨fl, rfl, hfl⟩, hwx⟩ := hcut
      rw [hwx]
      clear hwx
      go_upto_if 93 with fail
      go_cut [19] from 76 to 159 (fun v wx => (∃ j : Nat, j < 3 ∧ v = .int .i64 (j : Int)) ∧ wx = w7)
      case first =>
        cases fl with
        | true =>
          go_wp2_with fail
          go_meet
          exact ⟨⟨0, by decide, rfl⟩, rfl⟩
        | false =>
          obtain ⟨g0, g2⟩ := hfl rfl
          obtain ⟨j, rfl⟩ : ∃ j : Nat, who = (j : Int) := ⟨who.toNat, by omega⟩
          go_wp2_with fail
          go_meet
          exact ⟨⟨j, by omega, rfl⟩, rfl⟩
      case rest =>
      clear hfl
      obtain ⟨⟨j, hj, rfl⟩, hwx⟩ := hcut
      rw [hwx]
      clear hwx y1
      obtain ⟨vp, vq, M, hvp, hvq, hPO, nbp, nbq, hback⟩ := HL7.out.sel hj
      have HBK : Hid _ := hide hback
      have HPO : Hid _ := hide hPO
      have nob : ¬ M wr.heap.size := hPO.not_ty HO7.out (by decide)
      have c1 : w7.cell? ⟨w4.heap.size, j, none⟩ = some vp := by rw [cell_of_row w7 _ j _ _ (0, 0) HL7.out.ap]; exact hvp
      have c2 : w7.cell? ⟨w4.heap.size + 1, j, none⟩ = some vq := by rw [cell_of_row w7 _ j _ _ (0, 0) HL7.out.aq]; exact hvq
      have l1 := lt_of_heap HL7.out.ap
      have l2 := lt_of_heap HL7.out.aq
      have l3 := lt_of_heap HO7.out
      have hjI : (j : Int) < 3 := by omega
      have hj0 : (0 : Int) ≤ (j : Int) := by omega
      have z2 : w7.cell? ⟨wr.heap.size, 2, none⟩ = some (.int .i64 t) := by rw [cell_of_row w7 _ 2 _ _ (0, 0) HO7.out]; rfl
      have z3 : w7.cell? ⟨wr.heap.size, 3, none⟩ = some (.int .i64 kk) := by rw [cell_of_row w7 _ 3 _ _ (0, 0) HO7.out]; rfl
      have z4 : w7.cell? ⟨wr.heap.size, 4, none⟩ = some (.int .u64 o) := by rw [cell_of_row w7 _ 4 _ _ (0, 0) HO7.out]; rfl
      have z5 : w7.cell? ⟨wr.heap.size, 5, none⟩ = some (.int .u64 ar) := by rw [cell_of_row w7 _ 5 _ _ (0, 0) HO7.out]; rfl
      have z6 : w7.cell? ⟨wr.heap.size, 6, none⟩ = some (.int .i64 s) := by rw [cell_of_row w7 _ 6 _ _ (0, 0) HO7.out]; rfl
      have KA : ∀ X : World, But M w7 X → (X.cell? ⟨w4.heap.size, j, none⟩ = some vp ∧ X.cell? ⟨w4.heap.size + 1, j, none⟩ = some vq ∧ X.cell? ⟨wr.heap.size, 2, none⟩ = some (.int .i64 t) ∧ X.cell? ⟨wr.heap.size, 3, none⟩ = some (.int .i64 kk) ∧ X.cell? ⟨wr.heap.size, 4, none⟩ = some (.int .u64 o) ∧ X.cell? ⟨wr.heap.size, 5, none⟩ = some (.int .u64 ar) ∧ X.cell? ⟨wr.heap.size, 6, none⟩ = some (.int .i64 s)) := fun X hX => ⟨(hX.cellB (p := ⟨w4.heap.size, j, none⟩) l1 nbp).trans c1, (hX.cellB (p := ⟨w4.heap.size + 1, j, none⟩) l2 nbq).trans c2, (hX.cellB (p := ⟨wr.heap.size, 2, none⟩) l3 nob).trans z2, (hX.cellB (p := ⟨wr.heap.size, 3, none⟩) l3 nob).trans z3, (hX.cellB (p := ⟨wr.heap.size, 4, none⟩) l3 nob).trans z4, (hX.cellB (p := ⟨wr.heap.size, 5, none⟩) l3 nob).trans z5, (hX.cellB (p := ⟨wr.heap.size, 6, none⟩) l3 nob).trans z6⟩
      have HKA : Hid _ := hide KA
      clear hback hPO KA hvp hvq
      by_cases h0 : kd = 0
      · have d0 : (kd == 0) = true := by simp [h0]
        have PUT := putO (HPO.out.below ((Below.refl w7.heap.size w7).drew)) t kk o ar s HRO.out (HKN.out.below (HB7.out.drew) hw)
        have HPUT : Hid _ := hide PUT
        clear PUT
        go_upto_region 22 with fail
        clear c1 c2 z2 z3 z4 z5 z6
        go_region_held3 (fun X => X.cell? ⟨w4.heap.size, j, none⟩ = some vp ∧ X.cell? ⟨w4.heap.size + 1, j, none⟩ = some vq ∧ X.cell? ⟨wr.heap.size, 2, none⟩ = some (.int .i64 t) ∧ X.cell? ⟨wr.heap.size, 3, none⟩ = some (.int .i64 kk) ∧ X.cell? ⟨wr.heap.size, 4, none⟩ = some (.int .u64 o) ∧ X.cell? ⟨wr.heap.size, 5, none⟩ = some (.int .u64 ar) ∧ X.cell? ⟨wr.heap.size, 6, none⟩ = some (.int .i64 s)) (((with_reducible refine HKA.out _ ?_); repeat (first | with_reducible exact B8 | with_reducible exact But.refl _ _ | with_reducible refine But.drew ?_))) (first | (go_at_call 28; (with_reducible refine HPUT.out.mono ?_); rintro e w8 ⟨xa, xn, xc, E, zs, rfl, hb8, hX8⟩; have B8 : But M w7 w8 := (But.drew (But.refl M w7)).trans hb8 (fun _ _ e => e); have HX8 : Hid _ := hide (hX8 w8.drew (Below.refl _ _).drew); clear hX8 HPUT))
        go_upto_region 23 with fail
        go_region_held3 (fun X => X.cell? ⟨w4.heap.size, j, none⟩ = some vp ∧ X.cell? ⟨w4.heap.size + 1, j, none⟩ = some vq ∧ X.cell? ⟨wr.heap.size, 2, none⟩ = some (.int .i64 t) ∧ X.cell? ⟨wr.heap.size, 3, none⟩ = some (.int .i64 kk) ∧ X.cell? ⟨wr.heap.size, 4, none⟩ = some (.int .u64 o) ∧ X.cell? ⟨wr.heap.size, 5, none⟩ = some (.int .u64 ar) ∧ X.cell? ⟨wr.heap.size, 6, none⟩ = some (.int .i64 s)) (((with_reducible refine HKA.out _ ?_); repeat (first | with_reducible exact B9 | with_reducible exact B8 | with_reducible exact But.refl _ _ | with_reducible refine But.drew ?_))) (first | (go_at_call 31; (with_reducible refine HX8.out.mono ?_); rintro e w9 ⟨ya, yc, M', rfl, an⟩; have B9 : But M w7 w9 := (But.drew B8).trans an.but (fun _ _ e => e); have HAN : Hid _ := hide an; clear an HX8))
        have BS := bsm_any xa ya xn xc xn yc zs zs w9 HAN.out.rx HAN.out.ry (by have := HAN.out.sm; omega)
        have e5 : (E != E) = false := by simp
        have e6 : decide (zs = zs) = true := by simp
        rw [e6] at BS
        go_wp2_with fail
        refine BS.mono ?_
        rintro e w10 ⟨rfl, m, rfl⟩
        clear BS
        go_wp2_with fail
        refine (HAN.out.spoil m).mono ?_
        rintro e w11 ⟨rfl, hb11, hp11⟩
        have B11 : But M w7 w11 := (But.drew B8).trans hb11 (fun _ _ e => e)
        obtain ⟨P0, P1, hL11⟩ := HBK.out w11 M' hp11 B11 HAN.out.new
        have hB11 : Below w.heap.size w w11 := HB7.out.trans (B11.below HB7.out.size (fun k hk => HPO.out.ge hk))
        clear HAN HPO HBK HKA HKN HOK HR
        go_wp2_with fail
        exact ⟨⟨k + 1, P0, P1, by go_num, by omega, hide hL11, hide hB11⟩, by simp [intOf]; omega⟩
      · have d0 : (kd == 0) = false := by simp [h0]
        by_cases h1 : kd = 1
        · have d1 : (kd == 1) = true := by simp [h1]
          have FL := flushO HPO.out
          clear z2 z3 z4 z5 z6
          go_wp2_with fail
          refine FL.mono ?_
          rintro e w8 ⟨xa, xn, xc, zs, rfl, B8, hX8⟩
          have FL2 := hX8 w8 (Below.refl _ _)
          have c3 := (HKA.out w8 B8).2.1
          clear FL hX8
          go_wp2_with fail
          refine FL2.mono ?_
          rintro e w9 ⟨ya, yc, M', rfl, an⟩
          have HAN : Hid _ := hide an
          clear an FL2
          have BS := bsm_any xa ya xn xc xn yc zs zs w9 HAN.out.rx HAN.out.ry (by have := HAN.out.sm; omega)
          have e6 : decide (zs = zs) = true := by simp
          rw [e6] at BS
          go_wp2_with fail
          refine BS.mono ?_
          rintro e w10 ⟨rfl, m, rfl⟩
          clear BS
          go_wp2_with fail
          refine (HAN.out.spoil m).mono ?_
          rintro e w11 ⟨rfl, hb11, hp11⟩
          have B11 : But M w7 w11 := B8.trans hb11 (fun _ _ e => e)
          obtain ⟨P0, P1, hL11⟩ := HBK.out w11 M' hp11 B11 HAN.out.new
          have hB11 : Below w.heap.size w w11 := HB7.out.trans (B11.below HB7.out.size (fun k hk => HPO.out.ge hk))
          clear HAN HPO HBK HKA HKN HOK HR
          go_wp2_with fail
          exact ⟨⟨k + 1, P0, P1, by go_num, by omega, hide hL11, hide hB11⟩, by simp [intOf]; omega⟩
        · have d1 : (kd == 1) = false := by simp [h1]
          obtain ⟨N, hH1, hH2⟩ := heldO HPO.out
          have e7 : (N != N) = false := by simp
          clear z2 z3 z4 z5 z6
          go_wp2_with fail
          refine hH1.mono ?_
          rintro e w8 ⟨rfl, rfl⟩
          go_wp2_with fail
          refine hH2.mono ?_
          rintro e w9 ⟨rfl, rfl⟩
          clear hH1 hH2
          go_wp2_with fail
          exact ⟨⟨k + 1, _, _, by go_num, by omega, HL7, HB7⟩, by simp [intOf]; omega⟩
    · have hltI : ¬ (k : Int) < (n : Int) := by omega
      go_wp2
      go_ret
      exact ⟨rfl, HBk.out⟩
end Go.Proofs.YtamoioebgnmcaaaDoor
