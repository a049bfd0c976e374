/-
  Put of a writer, taken: with room in the body under way.
-/
import Derived.Test.YtdppbaipmmcjbaaDoorZod
namespace Go.Proofs.YtdppbaipmmcjbaaDoor
open Go.RowKit
theorem own_ne_cells {w : World} {base n b : Nat} {v : Value} {xs : List Value} {e T : TypeId} {z : Nat} {ds : Array Value} {fr : Nat × Nat} (h : w.ownsRow base e z v n xs) (hb : w.heap[b]? = some (.cells ds T fr)) (hne : e ≠ T) : v.ownBlock ≠ some b := by
  intro hv
  rcases h.2 with ⟨rfl, _⟩ | ⟨g, cap, cur, rfl, _, hh, _⟩
  · simp [Value.ownBlock] at hv
  · have e1 : g = b := by simpa [Value.ownBlock] using hv
    subst e1
    rw [hh] at hb
    simp at hb
    exact hne hb.2.1
theorem set3_far {w : World} {h k : Nat} {x y z : Value} (hne : k ≠ h) : (((w.setCell ⟨h, 0, none⟩ x).setCell ⟨h, 1, none⟩ y).setCell ⟨h, 2, none⟩ z).heap[k]? = w.heap[k]? := by rw [set_far _ hne, set_far _ hne, set_far _ hne]
theorem Bp.set {p : Nat} {w X : World} {v : Value} {i : Nat} (h : But (fun g => g = p ∨ v.ownBlock = some g) w X) (u : Value) : But (fun g => g = p ∨ v.ownBlock = some g) w (X.setCell ⟨p, i, none⟩ u) := h.setCell ⟨p, i, none⟩ (fun _ => .inl rfl) u
theorem Px.keep {X Y : World} {n p nb base m : Nat} {t k o a q : Int} {wc : Array Value} {v : Value} {xs : List Value} (h : Px X n p nb t k o a q wc) (hb : But (fun g => g = p ∨ v.ownBlock = some g) X Y) (own : X.ownsRow base 5 1 v m xs) (h1 : n ≠ p) (h2 : nb ≠ p) :
    Y.cell? ⟨n, 0, none⟩ = some (.pointer (some ⟨p, 0, none⟩)) ∧ Y.cell? ⟨nb, 0, none⟩ = some (.int .i64 (t + 1)) ∧ Y.cell? ⟨nb, 1, none⟩ = some (.int .u64 o) ∧ Y.cell? ⟨nb, 2, none⟩ = some (.int .i64 q) := by
  have hB := (hb.block n (lt_of_heap h.box) (fun e => e.elim h1 (fun e => own_ne_cells own h.box (by decide) e))).trans h.box
  have hS := (hb.block nb (lt_of_heap h.st) (fun e => e.elim h2 (fun e => own_ne_cells own h.st (by decide) e))).trans h.st
  exact ⟨by rw [cell_of_row Y _ 0 _ _ (0, 0) hB]; rfl, z3_cells hS⟩
theorem Px.stored {X Y : World} {n p nb : Nat} {t k o a q : Int} {wc wd : Array Value} (h : Px X n p nb t k o a q wc) (hp : Y.heap[p]? = some (.cells wd 75 (0, 0))) (hb : But (fun g => g = p) X Y) (h1 : n ≠ p) (h2 : n + 1 ≠ p) (h3 : n + 1 + 1 ≠ p) (h4 : nb ≠ p) : Px Y n p nb t k o a q wd :=
  ⟨(hb.block _ (lt_of_heap h.box) h1).trans h.box, (hb.block _ (lt_of_heap h.rcd) h2).trans h.rcd, (hb.block _ (lt_of_heap h.err) h3).trans h.err, (hb.block _ (lt_of_heap h.st) h4).trans h.st, hp⟩
theorem Px.grown {X Y : World} {n p nb base m : Nat} {t k o a q : Int} {wc : Array Value} {v : Value} {xs : List Value} (h : Px X n p nb t k o a q wc) (g : X.grownBy Y v.ownBlock) (own : X.ownsRow base 5 1 v m xs) : Px Y n p nb t k o a q wc :=
  ⟨(g.block _ (lt_of_heap h.box) (fun e => own_ne_cells own h.box (by decide) e.symm)).trans h.box, (g.block _ (lt_of_heap h.rcd) (fun e => own_ne_cells own h.rcd (by decide) e.symm)).trans h.rcd, (g.block _ (lt_of_heap h.err) (fun e => own_ne_cells own h.err (by decide) e.symm)).trans h.err, (g.block _ (lt_of_heap h.st) (fun e => own_ne_cells own h.st (by decide) e.symm)).trans h.st, (g.block _ (lt_of_heap h.wr) (fun e => own_ne_cells own h.wr (by decide) e.symm)).trans h.wr⟩
set_option maxHeartbeats 3200000 in
set_option maxRecDepth 10000 in
theorem wput_room {w : World} {p base : Nat} {lim held S O K least : Int} {av : Option Addr} {cv : Nat} {b : List Int} (t k o a q : Int) (hK : Kn w) (h : w.heap[p]? = some (.cells (wcs lim (.slice av b.length cv) held S O K least) 75 (0, 0)))
    (hown : w.ownsRow base 5 1 (.slice av b.length cv) b.length (b.map (Value.int .u8))) (hbase : base ≤ w.heap.size) (hE : putE ⟨0, 0, 0⟩ ⟨t, k, o, a, q⟩ = 0) (hr : (⟨t, k, o, a, q⟩ : Rc).ok) (hput : putE ⟨S, O, K⟩ ⟨t, k, o, a, q⟩ = 0) (hlow : ¬ t < least)
    (hlim : lim ≤ 1048576) (hbl : (b.length : Int) ≤ 1048576) (hh0 : 0 ≤ held) (hh1 : held ≤ 1048576) (hroom : (b.length : Int) + ((text ⟨S, O, K⟩ ⟨t, k, o, a, q⟩).length : Int) ≤ lim) :
    Calls Tryd.prog 32 #[.pointer (some ⟨p, 0, none⟩), .agg #[.int .i64 t, .int .i64 k, .int .u64 o, .int .u64 a, .int .i64 q]] w fun e w' => ∃ g c, e = .returned (.tuple #[.slice none 0 0, .int .i64 0]) ∧ w'.heap[p]? = some (.cells (wcs lim (.slice (some ⟨g, 0, none⟩) (b ++ text ⟨S, O, K⟩ ⟨t, k, o, a, q⟩).length c) (held + 1) (t + 1) o q (t + 1)) 75 (0, 0)) ∧ w'.ownsRow base 5 1 (.slice (some ⟨g, 0, none⟩) (b ++ text ⟨S, O, K⟩ ⟨t, k, o, a, q⟩).length c) (b ++ text ⟨S, O, K⟩ ⟨t, k, o, a, q⟩).length ((b ++ text ⟨S, O, K⟩ ⟨t, k, o, a, q⟩).map (Value.int .u8)) ∧ But (fun g => g = p ∨ (Value.slice av b.length cv).ownBlock = some g) w w' ∧ ((Value.slice av b.length cv).ownBlock = some g ∨ w.heap.size ≤ g) := by
  have hmf : ∀ (fn : Fn) (first cap : Array Value) (w : World), (Instr.makeFunc fn first cap).run Tryd.prog w = .ok (.func fn first cap) w := fun _ _ _ _ => rfl
  have hp := lt_of_heap h
  have hok := putE_ok hE
  dsimp only at hok
  obtain ⟨W, hW⟩ : ∃ W, W = ((w.alloc (.cells #[.pointer (some ⟨p, 0, none⟩)] 50)).alloc (.cells #[.int .i64 t, .int .i64 k, .int .u64 o, .int .u64 a, .int .i64 q] 48)).alloc (.cells #[.int .i64 0] 25) := ⟨_, rfl⟩
  have hb : Below w.heap.size w W := by rw [hW]; exact (below_alloc2 _ _ _).alloc (by simp; omega) _
  have hsz : W.heap.size = w.heap.size + 3 := by rw [hW]; simp
  have LF : W.heap[w.heap.size + 1 + 1]? = some (.cells #[.int .i64 0] 25 (0, 0)) := by rw [hW]; exact heap_newS (by simp)
  have HP := put_n 0 0 0 t k o a q W (hK.below hb (by omega)) (by omega) hE hr
  have HPX := fun X (hX : Below w.heap.size w X) => put_n S O K t k o a q X (hK.below hX (by omega)) (by have := hX.size; omega) hput hr
  have HT0 : Hid _ := hide (text_len hE hr)
  have HM0 : Hid _ := hide (text_mem hE)
  have hTl := text_len hput hr
  have HM : Hid _ := hide (text_mem hput)
  generalize text ⟨0, 0, 0⟩ ⟨t, k, o, a, q⟩ = T0 at HP HT0 HM0 ⊢
  generalize text ⟨S, O, K⟩ ⟨t, k, o, a, q⟩ = T at HPX hTl HM hroom ⊢
  have HPX : Hid _ := hide HPX
  have HW : Hid _ := hide hW
  have HH : Hid _ := hide h
  have HOW : Hid _ := hide hown
  clear hW hb h hown
  go_enter_defers Tryd.func32, Tryd.ntmps32
  go_wp2_with fail
  rw [← HW.out]
  refine HP.mono ?_
  rintro e w1 ⟨g1, c1, rfl, hg1, hown1, hb1⟩
  have hs1 := hb1.size
  have LF1 := (hb1.block (w.heap.size + 1 + 1) (by omega)).trans LF
  have f1 := frz LF1 0
  have x1 : w1.cell? ⟨w.heap.size + 1 + 1, 0, none⟩ = some (.int .i64 0) := by rw [cell_of_row w1 _ 0 _ _ (0, 0) LF1]; rfl
  have hlt : w.heap.size + 1 + 1 < w1.heap.size := by omega
  clear LF LF1 HP
  obtain ⟨P2, hB2⟩ := px_start HH.out HW.out hb1
  obtain ⟨w2, hw2⟩ : ∃ w2, w2 = ((w1.setCell ⟨w.heap.size + 1 + 1, 0, none⟩ (.int .i64 0)).alloc (.cells #[.int .i64 (t + 1), .int .u64 o, .int .i64 q] 69)) := ⟨_, rfl⟩
  rw [← hw2] at P2 hB2
  have HO1 : Hid (w2.ownsRow w.heap.size 5 1 (.slice (some ⟨g1, 0, none⟩) T0.length c1) T0.length (T0.map (Value.int .u8))) := hide (by
    rw [hw2]
    exact own_mono (own_but hown1 (((But.refl (fun g => g = w.heap.size + 1 + 1) w1).setCell ⟨w.heap.size + 1 + 1, 0, none⟩ (fun _ => rfl) _).alloc _) (fun g hg e => by cases hg; have e9 : g1 = w.heap.size + 1 + 1 := e; omega)) (by omega))
  have hnb : w1.heap.size ≠ w.heap.size + 1 + 1 := by omega
  have b0 := P2.boxc
  have e0 := P2.errc
  obtain ⟨r0, r1, r2, r3, r4⟩ := r5_cells P2.rcd
  obtain ⟨y0, y1, y2, y3, y4, y5, y6⟩ := w7_cells P2.wr
  have HP2 : Hid _ := hide P2
  have Hw2 : Hid _ := hide hw2
  have HB2 : Hid _ := hide hB2
  clear hw2 P2 hB2 hown1
  go_upto_region 5 with fail
  rw [← Hw2.out]
  clear x1 f1 hlt Hw2
  go_upto_region 7 with fail
  go_quiet (fail)
  clear b0 e0 r0 r1 r2 r3 r4 y0 y1 y2 y3 y4 y5 y6
  go_upto_region 9 with fail
  obtain ⟨w3, hw3⟩ : ∃ w3, w3 = w2.drewN nq := ⟨_, rfl⟩
  rw [← hw3]
  have hB23 : Below w2.heap.size w2 w3 := by rw [hw3]; exact below_drewN (Below.refl _ _) nq
  clear hw3
  have P3 := HP2.out.below hB23
  have hB3 : Below w.heap.size w w3 := HB2.out.trans (hB23.mono HB2.out.size)
  have hO3 := own_below HO1.out hB23
  have hs3 := hB3.size
  have sc3 := P3.sc
  have hF3 := lt_of_heap P3.err
  have HK3 : Hid (∀ X, But (fun g => g = w.heap.size + 1 + 1) w3 X → SC X w.heap.size p S O K t k o a q) := hide (fun X hX => sc3.but hX (by omega) (by omega) (by omega))
  have HPA := HPX.out w3.drew hB3.drew
  have HPB := HPX.out (w3.alloc (.cells #[.int .i64 0, .int .u64 0, .int .i64 0] 69)).drew (hB3.alloc hs3 _).drew
  have HP3 : Hid _ := hide P3
  have HO3 : Hid _ := hide hO3
  have HB3 : Hid _ := hide hB3
  clear hB23 P3 hO3 hB3 HP2 HO1 HB2 HPX
  unfold SC at sc3 HK3
  obtain ⟨k0, k1, k2, k3, k4, k5, k6, k7, k8⟩ := sc3
  go_cut [8, 9] from 30 to 39 (fun s8 _ wx => ∃ g2 c2, s8 = .slice (some ⟨g2, 0, none⟩) T.length c2 ∧ w3.heap.size ≤ g2 ∧ wx.ownsRow w3.heap.size 5 1 (.slice (some ⟨g2, 0, none⟩) T.length c2) T.length (T.map (Value.int .u8)) ∧ But (fun g => g = w.heap.size + 1 + 1) w3 wx ∧ wx.heap[w.heap.size + 1 + 1]? = some (.cells #[.int .i64 0] 25 (0, 0)))
  case first =>
    go_region_held3 (fun X => X.cell? ⟨w.heap.size, 0, none⟩ = some (.pointer (some ⟨p, 0, none⟩)) ∧ X.cell? ⟨p, 3, none⟩ = some (.int .i64 S) ∧ X.cell? ⟨p, 4, none⟩ = some (.int .u64 O) ∧ X.cell? ⟨p, 5, none⟩ = some (.int .i64 K) ∧ X.cell? ⟨w.heap.size + 1, 0, none⟩ = some (.int .i64 t) ∧ X.cell? ⟨w.heap.size + 1, 1, none⟩ = some (.int .i64 k) ∧ X.cell? ⟨w.heap.size + 1, 2, none⟩ = some (.int .u64 o) ∧ X.cell? ⟨w.heap.size + 1, 3, none⟩ = some (.int .u64 a) ∧ X.cell? ⟨w.heap.size + 1, 4, none⟩ = some (.int .i64 q)) (((with_reducible refine HK3.out _ ?_); repeat (first | with_reducible exact B4 | with_reducible exact But.refl _ _ | with_reducible refine But.drew ?_ | with_reducible refine But.alloc ?_ _ | (with_reducible refine Bt.set ?_ (by omega) _)))) (first
      | (go_at_call 48; (with_reducible refine HPB.mono ?_); rintro e w4 ⟨g2, c2, rfl, hg2, hown2, hb4⟩; have hbw : Below w3.heap.size w3 w4 := (below_alloc1 w3 _).drew.trans (hb4.mono (by simp)); have B4 : But (fun g => g = w.heap.size + 1 + 1) w3 w4 := But.of_below hbw; have hs4 := hbw.size; have LF4 := (hbw.block _ hF3).trans HP3.out.err; have fF := frz LF4 0; have xF : w4.cell? ⟨w.heap.size + 1 + 1, 0, none⟩ = some (.int .i64 0) := (by rw [cell_of_row w4 _ 0 _ _ (0, 0) LF4]; rfl); have LS4 : w4.heap[w3.heap.size]? = some (.cells #[.int .i64 0, .int .u64 0, .int .i64 0] 69 (0, 0)) := (hb4.block w3.heap.size (by simp)).trans (heap_new _ _); obtain ⟨s0, s1, s2⟩ := z3_cells LS4; have v0 := frz LS4 0; have v1 := frz LS4 1; have v2 := frz LS4 2; have hF1 : ¬ w.heap.size + 1 + 1 = w3.heap.size := (by omega); have hF2 : ¬ w3.heap.size = w.heap.size + 1 + 1 := (by omega))
      | (go_at_call 48; (with_reducible refine HPA.mono ?_); rintro e w4 ⟨g2, c2, rfl, hg2, hown2, hb4⟩; have hbw : Below w3.heap.size w3 w4 := (Below.refl w3.heap.size w3).drew.trans hb4; have B4 : But (fun g => g = w.heap.size + 1 + 1) w3 w4 := But.of_below hbw; have hs4 := hbw.size; have LF4 := (hbw.block _ hF3).trans HP3.out.err; have fF := frz LF4 0; have xF : w4.cell? ⟨w.heap.size + 1 + 1, 0, none⟩ = some (.int .i64 0) := (by rw [cell_of_row w4 _ 0 _ _ (0, 0) LF4]; rfl); have hF4 : w.heap.size + 1 + 1 < w4.heap.size := (by omega)))
    all_goals (go_wp2_with fail; go_meet)
    · exact ⟨g2, c2, rfl, by simpa using hg2, own_mono (own_but hown2 (((But.refl (fun g => g = w.heap.size + 1 + 1) w4).setCell ⟨w.heap.size + 1 + 1, 0, none⟩ (fun _ => rfl) _).alloc _) (fun g hg e => by cases hg; have e9 : g2 = w.heap.size + 1 + 1 := e; have h9 : w3.heap.size ≤ g2 := (by simpa using hg2); omega)) (by simp), ((Bt.set B4 (.inl rfl) _).alloc _), heap_old (cell1_heap _ LF4)⟩
    · have h9 : w3.heap.size + 1 ≤ g2 := by simpa using hg2
      have hgF : g2 ≠ w.heap.size + 1 + 1 := by omega
      have hgS : g2 ≠ w3.heap.size := by omega
      exact ⟨g2, c2, rfl, by omega, own_mono (own_but (S := fun g => g = w.heap.size + 1 + 1 ∨ g = w3.heap.size) hown2 (((((But.refl (fun g => g = w.heap.size + 1 + 1 ∨ g = w3.heap.size) w4).setCell ⟨w3.heap.size, 0, none⟩ (fun _ => .inr rfl) _).setCell ⟨w3.heap.size, 1, none⟩ (fun _ => .inr rfl) _).setCell ⟨w3.heap.size, 2, none⟩ (fun _ => .inr rfl) _).setCell ⟨w.heap.size + 1 + 1, 0, none⟩ (fun _ => .inl rfl) _) (fun g hg e => by cases hg; exact (e : g2 = w.heap.size + 1 + 1 ∨ g2 = w3.heap.size).elim hgF hgS)) (by simp), Bt.set (Bt.set (Bt.set (Bt.set B4 (.inr (Nat.le_refl _)) _) (.inr (Nat.le_refl _)) _) (.inr (Nat.le_refl _)) _) (.inl rfl) _, cell1_heap _ ((set3_far (by omega)).trans LF4)⟩
  case rest =>
    obtain ⟨g2, c2, rfl, hg2, hown2, hb5, LF5⟩ := hcut
    rename World => w5
    have P5 := HP3.out.but hb5 LF5 (by omega) hnb
    have hs5 := hb5.size
    have b0 := P5.boxc
    have e0 := P5.errc
    obtain ⟨y0, y1, y2, y3, y4, y5, y6⟩ := w7_cells P5.wr
    have HP5 : Hid _ := hide P5
    have HO2 : Hid _ := hide hown2
    have HB5 : Hid _ := hide hb5
    clear P5 hown2 hb5 LF5 k0 k1 k2 k3 k4 k5 k6 k7 k8 HPA HPB HK3
    go_upto_region 12 with fail
    go_quiet (fail)
    clear b0 e0 y0 y1 y2 y3 y4 y5 y6
    go_upto_region 14 with fail
    obtain ⟨w6, hw6⟩ : ∃ w6, w6 = w5.drewN nq := ⟨_, rfl⟩
    rw [← hw6]
    have hB56 : Below w5.heap.size w5 w6 := by rw [hw6]; exact below_drewN (Below.refl _ _) nq
    clear hw6
    have P6 := HP5.out.below hB56
    have hs6 := hB56.size
    have b06 : But (fun g => g = w.heap.size + 1 + 1 ∨ g = p) w w6 := ((But.of_below (S := fun g => g = w.heap.size + 1 + 1 ∨ g = p) HB3.out).trans HB5.out (fun _ _ e => .inl e)).trans (T := fun _ => False) (But.of_below hB56) (fun _ _ e => e.elim)
    have hO6 := own_but HOW.out b06 (fun g hg e => (e : g = w.heap.size + 1 + 1 ∨ g = p).elim (fun e9 => by have h9 := (HOW.out.lt g hg).2; omega) (fun e9 => own_ne_cells HOW.out HH.out (by decide) (by rw [← e9]; exact hg)))
    have hOT := own_below HO2.out hB56
    have hO0 := own_below (own_but HO3.out HB5.out (fun g hg e => by cases hg; have e9 : g1 = w.heap.size + 1 + 1 := e; omega)) hB56
    clear HP5 HO2 hB56 HP3 HO3 HB3 HB5
    have hrT := own_row_u8 hOT (u8_of_mem HM.out)
    have oA : Hid (w6.drew.ownsRow base 5 1 (.slice av b.length cv) b.length ((b : List Int).map (Value.int .u8))) := hide (own_below hO6 ((Below.refl _ w6).drew))
    have rA : Hid (Row w6.drew (some ⟨g2, 0, none⟩) T.length T) := hide (hrT.below ((Below.refl _ w6).drew))
    have PA : Hid (Px w6.drew w.heap.size p w1.heap.size t k o a q (wcs lim (.slice av b.length cv) held S O K least)) := hide (P6.below ((Below.refl _ w6).drew))
    have HK6 : Hid (∀ X, But (fun g => g = p ∨ (Value.slice av b.length cv).ownBlock = some g) w6 X → X.cell? ⟨w.heap.size, 0, none⟩ = some (.pointer (some ⟨p, 0, none⟩)) ∧ X.cell? ⟨w1.heap.size, 0, none⟩ = some (.int .i64 (t + 1)) ∧ X.cell? ⟨w1.heap.size, 1, none⟩ = some (.int .u64 o) ∧ X.cell? ⟨w1.heap.size, 2, none⟩ = some (.int .i64 q)) := hide (fun X hX => P6.keep hX hO6 (by omega) (by omega))
    have b0 := P6.boxc
    obtain ⟨y0, y1, y2, y3, y4, y5, y6⟩ := w7_cells P6.wr
    obtain ⟨n0, n1, n2⟩ := z3_cells P6.st
    clear hO6 hOT hO0 hrT P6
    refine wp_region_noPanic ?_
    refine wp_region_held_drew (S := fun X => X.cell? ⟨w.heap.size, 0, none⟩ = some (.pointer (some ⟨p, 0, none⟩)) ∧ X.cell? ⟨w1.heap.size, 0, none⟩ = some (.int .i64 (t + 1)) ∧ X.cell? ⟨w1.heap.size, 1, none⟩ = some (.int .u64 o) ∧ X.cell? ⟨w1.heap.size, 2, none⟩ = some (.int .i64 q)) (by kernel_rfl) (HK6.out _ ((But.refl _ w6).drew)) (fun hHeld => ?_)
    refine wpAnyH_take (i := 0) (oi := _) (v := ?v0) rfl (by kernel_rfl) (by kernel_rfl) (by kernel_rfl) (fun _ _ _ h => h) (Or.inl ⟨by rfl, ?y0⟩) (by assumption) ?r0
    case y0 => (intro w' hSw; (try dsimp only at hSw); go_simp; try with_reducible rfl)
    refine wpAnyH_take (i := 1) (oi := _) (v := ?v1) rfl (by kernel_rfl) (by kernel_rfl) (by kernel_rfl) (fun _ _ _ h => h) (Or.inl ⟨by rfl, ?y1⟩) (by assumption) ?r1
    case y1 => (intro w' hSw; (try dsimp only at hSw); go_simp; try with_reducible rfl)
    refine wpAnyH_take (i := 2) (oi := _) (v := ?v2) rfl (by kernel_rfl) (by kernel_rfl) (by kernel_rfl) (fun _ _ _ h => h) (Or.inl ⟨by rfl, ?y2⟩) (by assumption) ?r2
    case y2 => (intro w' hSw; (try dsimp only at hSw); go_simp; try with_reducible rfl)
    refine wpAnyH_take (i := 3) (oi := _) (v := ?v3) rfl (by kernel_rfl) (by kernel_rfl) (by kernel_rfl) (fun _ _ _ h => h) (Or.inl ⟨by rfl, ?y3⟩) (by assumption) ?r3
    case y3 => (intro w' hSw; (try dsimp only at hSw); go_simp; try with_reducible rfl)
    refine wpAnyH_take (i := 4) (oi := _) (v := ?v4) rfl (by kernel_rfl) (by kernel_rfl) (by kernel_rfl) (fun _ _ _ h => h) (Or.inl ⟨by rfl, ?y4⟩) (by assumption) ?r4
    case y4 => (intro w' hSw; (try dsimp only at hSw); go_simp; try with_reducible rfl)
    refine wpAnyH_take (i := 6) (oi := _) (v := ?v6) rfl (by kernel_rfl) (by kernel_rfl) (by kernel_rfl) (fun _ _ _ h => h) (Or.inl ⟨by rfl, ?y6⟩) (by assumption) ?r6
    case y6 => (intro w' hSw; (try dsimp only at hSw); go_simp; try with_reducible rfl)
    refine wpAnyH_take (i := 8) (oi := _) (v := ?v8) rfl (by kernel_rfl) (by kernel_rfl) (by kernel_rfl) (fun _ _ _ h => h) (Or.inl ⟨by rfl, ?y8⟩) (by assumption) ?r8
    case y8 => (intro w' hSw; (try dsimp only at hSw); go_simp; try with_reducible rfl)
    refine wpAnyH_ready (rs := [5]) (by kernel_rfl) (by simp) ?_
    refine AllReadyH.cons (o := _) rfl (fun KK hKK => ?_) AllReadyH.nil
    go_simp
    refine hKK.out _ _ (HK6.out _ ((But.refl _ w6).drew)) (fun hHeld5 => ?_)
    clear hKK KK
    refine wpAnyH_ready (rs := [7]) (by kernel_rfl) (by simp) ?_
    refine AllReadyH.cons (o := _) rfl (fun KK hKK => ?_) AllReadyH.nil
    refine step_row w6.drew rfl (.tmp 64) (.tmp 65) rfl base (.slice av b.length cv) b.length b rfl oA.out _ _ _ T rfl rA.out (by omega) (by omega) (by simp; omega) ?_
    intro g8 c8 w8 hown8 hgr8 hl8
    have P8 := PA.out.grown hgr8 oA.out
    have B8 : But (fun g => g = p ∨ (Value.slice av b.length cv).ownBlock = some g) w6 w8 := ((But.refl (fun g => g = p ∨ (Value.slice av b.length cv).ownBlock = some g) w6).drew).grown hgr8 (fun _ _ e => .inr e)
    obtain ⟨z0, z1, z2, z3, z4, z5, z6⟩ := w7_cells P8.wr
    have f1 := frz P8.wr 1
    have f3 := frz P8.wr 3
    have f4 := frz P8.wr 4
    have f5 := frz P8.wr 5
    have HP8 : Hid _ := hide P8
    have HO8 : Hid _ := hide hown8
    have HL8 : Hid _ := hide hl8
    clear P8 hown8 hgr8 hl8
    refine hKK.out _ _ (HK6.out _ B8) (fun hHeld7 => ?_)
    clear hKK KK
    refine wpAnyH_take (i := 9) (oi := _) (v := ?v9) rfl (by kernel_rfl) (by kernel_rfl) (by kernel_rfl) (fun _ _ _ h => h) (Or.inl ⟨by rfl, ?y9⟩) (by assumption) ?r9
    case y9 => (intro w' hSw; (try dsimp only at hSw); go_simp; try with_reducible rfl)
    refine wpAnyH_take (i := 10) (oi := _) (v := ?v10) rfl (by kernel_rfl) (by kernel_rfl) (by kernel_rfl) (fun _ _ _ h => h) (Or.inl ⟨by rfl, ?y10⟩) (by assumption) ?r10
    case y10 => (intro w' hSw; (try dsimp only at hSw); go_simp; try with_reducible rfl)
    refine wpAnyH_ready (rs := [11]) (by kernel_rfl) (by simp) ?_
    refine AllReadyH.cons (o := _) rfl (fun KK hKK => ?_) AllReadyH.nil
    go_simp
    refine hKK.out _ _ (HK6.out _ (Bp.set B8 _)) (fun hHeld11 => ?_)
    clear hKK KK
    refine wpAnyH_take (i := 12) (oi := _) (v := ?v12) rfl (by kernel_rfl) (by kernel_rfl) (by kernel_rfl) (fun _ _ _ h => h) (Or.inl ⟨by rfl, ?y12⟩) (by assumption) ?r12
    case y12 => (intro w' hSw; (try dsimp only at hSw); go_simp; try with_reducible rfl)
    refine wpAnyH_take (i := 13) (oi := _) (v := ?v13) rfl (by kernel_rfl) (by kernel_rfl) (by kernel_rfl) (fun _ _ _ h => h) (Or.inl ⟨by rfl, ?y13⟩) (by assumption) ?r13
    case y13 => (intro w' hSw; (try dsimp only at hSw); go_simp; try with_reducible rfl)
    refine wpAnyH_ready (rs := [14]) (by kernel_rfl) (by simp) ?_
    refine AllReadyH.cons (o := _) rfl (fun KK hKK => ?_) AllReadyH.nil
    go_simp
    refine hKK.out _ _ (HK6.out _ (Bp.set (Bp.set (Bp.set (Bp.set B8 _) _) _) _)) (fun hHeld14 => ?_)
    clear hKK KK
    refine wpAnyH_done (by kernel_rfl) ?_ _
    refine NoPanic.normal ?_
    obtain ⟨w9, hw9⟩ : ∃ w9, w9 = (((w8.setCell ⟨p, 1, none⟩ (.slice (some ⟨g8, 0, none⟩) (b.length + T.length) c8)).setCell ⟨p, 3, none⟩ (.int .i64 (t + 1))).setCell ⟨p, 4, none⟩ (.int .u64 o)).setCell ⟨p, 5, none⟩ (.int .i64 q) := ⟨_, rfl⟩
    rw [← hw9]
    have L9 : w9.heap[p]? = some (.cells (wcs lim (.slice (some ⟨g8, 0, none⟩) (b.length + T.length) c8) held (t + 1) o q least) 75 (0, 0)) := by
      rw [hw9]; exact set1_heap _ (set1_heap _ (set1_heap _ (set1_heap _ HP8.out.wr)))
    have b89 : But (fun g => g = p) w8 w9 := by
      rw [hw9]; exact ((((But.refl (fun g => g = p) w8).setCell ⟨p, 1, none⟩ (fun _ => rfl) _).setCell ⟨p, 3, none⟩ (fun _ => rfl) _).setCell ⟨p, 4, none⟩ (fun _ => rfl) _).setCell ⟨p, 5, none⟩ (fun _ => rfl) _
    clear hw9 z0 z1 z2 z3 z4 z5 z6 f1 f3 f4 f5 hHeld hHeld5 hHeld7 hHeld11 hHeld14
    have P9 := HP8.out.stored L9 b89 (by omega) (by omega) (by omega) (by omega)
    have hO9 := own_but HO8.out b89 (fun g hg e => own_ne_cells HO8.out HP8.out.wr (by decide) (by rw [← (e : g = p)]; exact hg))
    have xF := P9.errc
    have fF := frz P9.err 0
    have HP9 : Hid _ := hide P9
    clear P9
    go_wp2
    obtain ⟨Z, hZ⟩ : ∃ Z, Z = w9.setCell ⟨w.heap.size + 1 + 1, 0, none⟩ (.int .i64 0) := ⟨_, rfl⟩
    rw [← hZ]
    have bZ : But (fun g => g = w.heap.size + 1 + 1) w9 Z := by rw [hZ]; exact (But.refl (fun g => g = w.heap.size + 1 + 1) w9).setCell ⟨w.heap.size + 1 + 1, 0, none⟩ (fun _ => rfl) _
    have PZ := HP9.out.but bZ (by rw [hZ]; exact cell1_heap _ HP9.out.err) (by omega) (by omega)
    have hOZ := own_but hO9 bZ (fun g hg e => own_ne_cells hO9 HP9.out.err (by decide) (by rw [← (e : g = w.heap.size + 1 + 1)]; exact hg))
    clear hZ
    obtain ⟨q0, q1, q2, q3, q4⟩ := r5_cells PZ.rcd
    obtain ⟨y0, y1, y2, y3, y4, y5, y6⟩ := w7_cells PZ.wr
    have eZ := PZ.errc
    refine leaves_cons (f := 49) (args := #[.pointer (some ⟨w.heap.size + 1 + 1, 0, none⟩), .pointer (some ⟨w.heap.size, 0, none⟩), .pointer (some ⟨w.heap.size + 1, 0, none⟩)]) (by simp) (by simp [go_sem]) ?_
    refine (put1_on _ _ _ p held t _ _ Z eZ PZ.boxc q0 y2 y6 (frz PZ.wr 2) (frz PZ.wr 6) (by omega) (by omega) (by omega) (by omega) (by omega) (by omega)).mono ?_
    rintro e u' w'' ⟨rfl, rfl, rfl⟩
    have eY : ((Z.setCell ⟨p, 2, none⟩ (.int .i64 (held + 1))).setCell ⟨p, 6, none⟩ (.int .i64 (t + 1))).cell? ⟨w.heap.size + 1 + 1, 0, none⟩ = some (.int .i64 0) := by
      have hne : ¬ p = w.heap.size + 1 + 1 := by omega
      have hne2 : ¬ w.heap.size + 1 + 1 = p := by omega
      go_simp
    have bY : But (fun g => g = p) Z ((Z.setCell ⟨p, 2, none⟩ (.int .i64 (held + 1))).setCell ⟨p, 6, none⟩ (.int .i64 (t + 1))) := ((But.refl (fun g => g = p) Z).setCell ⟨p, 2, none⟩ (fun _ => rfl) _).setCell ⟨p, 6, none⟩ (fun _ => rfl) _
    have LY : ((Z.setCell ⟨p, 2, none⟩ (.int .i64 (held + 1))).setCell ⟨p, 6, none⟩ (.int .i64 (t + 1))).heap[p]? = _ := set1_heap _ (set1_heap _ PZ.wr)
    have hOY := own_but hOZ bY (fun g hg e => own_ne_cells hOZ PZ.wr (by decide) (by rw [← (e : g = p)]; exact hg))
    have bw : But (fun g => g = p ∨ (Value.slice av b.length cv).ownBlock = some g) w ((Z.setCell ⟨p, 2, none⟩ (.int .i64 (held + 1))).setCell ⟨p, 6, none⟩ (.int .i64 (t + 1))) :=
      (((((But.refl (fun g => g = p ∨ (Value.slice av b.length cv).ownBlock = some g) w).trans b06 (fun i hi e => (e : i = w.heap.size + 1 + 1 ∨ i = p).elim (fun e9 => by omega) (fun e9 => .inl e9))).trans B8 (fun _ _ e => e)).trans b89 (fun _ _ e => .inl e)).trans bZ (fun i hi e => by have e9 : i = w.heap.size + 1 + 1 := e; omega)).trans bY (fun _ _ e => .inl e)
    obtain ⟨Y, hY⟩ : ∃ Y, Y = (Z.setCell ⟨p, 2, none⟩ (.int .i64 (held + 1))).setCell ⟨p, 6, none⟩ (.int .i64 (t + 1)) := ⟨_, rfl⟩
    rw [← hY] at eY LY hOY bw ⊢
    refine ⟨.tuple #[.slice none 0 0, .int .i64 0], by simp [results, Tryd.results32, go_sem, eY], ?_⟩
    refine ⟨g8, c8, rfl, ?_, ?_, bw, HL8.out.imp id (fun e => by have e9 : g8 = w6.heap.size := e; omega)⟩
    · rw [List.length_append]; exact LY
    · rw [List.length_append]; exact hOY
end Go.Proofs.YtdppbaipmmcjbaaDoor
