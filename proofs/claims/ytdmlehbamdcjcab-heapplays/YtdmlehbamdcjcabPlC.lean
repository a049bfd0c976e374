/-
  HeapPlays: a script of calls with two heaps and a nil one.
-/
import Derived.Test.YtdmlehbamdcjcabPlB
namespace Go.Proofs.Ytdmlehbamdcjcab
open Go.RowKit
/-- A step of a script. -/
structure Opp where
  kd : Int
  wh : Int
  k : Int
  t : Int
def layP : Lay Opp := ⟨fun a => [.int .i64 a.kd, .int .i64 a.wh, .int .i64 a.k, .int .i64 a.t], 4, by decide, fun _ => rfl, by intro a u hu; simp at hu; rcases hu with rfl | rfl | rfl | rfl <;> rfl⟩
set_option maxRecDepth 8000 in
set_option maxHeartbeats 3200000 in
theorem heapPlays (w : World) (a : Option Addr) (N c : Nat) (ops : List Opp) (hr : TRow layP w a N ops) (hN : (N : Int) ≤ 4398046511104) :
    Calls Try.prog 4 #[.slice a N c] w fun r w' => r = .returned (.bool true) ∧ Below w.heap.size w w' := by
  have HR : Hid _ := hide hr
  have HLN : Hid _ := hide hr.len
  clear hr
  obtain ⟨w1, hw1⟩ : ∃ w1, w1 = (w.alloc (.cells #[.pointer none, .pointer none, .pointer none] 42)).alloc (.cells #[.pointer none, .pointer none, .pointer none] 44) := ⟨_, rfl⟩
  have b1 : Below w.heap.size w w1 := by rw [hw1]; exact below_alloc2 _ _ _
  have s1 : w1.heap.size = w.heap.size + 2 := by rw [hw1]; simp
  have A1 : w1.heap[w.heap.size]? = some (.cells #[.pointer none, .pointer none, .pointer none] 42 (0, 0)) := by rw [hw1]; exact (Below.heap_alloc _ _ _ (by simp)).trans (heap_new _ _)
  have B1 : w1.heap[w.heap.size + 1]? = some (.cells #[.pointer none, .pointer none, .pointer none] 44 (0, 0)) := by rw [hw1]; exact heap_new2 _ _ _
  have HW1 : Hid _ := hide hw1
  have HB1 : Hid _ := hide b1
  have S1 : Hid _ := hide s1
  have HA1 : Hid _ := hide A1
  have HBB1 : Hid _ := hide B1
  clear hw1 b1 s1 A1 B1
  go_enter Try.func4, Try.ntmps4
  go_wp2_with fail
  rw [← HW1.out]
  refine (hnewI w1).mono ?_
  rintro r w2 ⟨rfl, h2, b2⟩
  have HH2 : Hid _ := hide h2
  have HB2 : Hid _ := hide b2
  have p2 := h2.plt
  clear h2 b2
  go_wp2_with fail
  refine (hnewI w2).mono ?_
  rintro r w3 ⟨rfl, h3, b3⟩
  have p3 := h3.plt
  have s1 := S1.out
  have A3 := (b3.block w.heap.size (by omega)).trans ((HB2.out.block w.heap.size (by omega)).trans HA1.out)
  have BB3 := (b3.block (w.heap.size + 1) (by omega)).trans ((HB2.out.block (w.heap.size + 1) (by omega)).trans HBB1.out)
  have HH3 : Hid _ := hide h3
  have HH2' : Hid _ := hide (HH2.out.below b3)
  have HB3 : Hid (Below w1.heap.size w1 w3) := hide (Below.on HB2.out b3)
  have c0 : w3.cell? ⟨w.heap.size, 0, none⟩ = some (.pointer none) := cell_at A3 rfl
  have c1 : w3.cell? ⟨w.heap.size, 1, none⟩ = some (.pointer none) := cell_at A3 rfl
  have f0 := frz A3 0
  have f1 := frz A3 1
  have HA3 : Hid _ := hide A3
  have HBB3 : Hid _ := hide BB3
  have P2 : Hid _ := hide p2
  have P3 : Hid _ := hide p3
  clear h3 b3 A3 BB3 s1 p2 p3
  go_wp2_with fail
  obtain ⟨w4, hw4⟩ : ∃ w4, w4 = (w3.setCell ⟨w.heap.size, 0, none⟩ (.pointer (some ⟨w1.heap.size, 0, none⟩))).setCell ⟨w.heap.size, 1, none⟩ (.pointer (some ⟨w2.heap.size, 0, none⟩)) := ⟨_, rfl⟩
  rw [← hw4]
  have A4 : w4.heap[w.heap.size]? = some (.cells #[.pointer (some ⟨w1.heap.size, 0, none⟩), .pointer (some ⟨w2.heap.size, 0, none⟩), .pointer none] 42 (0, 0)) := by rw [hw4]; exact set1_heap _ (set1_heap _ HA3.out)
  have b34 : But (fun k => k = w.heap.size) w3 w4 := by rw [hw4]; exact ((But.refl (fun k => k = w.heap.size) w3).setCell ⟨w.heap.size, 0, none⟩ (fun _ => rfl) _).setCell ⟨w.heap.size, 1, none⟩ (fun _ => rfl) _
  have s1 := S1.out
  have p2 := P2.out
  have p3 := P3.out
  have s34 := b34.size
  have BB4 := (b34.block (w.heap.size + 1) (by omega) (by omega)).trans HBB3.out
  have h0 : HsI w4 w1.heap.size w1.heap.size (.slice none 0 0) 0 [] := HH2'.out.but b34 (by omega) (fun g hg => by cases hg)
  have h1 : HsI w4 w2.heap.size w2.heap.size (.slice none 0 0) 0 [] := HH3.out.but b34 (by omega) (fun g hg => by cases hg)
  have b04 : Below w.heap.size w w4 := (HB1.out.trans (HB3.out.mono (by omega))).trans (b34.below (by omega) (fun k hk => by have e9 : k = w.heap.size := hk; omega))
  have H0 : Hid _ := hide h0
  have H1 : Hid _ := hide h1
  have HB4 : Hid _ := hide b04
  have HA4 : Hid _ := hide A4
  have HBB4 : Hid _ := hide BB4
  have hs24 : w2.heap.size < w4.heap.size := by omega
  have hs14 : w1.heap.size < w2.heap.size := by omega
  clear hw4 A4 b34 BB4 h0 h1 b04 c0 c1 f0 f1 s1 p2 p3 s34 P2 P3
  refine (r9new w4).mono ?_
  rintro r w5 ⟨rfl, r5, b5⟩
  have q5 := r5.lt
  have R5 : Hid _ := hide r5
  have HB5 : Hid _ := hide b5
  clear r5 b5
  go_wp2_with fail
  refine (r9new w5).mono ?_
  rintro r w6 ⟨rfl, r6, b6⟩
  have q6 := r6.lt
  have s1 := S1.out
  have s5 := HB5.out.size
  have s6 := b6.size
  have A6 := (b6.block w.heap.size (by omega)).trans ((HB5.out.block w.heap.size (by omega)).trans HA4.out)
  have BB6 := (b6.block (w.heap.size + 1) (by omega)).trans ((HB5.out.block (w.heap.size + 1) (by omega)).trans HBB4.out)
  have b46 : Below w4.heap.size w4 w6 := Below.on HB5.out b6
  have c0 : w6.cell? ⟨w.heap.size + 1, 0, none⟩ = some (.pointer none) := cell_at BB6 rfl
  have c1 : w6.cell? ⟨w.heap.size + 1, 1, none⟩ = some (.pointer none) := cell_at BB6 rfl
  have f0 := frz BB6 0
  have f1 := frz BB6 1
  have d0 : w6.cell? ⟨w.heap.size, 0, none⟩ = some (.pointer (some ⟨w1.heap.size, 0, none⟩)) := cell_at A6 rfl
  have d1 : w6.cell? ⟨w.heap.size, 1, none⟩ = some (.pointer (some ⟨w2.heap.size, 0, none⟩)) := cell_at A6 rfl
  have HQ : Hid (∀ W, But (fun k => k = w.heap.size + 1) w6 W → PS W w1.heap.size w2.heap.size w1.heap.size w2.heap.size w4.heap.size w5.heap.size 0) := hide (fun W hW =>
    ⟨_, _, _, _, _, _, (H0.out.below b46).but hW (by omega) (fun g hg => by cases hg), (H1.out.below b46).but hW (by omega) (fun g hg => by cases hg),
      (R5.out.but (S := fun _ => False) (But.of_below b6) (fun e => e) (fun _ _ _ _ e => e)).but hW (by omega) (fun b cur fr hbb e => ty_ne hbb BB6 (by decide) e),
      r6.but hW (by omega) (fun b cur fr hbb e => ty_ne hbb BB6 (by decide) e), by omega, by omega, by simp, by simp, fun g hg => by cases hg⟩)
  have HA6 : Hid _ := hide A6
  have HBB6 : Hid _ := hide BB6
  have HB6 : Hid _ := hide (HB4.out.trans (b46.mono HB4.out.size))
  have hab : ¬ w.heap.size + 1 = w.heap.size := by omega
  have hba : ¬ w.heap.size = w.heap.size + 1 := by omega
  have hp01 : w1.heap.size ≠ w2.heap.size := by omega
  have hq01 : w4.heap.size ≠ w5.heap.size := by omega
  have HBs : Hid ((w.heap.size + 2 ≤ w1.heap.size ∧ w.heap.size + 2 ≤ w1.heap.size ∧ w.heap.size + 2 ≤ w4.heap.size) ∧ (w.heap.size + 2 ≤ w2.heap.size ∧ w.heap.size + 2 ≤ w2.heap.size ∧ w.heap.size + 2 ≤ w5.heap.size)) := hide ⟨⟨by omega, by omega, by omega⟩, ⟨by omega, by omega, by omega⟩⟩
  have HSZ : Hid (w.heap.size + 2 ≤ w6.heap.size ∧ w1.heap.size ≤ w6.heap.size ∧ w2.heap.size ≤ w6.heap.size) := hide ⟨by omega, by omega, by omega⟩
  clear A6 BB6 b46 r6 b6 s1 s5 s6 q5 q6
  generalize w1.heap.size = p0 at *
  generalize w2.heap.size = p1 at *
  generalize w4.heap.size = q0 at *
  generalize w5.heap.size = q1 at *
  go_wp2_with fail
  obtain ⟨w8, hw8⟩ : ∃ w8, w8 = (w6.setCell ⟨w.heap.size + 1, 0, none⟩ (.pointer (some ⟨q0, 0, none⟩))).setCell ⟨w.heap.size + 1, 1, none⟩ (.pointer (some ⟨q1, 0, none⟩)) := ⟨_, rfl⟩
  rw [← hw8]
  have b68 : But (fun k => k = w.heap.size + 1) w6 w8 := by rw [hw8]; exact ((But.refl (fun k => k = w.heap.size + 1) w6).setCell ⟨w.heap.size + 1, 0, none⟩ (fun _ => rfl) _).setCell ⟨w.heap.size + 1, 1, none⟩ (fun _ => rfl) _
  have BB8 : w8.heap[w.heap.size + 1]? = some (.cells #[.pointer (some ⟨q0, 0, none⟩), .pointer (some ⟨q1, 0, none⟩), .pointer none] 44 (0, 0)) := by rw [hw8]; exact set1_heap _ (set1_heap _ HBB6.out)
  have s6 := HSZ.out
  have s8 := b68.size
  have A8 := (b68.block w.heap.size (by omega) hba).trans HA6.out
  have HP8 : Hid _ := hide (HQ.out w8 b68)
  have HB8 : Hid _ := hide (HB6.out.trans (b68.below (by omega) (fun k hk => by have e9 : k = w.heap.size + 1 := hk; omega)))
  have HA8 : Hid _ := hide A8
  have HBB8 : Hid _ := hide BB8
  have HS8 : Hid (w.heap.size + 2 ≤ w8.heap.size ∧ p0 ≤ w8.heap.size ∧ p1 ≤ w8.heap.size) := hide ⟨by omega, by omega, by omega⟩
  clear hw8 b68 BB8 A8 s6 s8 c0 c1 d0 d1 f0 f1 HQ
  go_loopw [5] (fun si wr => ∃ k : Nat, si = .int .i64 k ∧ k ≤ N ∧ PS wr p0 p1 p0 p1 q0 q1 k ∧ wr.heap[w.heap.size]? = some (.cells #[.pointer (some ⟨p0, 0, none⟩), .pointer (some ⟨p1, 0, none⟩), .pointer none] 42 (0, 0)) ∧ wr.heap[w.heap.size + 1]? = some (.cells #[.pointer (some ⟨q0, 0, none⟩), .pointer (some ⟨q1, 0, none⟩), .pointer none] 44 (0, 0)) ∧ Below w.heap.size w wr ∧ (w.heap.size + 2 ≤ wr.heap.size ∧ p0 ≤ wr.heap.size ∧ p1 ≤ wr.heap.size)) (fun si _ => N - (intOf si).toNat)
  case atStart =>
    exact ⟨0, rfl, Nat.zero_le _, HP8.out, HA8.out, HBB8.out, HB8.out, HS8.out⟩
  case round =>
    obtain ⟨k, rfl, hk, hP, hA, hBB, hb, hsz⟩ := hrel
    have HP : Hid _ := hide hP
    have HA : Hid _ := hide hA
    have HBB : Hid _ := hide hBB
    have HB : Hid _ := hide hb
    clear hP hA hBB hb
    by_cases hlt : k < N
    · obtain ⟨x, hx⟩ : ∃ x, ops[k]? = some x := ⟨_, List.getElem?_eq_getElem (by rw [HLN.out]; exact hlt)⟩
      obtain ⟨b, off, rfl, hbl, hc⟩ := HR.out.at (by omega)
      have u0 := (HB.out.cell (p := ⟨b, off + k * 4, none⟩) hbl).trans (hc k x hx 0 _ rfl)
      have u1 := (HB.out.cell (p := ⟨b, off + k * 4 + 1, none⟩) hbl).trans (hc k x hx 1 _ rfl)
      have u2 := (HB.out.cell (p := ⟨b, off + k * 4 + 2, none⟩) hbl).trans (hc k x hx 2 _ rfl)
      have u3 := (HB.out.cell (p := ⟨b, off + k * 4 + 3, none⟩) hbl).trans (hc k x hx 3 _ rfl)
      clear hx hc
      obtain ⟨kd, wh, xk, xt⟩ := x
      dsimp only at u0 u1 u2 u3
      obtain ⟨w2r, hw2⟩ : ∃ w2r, w2r = wr.alloc (.cells #[.int .i64 kd, .int .i64 wh, .int .i64 xk, .int .i64 xt] 47) := ⟨_, rfl⟩
      have b2 : Below wr.heap.size wr w2r := by rw [hw2]; exact below_alloc1 _ _
      have o2 : w2r.heap[wr.heap.size]? = some (.cells #[.int .i64 kd, .int .i64 wh, .int .i64 xk, .int .i64 xt] 47 (0, 0)) := by rw [hw2]; exact heap_new _ _
      have s2 : w2r.heap.size = wr.heap.size + 1 := by rw [hw2]; simp
      have HW2 : Hid _ := hide hw2
      have HP2 : Hid _ := hide (HP.out.below b2)
      have HA2 : Hid _ := hide ((b2.block w.heap.size (by omega)).trans HA.out)
      have HBB2 : Hid _ := hide ((b2.block (w.heap.size + 1) (by omega)).trans HBB.out)
      have HB2 : Hid _ := hide (HB.out.trans (b2.mono (by omega)))
      have HO2 : Hid _ := hide o2
      have hs2 : wr.heap.size < w2r.heap.size := by omega
      clear hw2 b2 o2 s2
      have hkn : (k : Int) + 1 ≤ 5000000000000 := by omega
      by_cases hw0 : wh = 0
      · subst hw0
        have KS : Hid (∀ X, Below (w.heap.size + 2) w2r X → X.heap[wr.heap.size]? = some (.cells #[.int .i64 kd, .int .i64 0, .int .i64 xk, .int .i64 xt] 47 (0, 0)) → X.cell? ⟨wr.heap.size, 0, none⟩ = some (.int .i64 kd) ∧ X.cell? ⟨wr.heap.size, 1, none⟩ = some (.int .i64 0) ∧ X.cell? ⟨wr.heap.size, 2, none⟩ = some (.int .i64 xk) ∧ X.cell? ⟨wr.heap.size, 3, none⟩ = some (.int .i64 xt) ∧ X.cell? ⟨w.heap.size, 0, none⟩ = some (.pointer (some ⟨p0, 0, none⟩)) ∧ X.cell? ⟨w.heap.size + 1, 0, none⟩ = some (.pointer (some ⟨q0, 0, none⟩))) := hide (fun X hX h9 => ⟨cell_at h9 rfl, cell_at h9 rfl, cell_at h9 rfl, cell_at h9 rfl, cell_at ((hX.block _ (by omega)).trans HA2.out) rfl, cell_at ((hX.block _ (by omega)).trans HBB2.out) rfl⟩)
        have HPd : Hid (PS w2r.drew p0 p1 p0 p1 q0 q1 k) := hide (HP2.out.below (Below.refl _ _).drew)
        obtain ⟨x0, x1, x2, x3, x4, x5⟩ := KS.out _ (Below.refl _ _) HO2.out
        go_upto_region 11 with fail
        rw [← HW2.out]
        clear u0 u1 u2 u3
        go_upto_region 12 with fail
        go_region_held3 (fun X => X.cell? ⟨wr.heap.size, 0, none⟩ = some (.int .i64 kd) ∧ X.cell? ⟨wr.heap.size, 1, none⟩ = some (.int .i64 0) ∧ X.cell? ⟨wr.heap.size, 2, none⟩ = some (.int .i64 xk) ∧ X.cell? ⟨wr.heap.size, 3, none⟩ = some (.int .i64 xt) ∧ X.cell? ⟨w.heap.size, 0, none⟩ = some (.pointer (some ⟨p0, 0, none⟩)) ∧ X.cell? ⟨w.heap.size + 1, 0, none⟩ = some (.pointer (some ⟨q0, 0, none⟩))) (first | exact KS.out _ hb7 o7 | exact KS.out _ (Below.refl _ _) HO2.out | exact KS.out _ (Below.refl _ _).drew HO2.out) (first
          | (go_at_call 19; go_must (
           refine (PS.step kd 0 xk xt HPd.out hp01 hq01 HBs.out.1 (by simp; omega) (by simp; omega) hkn).mono ?_
           rintro e1 w7 ⟨rfl, hP7, hb7', hk7⟩
           have hb7 : Below (w.heap.size + 2) w2r w7 := (Below.refl _ _).drew.trans hb7'
           have o7 : w7.heap[wr.heap.size]? = _ := (hk7 wr.heap.size _ _ _ HO2.out (by decide) (by decide) (by decide)).trans HO2.out)))
        have hsz7 := hb7.size
        have HA7 := (hb7.block w.heap.size (by omega)).trans HA2.out
        have HBB7 := (hb7.block (w.heap.size + 1) (by omega)).trans HBB2.out
        have HB7 := HB2.out.trans (hb7.mono (by omega))
        clear x0 x1 x2 x3 x4 x5
        go_wp2_with fail
        exact ⟨⟨k + 1, by go_num, by omega, hP7, HA7, HBB7, HB7, ⟨by omega, by omega, by omega⟩⟩, by simp [intOf]; omega⟩
      by_cases hw1 : wh = 1
      · subst hw1
        have KS : Hid (∀ X, Below (w.heap.size + 2) w2r X → X.heap[wr.heap.size]? = some (.cells #[.int .i64 kd, .int .i64 1, .int .i64 xk, .int .i64 xt] 47 (0, 0)) → X.cell? ⟨wr.heap.size, 0, none⟩ = some (.int .i64 kd) ∧ X.cell? ⟨wr.heap.size, 1, none⟩ = some (.int .i64 1) ∧ X.cell? ⟨wr.heap.size, 2, none⟩ = some (.int .i64 xk) ∧ X.cell? ⟨wr.heap.size, 3, none⟩ = some (.int .i64 xt) ∧ X.cell? ⟨w.heap.size, 1, none⟩ = some (.pointer (some ⟨p1, 0, none⟩)) ∧ X.cell? ⟨w.heap.size + 1, 1, none⟩ = some (.pointer (some ⟨q1, 0, none⟩))) := hide (fun X hX h9 => ⟨cell_at h9 rfl, cell_at h9 rfl, cell_at h9 rfl, cell_at h9 rfl, cell_at ((hX.block _ (by omega)).trans HA2.out) rfl, cell_at ((hX.block _ (by omega)).trans HBB2.out) rfl⟩)
        have HPd : Hid (PS w2r.drew p0 p1 p0 p1 q0 q1 k) := hide (HP2.out.below (Below.refl _ _).drew)
        obtain ⟨x0, x1, x2, x3, x4, x5⟩ := KS.out _ (Below.refl _ _) HO2.out
        go_upto_region 11 with fail
        rw [← HW2.out]
        clear u0 u1 u2 u3
        go_upto_region 12 with fail
        go_region_held3 (fun X => X.cell? ⟨wr.heap.size, 0, none⟩ = some (.int .i64 kd) ∧ X.cell? ⟨wr.heap.size, 1, none⟩ = some (.int .i64 1) ∧ X.cell? ⟨wr.heap.size, 2, none⟩ = some (.int .i64 xk) ∧ X.cell? ⟨wr.heap.size, 3, none⟩ = some (.int .i64 xt) ∧ X.cell? ⟨w.heap.size, 1, none⟩ = some (.pointer (some ⟨p1, 0, none⟩)) ∧ X.cell? ⟨w.heap.size + 1, 1, none⟩ = some (.pointer (some ⟨q1, 0, none⟩))) (first | exact KS.out _ hb7 o7 | exact KS.out _ (Below.refl _ _) HO2.out | exact KS.out _ (Below.refl _ _).drew HO2.out) (first
          | (go_at_call 19; go_must (
           refine (PS.step kd 1 xk xt HPd.out.swap (fun e => hp01 e.symm) (fun e => hq01 e.symm) HBs.out.2 (by simp; omega) (by simp; omega) hkn).mono ?_
           rintro e1 w7 ⟨rfl, hP7s, hb7', hk7⟩
           have hb7 : Below (w.heap.size + 2) w2r w7 := (Below.refl _ _).drew.trans hb7'
           have hP7 := hP7s.swap
           have o7 : w7.heap[wr.heap.size]? = _ := (hk7 wr.heap.size _ _ _ HO2.out (by decide) (by decide) (by decide)).trans HO2.out)))
        have hsz7 := hb7.size
        have HA7 := (hb7.block w.heap.size (by omega)).trans HA2.out
        have HBB7 := (hb7.block (w.heap.size + 1) (by omega)).trans HBB2.out
        have HB7 := HB2.out.trans (hb7.mono (by omega))
        clear x0 x1 x2 x3 x4 x5
        go_wp2_with fail
        exact ⟨⟨k + 1, by go_num, by omega, hP7, HA7, HBB7, HB7, ⟨by omega, by omega, by omega⟩⟩, by simp [intOf]; omega⟩
      by_cases hw2 : wh = 2
      · subst hw2
        have KS : Hid (∀ X, Below (w.heap.size + 2) w2r X → X.heap[wr.heap.size]? = some (.cells #[.int .i64 kd, .int .i64 2, .int .i64 xk, .int .i64 xt] 47 (0, 0)) → X.cell? ⟨wr.heap.size, 0, none⟩ = some (.int .i64 kd) ∧ X.cell? ⟨wr.heap.size, 1, none⟩ = some (.int .i64 2) ∧ X.cell? ⟨wr.heap.size, 2, none⟩ = some (.int .i64 xk) ∧ X.cell? ⟨wr.heap.size, 3, none⟩ = some (.int .i64 xt) ∧ X.cell? ⟨w.heap.size, 2, none⟩ = some (.pointer none) ∧ X.cell? ⟨w.heap.size + 1, 2, none⟩ = some (.pointer none)) := hide (fun X hX h9 => ⟨cell_at h9 rfl, cell_at h9 rfl, cell_at h9 rfl, cell_at h9 rfl, cell_at ((hX.block _ (by omega)).trans HA2.out) rfl, cell_at ((hX.block _ (by omega)).trans HBB2.out) rfl⟩)
        have HPd : Hid (PS w2r.drew p0 p1 p0 p1 q0 q1 k) := hide (HP2.out.below (Below.refl _ _).drew)
        obtain ⟨x0, x1, x2, x3, x4, x5⟩ := KS.out _ (Below.refl _ _) HO2.out
        go_upto_region 11 with fail
        rw [← HW2.out]
        clear u0 u1 u2 u3
        go_upto_region 12 with fail
        go_region_held3 (fun X => X.cell? ⟨wr.heap.size, 0, none⟩ = some (.int .i64 kd) ∧ X.cell? ⟨wr.heap.size, 1, none⟩ = some (.int .i64 2) ∧ X.cell? ⟨wr.heap.size, 2, none⟩ = some (.int .i64 xk) ∧ X.cell? ⟨wr.heap.size, 3, none⟩ = some (.int .i64 xt) ∧ X.cell? ⟨w.heap.size, 2, none⟩ = some (.pointer none) ∧ X.cell? ⟨w.heap.size + 1, 2, none⟩ = some (.pointer none)) (first | exact KS.out _ hb7 o7 | exact KS.out _ (Below.refl _ _) HO2.out | exact KS.out _ (Below.refl _ _).drew HO2.out) (first
          | (go_at_call 19; go_must (
           refine (plays_nil kd 2 xk xt w2r.drew).mono ?_
           rintro e1 w7 ⟨rfl, hb7'⟩
           have hP7 := ((HPd.out.below hb7').mono (show (k : Int) ≤ (k : Int) + 1 by omega))
           have hb7 : Below (w.heap.size + 2) w2r w7 := (Below.refl _ _).drew.trans (hb7'.mono (by simp; omega))
           have o7 : w7.heap[wr.heap.size]? = _ := (hb7'.block wr.heap.size (by simp; omega)).trans HO2.out)))
        have hsz7 := hb7.size
        have HA7 := (hb7.block w.heap.size (by omega)).trans HA2.out
        have HBB7 := (hb7.block (w.heap.size + 1) (by omega)).trans HBB2.out
        have HB7 := HB2.out.trans (hb7.mono (by omega))
        clear x0 x1 x2 x3 x4 x5
        go_wp2_with fail
        exact ⟨⟨k + 1, by go_num, by omega, hP7, HA7, HBB7, HB7, ⟨by omega, by omega, by omega⟩⟩, by simp [intOf]; omega⟩
      by_cases hneg : wh < 0
      · have hnd : decide (wh < 0) = true := decide_eq_true hneg
        go_upto_region 11 with fail
        rw [← HW2.out]
        clear u0 u1 u2 u3
        have x1 : w2r.cell? ⟨wr.heap.size, 1, none⟩ = some (.int .i64 wh) := cell_at HO2.out rfl
        go_wp2_with fail
        exact ⟨⟨k + 1, by go_num, by omega, HP2.out.mono (by omega), HA2.out, HBB2.out, HB2.out, ⟨by omega, by omega, by omega⟩⟩, by simp [intOf]; omega⟩
      · have h2w : 2 < wh := by omega
        have hnd : decide (wh < 0) = false := decide_eq_false hneg
        have hnd2 : decide (2 < wh) = true := decide_eq_true h2w
        go_upto_region 11 with fail
        rw [← HW2.out]
        clear u0 u1 u2 u3
        have x1 : w2r.cell? ⟨wr.heap.size, 1, none⟩ = some (.int .i64 wh) := cell_at HO2.out rfl
        go_wp2_with fail
        exact ⟨⟨k + 1, by go_num, by omega, HP2.out.mono (by omega), HA2.out, HBB2.out, HB2.out, ⟨by omega, by omega, by omega⟩⟩, by simp [intOf]; omega⟩
    · go_wp2_with fail
      go_ret
      exact ⟨rfl, HB.out⟩
end Go.Proofs.Ytdmlehbamdcjcab
