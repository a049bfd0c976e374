/-
  read: the parts, one behind the other.
-/
import Derived.Test.YtdppbaipmmcjbaaDoorIdx
namespace Go.Proofs.YtdppbaipmmcjbaaDoor
open Go.RowKit
theorem Tryd.sizeP : (Tryd.prog.info? 97).map (·.size) = some 2 := by kernel_rfl
theorem rc_eq (y x : Rc) : (y.stamp == x.stamp && (y.kind == x.kind && (y.obj == x.obj && (y.arg == x.arg && y.stack == x.stack)))) = decide (y = x) := by
  obtain ⟨a, b, c, d, e⟩ := y
  obtain ⟨f, g, h, i, j⟩ := x
  rw [Bool.eq_iff_iff]
  simp
theorem told_flag {b b' : Int} (h : b = 0 ↔ b' = 0) (f : Rc → Int → Ans) (x : Ans) : told b f x = told b' f x := by
  unfold told
  by_cases hb : b = 0
  · rw [if_pos hb, if_pos (h.1 hb)]
  · rw [if_neg hb, if_neg (fun e => hb (h.2 e))]
theorem part_O (x : Rc) (p : Int) (ad : Option Addr) (n c : Nat) (zs : List Int) (w : World) (hr : Row w ad n zs) (hn : (n : Int) ≤ 9223372036854700000) (y : Rc) (p' f : Int) (hy : pO zs x p = (y, p', f)) :
    Calls Tryd.prog 72 #[.agg #[.int .i64 x.stamp, .int .i64 x.kind, .int .u64 x.obj, .int .u64 x.arg, .int .i64 x.stack], .slice ad n c, .int .i64 p] w fun e w' =>
      e = .returned (.tuple #[.agg #[.int .i64 y.stamp, .int .i64 y.kind, .int .u64 y.obj, .int .u64 y.arg, .int .i64 y.stack], .int .i64 p', .int .i64 f]) ∧ Below w.heap.size w w' := by
  cases hy; exact po_any x.stamp x.kind x.obj x.arg x.stack p ad n c zs w hr hn
theorem part_A (x : Rc) (p : Int) (ad : Option Addr) (n c : Nat) (zs : List Int) (w : World) (hr : Row w ad n zs) (hn : (n : Int) ≤ 9223372036854700000) (y : Rc) (p' f : Int) (hy : pA zs x p = (y, p', f)) :
    Calls Tryd.prog 73 #[.agg #[.int .i64 x.stamp, .int .i64 x.kind, .int .u64 x.obj, .int .u64 x.arg, .int .i64 x.stack], .slice ad n c, .int .i64 p] w fun e w' =>
      e = .returned (.tuple #[.agg #[.int .i64 y.stamp, .int .i64 y.kind, .int .u64 y.obj, .int .u64 y.arg, .int .i64 y.stack], .int .i64 p', .int .i64 f]) ∧ Below w.heap.size w w' := by
  cases hy; exact pa_any x.stamp x.kind x.obj x.arg x.stack p ad n c zs w hr hn
theorem part_K (x : Rc) (p : Int) (ad : Option Addr) (n c : Nat) (zs : List Int) (w : World) (hr : Row w ad n zs) (hn : (n : Int) ≤ 9223372036854700000) (hq0 : 0 ≤ x.stack) (hq1 : x.stack ≤ 262144) (y : Rc) (p' f : Int) (hy : pK zs x p = (y, p', f)) :
    Calls Tryd.prog 74 #[.agg #[.int .i64 x.stamp, .int .i64 x.kind, .int .u64 x.obj, .int .u64 x.arg, .int .i64 x.stack], .slice ad n c, .int .i64 p] w fun e w' =>
      e = .returned (.tuple #[.agg #[.int .i64 y.stamp, .int .i64 y.kind, .int .u64 y.obj, .int .u64 y.arg, .int .i64 y.stack], .int .i64 p', .int .i64 f]) ∧ Below w.heap.size w w' := by
  cases hy; exact pk_any x.stamp x.kind x.obj x.arg x.stack p ad n c zs w hr hn hq0 hq1
/-- The answer as a value. -/
def ansV (R : Ans) : Value := .tuple #[.agg #[.int .i64 R.1.stamp, .int .i64 R.1.kind, .int .u64 R.1.obj, .int .u64 R.1.arg, .int .i64 R.1.stack], .int .i64 R.2.1, .int .i64 R.2.2]
def zeroV (e : Int) : Value := .tuple #[.agg #[.int .i64 0, .int .i64 0, .int .u64 0, .int .u64 0, .int .i64 0], .int .i64 0, .int .i64 e]
theorem zeroV_bad (e : Int) : ansV (bad e) = zeroV e := rfl
theorem readG_end {s : St} {zs : List Int} {t : Nat} (h : t = zs.length) : readG s zs t = bad 10 := by unfold readG; rw [if_pos h]
theorem readG_kind {s : St} {zs : List Int} {t : Nat} (h : t ≠ zs.length) (hk : ¬ (1 ≤ zs.getD t 0 % 32 ∧ zs.getD t 0 % 32 ≤ 22)) : readG s zs t = bad 60 := by unfold readG; rw [if_neg h, if_pos hk]
theorem readG_num {s : St} {zs : List Int} {t : Nat} (h : t ≠ zs.length) (hk : 1 ≤ zs.getD t 0 % 32 ∧ zs.getD t 0 % 32 ≤ 22) (hf : (rdAt zs (t + 1)).2.2 ≠ 0) : readG s zs t = bad (rdAt zs (t + 1)).2.2 := by
  unfold readG; rw [if_neg h, if_neg (fun e => e hk), if_pos hf]
theorem readG_stamp {s : St} {zs : List Int} {t : Nat} (h : t ≠ zs.length) (hk : 1 ≤ zs.getD t 0 % 32 ∧ zs.getD t 0 % 32 ≤ 22) (hf : (rdAt zs (t + 1)).2.2 = 0) (hg : 1048576 - s.stamp ≤ (rdAt zs (t + 1)).1) : readG s zs t = bad 70 := by
  unfold readG; rw [if_neg h, if_neg (fun e => e hk), if_neg (fun e => e hf), if_pos hg]
theorem readG_on {s : St} {zs : List Int} {t : Nat} (h : t ≠ zs.length) (hk : 1 ≤ zs.getD t 0 % 32 ∧ zs.getD t 0 % 32 ≤ 22) (hf : (rdAt zs (t + 1)).2.2 = 0) (hg : ¬ 1048576 - s.stamp ≤ (rdAt zs (t + 1)).1) :
    readG s zs t = told (zs.getD t 0 / 128 % 2) (pK zs) (told (zs.getD t 0 / 64 % 2) (pA zs) (told (zs.getD t 0 / 32 % 2) (pO zs) (⟨s.stamp + (rdAt zs (t + 1)).1, zs.getD t 0 % 32, s.obj, 0, s.stack⟩, (rdAt zs (t + 1)).2.1, 0))) := by
  unfold readG; rw [if_neg h, if_neg (fun e => e hk), if_neg (fun e => e hf), if_neg hg]
theorem read_end (S O K : Int) (ad : Option Addr) (n c : Nat) (zs : List Int) (w : World) (hl : zs.length = n) :
    Calls Tryd.prog 55 #[.agg #[.int .i64 S, .int .u64 O, .int .i64 K], .slice ad n c, .int .i64 n] w fun e w' => e = .returned (ansV (readG ⟨S, O, K⟩ zs n)) ∧ Below w.heap.size w w' := by
  rw [readG_end hl.symm, zeroV_bad]
  go_enter Tryd.func55, Tryd.ntmps55
  go_wp2_with fail
  refine (rf_end ad n c _).mono ?_
  rintro e w1 ⟨rfl, rfl⟩
  go_wp2_with fail
  refine bodyPost_ret (v := zeroV 10) (by simp [results, Tryd.results55, go_sem, zeroV]) rfl ?_
  exact ⟨rfl, below_alloc2 _ _ _⟩
set_option maxHeartbeats 1600000 in
set_option maxRecDepth 8000 in
theorem read_at (S O K : Int) (b off n c t : Nat) (zs : List Int) (w : World) (hK : Kn w) (hw : 0 < w.heap.size) (hr : Row w (some ⟨b, off, none⟩) n zs) (hn : (n : Int) ≤ 9223372036854700000) (ht : t < n) (hS0 : 0 ≤ S) (hS1 : S ≤ 1048576) (hK0 : 0 ≤ K) (hK1 : K ≤ 262144) :
    Calls Tryd.prog 55 #[.agg #[.int .i64 S, .int .u64 O, .int .i64 K], .slice (some ⟨b, off, none⟩) n c, .int .i64 t] w fun e w' => e = .returned (ansV (readG ⟨S, O, K⟩ zs t)) ∧ Below w.heap.size w w' := by
  obtain ⟨W, hW⟩ : ∃ W, W = (w.alloc (.cells #[.int .i64 S, .int .u64 O, .int .i64 K] 69)).alloc (.cells #[.int .i64 0, .int .i64 0, .int .u64 0, .int .u64 0, .int .i64 0] 48) := ⟨_, rfl⟩
  have hb : Below w.heap.size w W := by rw [hW]; exact below_alloc2 _ _ _
  have hsz : W.heap.size = w.heap.size + 2 := by rw [hW]; simp
  have s0 : W.cell? ⟨w.heap.size, 0, none⟩ = some (.int .i64 S) := by rw [hW]; go_simp
  have s1 : W.cell? ⟨w.heap.size, 1, none⟩ = some (.int .u64 O) := by rw [hW]; go_simp
  have s2 : W.cell? ⟨w.heap.size, 2, none⟩ = some (.int .i64 K) := by rw [hW]; go_simp
  have L6 : W.heap[w.heap.size + 1]? = some (.cells #[.int .i64 0, .int .i64 0, .int .u64 0, .int .u64 0, .int .i64 0] 48 (0, 0)) := by
    rw [hW, show w.heap.size + 1 = (w.alloc (.cells #[.int .i64 S, .int .u64 O, .int .i64 K] 69)).heap.size from by simp]
    exact heap_new _ _
  have hl := hr.len
  have htl : t ≠ zs.length := by omega
  obtain ⟨z, hz⟩ : ∃ z, z = zs.getD t 0 := ⟨_, rfl⟩
  have hu := hr.u8 t
  have hz01 : 0 ≤ z ∧ z ≤ 255 := by rw [hz]; simpa using hu
  have hcz : w.cell? ⟨b, off + t, none⟩ = some (.int .u8 z) := by
    rcases hr.cells with h0 | ⟨b', o', e, hc⟩
    · omega
    · cases e; rw [hz]; exact hc t ht
  have hKW := hK.below hb hw
  have hcW : W.cell? ⟨b, off + t, none⟩ = some (.int .u8 z) := (hb.cell (p := ⟨b, off + t, none⟩) (World.block_lt_of_cell? w _ hcz)).trans hcz
  have hrW := hr.below hb
  by_cases hk : 1 ≤ z % 32 ∧ z % 32 ≤ 22
  · have HF := rf_ok b off n c t z W hKW hn ht hz01.1 hz01.2 hcW hk
    have hb32 := tells_bits z hz01.1 hz01.2
    generalize hrd : rdAt zs (t + 1) = rr
    obtain ⟨x, p0, f0⟩ := rr
    have hrs := fun m => rs_any S (t + 1) (some ⟨b, off, none⟩) n c zs (W.drewN m) (hrW.drewN m) hn hS0 hS1 x p0 f0 hrd
    by_cases hf0 : f0 = 0
    · by_cases hg : 1048576 - S ≤ x
      · have HR : Hid (readG ⟨S, O, K⟩ zs t = bad 70) := hide (readG_stamp htl (by rw [← hz]; exact hk) (by rw [hrd]; exact hf0) (by rw [hrd]; exact hg))
        rw [HR.out, zeroV_bad]
        simp only [if_neg (show ¬ (f0 ≠ 0) from fun h => h hf0), if_pos hg] at hrs
        clear hrd hb32
        go_enter Tryd.func55, Tryd.ntmps55
        go_wp2_with fail
        rw [← hW]
        clear hW
        refine HF.mono ?_
        rintro e w1 ⟨rfl, m, rfl⟩
        have y0 : (W.drewN m).cell? ⟨w.heap.size, 0, none⟩ = some (.int .i64 S) := s0
        have LL : (W.drewN m).heap[w.heap.size + 1]? = _ := L6
        go_wp2_with fail
        refine (hrs m).mono ?_
        rintro e w2 ⟨rfl, rfl⟩
        go_wp2_with (refine wpList_store_row rfl 48 (.tmp 6) (.tmp 42) rfl (w.heap.size + 1) #[.int .i64 0, .int .i64 0, .int .u64 0, .int .u64 0, .int .i64 0] rfl rfl 48 #[.int .i64 0, .int .i64 0, .int .u64 0, .int .u64 0, .int .i64 0] LL Tryd.sizeR rfl (rc_one _ _ _ _ _) ?_)
        refine bodyPost_ret (v := zeroV 70) (by exact results_ctt Tryd.results55 _ _ (w.heap.size + 1) 48 #[.int .i64 0, .int .i64 0, .int .u64 0, .int .u64 0, .int .i64 0] (0, 0) _ rfl (setRow_heap _ _ _ _ _ _ LL) Tryd.underlying48 rfl Tryd.sizeR) rfl ?_
        exact ⟨rfl, below_setRow (below_drewN hb m) (by omega) _⟩
      · have HR0 := readG_on (s := ⟨S, O, K⟩) htl (by rw [← hz]; exact hk) (by rw [hrd]; exact hf0) (by rw [hrd]; exact hg)
        have hxbd := rdAt_bd zs ((t : Int) + 1) hr.u8
        rw [hrd] at hxbd
        rw [hrd, ← hz] at HR0
        dsimp only at HR0 hxbd
        rw [told_flag (b := z / 128 % 2) (b' := z / 128 % 2 * 128) (by omega), told_flag (b := z / 64 % 2) (b' := z / 64 % 2 * 64) (by omega), told_flag (b := z / 32 % 2) (b' := z / 32 % 2 * 32) (by omega)] at HR0
        simp only [if_neg (show ¬ (f0 ≠ 0) from fun h => h hf0), if_neg hg] at hrs
        rw [← hb32.1, ← hb32.2.1, ← hb32.2.2] at HR0
        have HR : Hid _ := hide HR0
        obtain ⟨kk, hkk⟩ : ∃ kk, kk = z % 32 := ⟨_, rfl⟩
        have hxx : 0 ≤ x ∧ x < 1048576 := by omega
        clear HR0 hb32 hxbd
        rw [← hkk] at HF HR
        generalize readG ⟨S, O, K⟩ zs t = R at HR ⊢
        generalize tellsV z = tv at HF HR
        generalize hb1 : bits .and .u8 tv 32 = b1 at HR
        generalize hb2 : bits .and .u8 tv 64 = b2 at HR
        generalize hb3 : bits .and .u8 tv 128 = b3 at HR
        have HB1 : Hid _ := hide hb1
        have HB2 : Hid _ := hide hb2
        have HB3 : Hid _ := hide hb3
        clear hrd hkk hk hcz hcW hz01 hu hz hb1 hb2 hb3
        go_enter Tryd.func55, Tryd.ntmps55
        go_wp2_with fail
        rw [← hW]
        clear hW
        refine HF.mono ?_
        rintro e w1 ⟨rfl, m, rfl⟩
        have y0 : (W.drewN m).cell? ⟨w.heap.size, 0, none⟩ = some (.int .i64 S) := s0
        have y1 : (W.drewN m).cell? ⟨w.heap.size, 1, none⟩ = some (.int .u64 O) := s1
        have y2 : (W.drewN m).cell? ⟨w.heap.size, 2, none⟩ = some (.int .i64 K) := s2
        go_wp2_with fail
        refine (hrs m).mono ?_
        rintro e w2 ⟨rfl, rfl⟩
        have hbd := below_drewN (Below.refl W.heap.size W) m
        have hszd : (W.drewN m).heap.size = W.heap.size := rfl
        generalize W.drewN m = w1 at y0 y1 y2 hbd hszd ⊢
        clear HF hrs
        obtain ⟨w2, hw2⟩ : ∃ w2, w2 = w1.alloc (.cells #[.int .i64 (S + x), .int .i64 kk, .int .u64 O, .int .u64 0, .int .i64 K] 48) := ⟨_, rfl⟩
        have B2 : Below W.heap.size W w2 := by rw [hw2]; exact hbd.alloc hbd.size _
        have LE : w2.heap[w.heap.size + 2]? = some (.cells #[.int .i64 (S + x), .int .i64 kk, .int .u64 O, .int .u64 0, .int .i64 K] 48 (0, 0)) := by rw [hw2, ← hsz, ← hszd]; exact heap_new _ _
        have Hw2 : Hid _ := hide hw2
        clear hw2
        go_wp2_with fail
        rw [HB1.out, HB2.out, HB3.out, ← Hw2.out]
        have HB0 : Hid _ := hide hbd
        clear HB1 HB2 HB3 Hw2 y0 y1 y2 hbd
        go_loopw [61, 2] (fun si s2 wr => ∃ (I : Int) (y : Rc) (p : Int), si = .int .i64 I ∧ s2 = .int .i64 p ∧ wr.heap[w.heap.size + 2]? = some (.cells #[.int .i64 y.stamp, .int .i64 y.kind, .int .u64 y.obj, .int .u64 y.arg, .int .i64 y.stack] 48 (0, 0)) ∧ Below W.heap.size W wr ∧
            ((I = 0 ∧ R = told b3 (pK zs) (told b2 (pA zs) (told b1 (pO zs) (y, p, 0))) ∧ y.stack = K) ∨ (I = 1 ∧ R = told b3 (pK zs) (told b2 (pA zs) (y, p, 0)) ∧ y.stack = K) ∨ (I = 2 ∧ R = told b3 (pK zs) (y, p, 0) ∧ y.stack = K) ∨ (I = 3 ∧ R = (y, p, 0))))
          (fun si _ _ => (3 - intOf si).toNat)
        case atStart => exact ⟨0, ⟨S + x, kk, O, 0, K⟩, p0, rfl, rfl, LE, B2, .inl ⟨rfl, HR.out, rfl⟩⟩
        case round =>
          obtain ⟨I, y, p, rfl, rfl, LE', BW, hI⟩ := hrel
          clear LE B2 HR
          have L6' : wr.heap[w.heap.size + 1]? = some (.cells #[.int .i64 0, .int .i64 0, .int .u64 0, .int .u64 0, .int .i64 0] 48 (0, 0)) := (BW.block (w.heap.size + 1) (by omega)).trans L6
          have hrw := (hr.below hb).below BW
          rcases hI with ⟨rfl, hR, hq⟩ | ⟨rfl, hR, hq⟩ | ⟨rfl, hR, hq⟩ | ⟨rfl, hR⟩
          · have HQ : Hid _ := hide hq
            have hq0 : 0 ≤ y.stack := by omega
            have hq1 : y.stack ≤ 262144 := by omega
            clear hq
            have hix := fun W => idx0 W (.int .u8 b1) (.func (.func 72) #[] #[]) (.int .u8 b2) (.func (.func 73) #[] #[]) (.int .u8 b3) (.func (.func 74) #[] #[])
            obtain ⟨ws, hws⟩ : ∃ ws, ws = (wr.alloc (.cells #[.int .u8 0, .nilFunc] 97)).setRow wr.heap.size #[.int .u8 b1, .func (.func 72) #[] #[]] := ⟨_, rfl⟩
            have Bws : Below wr.heap.size wr ws := by rw [hws]; exact below_setRow (below_alloc1 _ _) (Nat.le_refl _) _
            have Lws : ws.heap[wr.heap.size]? = some (.cells #[.int .u8 b1, .func (.func 72) #[] #[]] 97 (0, 0)) := by rw [hws]; exact setRow_heap _ _ _ _ _ _ (heap_new wr _)
            have LEs := (Bws.block (w.heap.size + 2) (lt_of_heap LE')).trans LE'
            have BWs := BW.trans (Bws.mono BW.size)
            have Hws : Hid _ := hide hws
            have k0 : ws.cell? ⟨wr.heap.size, 0, none⟩ = some (.int .u8 b1) := by rw [cell_of_row ws wr.heap.size 0 _ 97 (0, 0) Lws]; rfl
            have k1 : ws.cell? ⟨wr.heap.size, 1, none⟩ = some (.func (.func 72) #[] #[]) := by rw [cell_of_row ws wr.heap.size 1 _ 97 (0, 0) Lws]; rfl
            have hone : (#[.int .u8 b1, .func (.func 72) #[] #[]] : Array Value).all (·.oneCell') = true := by simp [Value.oneCell']
            clear hws
            by_cases hb0 : b1 = 0
            · have HR : Hid (R = told b3 (pK zs) (told b2 (pA zs) (y, p, 0))) := hide (by rw [hR, hb0, told_no])
              have hbb : (b1 == 0) = true := by simp [hb0]
              clear hR hrw hb0
              go_wp2_with (refine wpList_store_row rfl 97 (.tmp 15) (.tmp 63) rfl wr.heap.size #[.int .u8 b1, .func (.func 72) #[] #[]] rfl rfl 97 #[.int .u8 0, .nilFunc] (heap_new wr _) Tryd.sizeP rfl hone ?_; rw [← Hws.out])
              exact ⟨⟨1, y, p, rfl, rfl, LEs, BWs, .inr (.inl ⟨rfl, HR.out, HQ.out⟩)⟩, by simp [intOf]⟩
            · have hbb : (b1 == 0) = false := by simp [hb0]
              generalize hy : pO zs y p = Y
              obtain ⟨y2, p2, f2⟩ := Y
              have HC := part_O y p (some ⟨b, off, none⟩) n c zs ws (hrw.below Bws) hn y2 p2 f2 hy
              obtain ⟨c0, c1, c2, c3, c4⟩ := r5_cells LEs
              have HY : Hid _ := hide hy
              have HR : Hid _ := hide hR
              have hBB : Hid _ := hide hb0
              clear hy hR hb0 hrw
              go_wp2_with (refine wpList_store_row rfl 97 (.tmp 15) (.tmp 63) rfl wr.heap.size #[.int .u8 b1, .func (.func 72) #[] #[]] rfl rfl 97 #[.int .u8 0, .nilFunc] (heap_new wr _) Tryd.sizeP rfl hone ?_; rw [← Hws.out])
              refine HC.mono ?_
              rintro e w5 ⟨rfl, hb5⟩
              have B5 : Below W.heap.size W w5 := BWs.trans (hb5.mono BWs.size)
              have LE5 : w5.heap[w.heap.size + 2]? = some (.cells #[.int .i64 y.stamp, .int .i64 y.kind, .int .u64 y.obj, .int .u64 y.arg, .int .i64 y.stack] 48 (0, 0)) := (hb5.block (w.heap.size + 2) (lt_of_heap LEs)).trans LEs
              have L65 : w5.heap[w.heap.size + 1]? = some (.cells #[.int .i64 0, .int .i64 0, .int .u64 0, .int .u64 0, .int .i64 0] 48 (0, 0)) := (B5.block (w.heap.size + 1) (by omega)).trans L6
              obtain ⟨d0, d1, d2, d3, d4⟩ := r5_cells LE5
              have hlt5 := lt_of_heap LE5
              have hne5 : ¬ w.heap.size + 2 = w5.heap.size := by omega
              clear HC c0 c1 c2 c3 c4 hb5
              by_cases hf2 : f2 = 0
              · subst hf2
                have hqe : ∀ W', (binOp .eql 48 (.agg #[.int .i64 y2.stamp, .int .i64 y2.kind, .int .u64 y2.obj, .int .u64 y2.arg, .int .i64 y2.stack]) (.agg #[.int .i64 y.stamp, .int .i64 y.kind, .int .u64 y.obj, .int .u64 y.arg, .int .i64 y.stack])).run Tryd.prog W' = .ok (.bool (decide (y2 = y))) W' := fun W' => by rw [eql_rc, rc_eq]
                by_cases hyy : y2 = y
                · have HR2 : Hid (R = bad 71) := hide (by rw [HR.out, told_same hBB.out y2 p2 HY.out hyy]; rw [told_err (b := b2) (x := bad _) (by first | exact hf2 | (show (71 : Int) ≠ 0; decide)), told_err (b := b3) (x := bad _) (by first | exact hf2 | (show (71 : Int) ≠ 0; decide))])
                  rw [decide_eq_true hyy] at hqe
                  have hyy' := hide hyy
                  clear hyy
                  go_wp2_with (refine wpList_store_row rfl 48 (.tmp 6) (.tmp 84) rfl (w.heap.size + 1) #[.int .i64 0, .int .i64 0, .int .u64 0, .int .u64 0, .int .i64 0] rfl rfl 48 #[.int .i64 0, .int .i64 0, .int .u64 0, .int .u64 0, .int .i64 0] (heap_old L65) Tryd.sizeR rfl (rc_one _ _ _ _ _) ?_)
                  refine bodyPost_ret (v := zeroV 71) (by exact results_ctt Tryd.results55 _ _ (w.heap.size + 1) 48 #[.int .i64 0, .int .i64 0, .int .u64 0, .int .u64 0, .int .i64 0] (0, 0) _ rfl (setRow_heap _ _ _ _ _ _ (heap_old L65)) Tryd.underlying48 rfl Tryd.sizeR) rfl ?_
                  exact ⟨by rw [HR2.out]; rfl, below_setRow ((hb.trans (B5.mono hb.size)).alloc (by have := B5.size; omega) _) (by omega) _⟩
                · have HR2 : Hid (R = told b3 (pK zs) (told b2 (pA zs) (y2, p2, 0))) := hide (by rw [HR.out, told_on hBB.out y2 p2 HY.out hyy])
                  rw [decide_eq_false hyy] at hqe
                  have HQ2 : Hid (y2.stack = K) := hide (by rw [← (show (pO zs y p).1.stack = y2.stack by rw [HY.out])]; exact HQ.out)
                  clear hyy
                  go_wp2_with (refine wpList_store_row rfl 48 (.tmp 13) (.tmp 85) rfl (w.heap.size + 2) #[.int .i64 y2.stamp, .int .i64 y2.kind, .int .u64 y2.obj, .int .u64 y2.arg, .int .i64 y2.stack] rfl rfl 48 #[.int .i64 y.stamp, .int .i64 y.kind, .int .u64 y.obj, .int .u64 y.arg, .int .i64 y.stack] (heap_old LE5) Tryd.sizeR rfl (rc_one _ _ _ _ _) ?_)
                  exact ⟨⟨1, y2, p2, rfl, rfl, setRow_heap _ _ _ _ _ _ (heap_old LE5), below_setRow (B5.alloc B5.size _) (by omega) _, .inr (.inl ⟨rfl, HR2.out, HQ2.out⟩)⟩, by simp [intOf]⟩
              · have HR2 : Hid (R = bad f2) := hide (by rw [HR.out, told_bad hBB.out y2 p2 HY.out hf2]; rw [told_err (b := b2) (x := bad _) (by first | exact hf2 | (show (71 : Int) ≠ 0; decide)), told_err (b := b3) (x := bad _) (by first | exact hf2 | (show (71 : Int) ≠ 0; decide))])
                have hfb : (f2 != 0) = true := by simp [hf2]
                clear hf2
                go_wp2_with (refine wpList_store_row rfl 48 (.tmp 6) (.tmp 79) rfl (w.heap.size + 1) #[.int .i64 0, .int .i64 0, .int .u64 0, .int .u64 0, .int .i64 0] rfl rfl 48 #[.int .i64 0, .int .i64 0, .int .u64 0, .int .u64 0, .int .i64 0] (heap_old L65) Tryd.sizeR rfl (rc_one _ _ _ _ _) ?_)
                refine bodyPost_ret (v := zeroV f2) (by exact results_ctt Tryd.results55 _ _ (w.heap.size + 1) 48 #[.int .i64 0, .int .i64 0, .int .u64 0, .int .u64 0, .int .i64 0] (0, 0) _ rfl (setRow_heap _ _ _ _ _ _ (heap_old L65)) Tryd.underlying48 rfl Tryd.sizeR) rfl ?_
                exact ⟨by rw [HR2.out]; rfl, below_setRow ((hb.trans (B5.mono hb.size)).alloc (by have := B5.size; omega) _) (by omega) _⟩
          · have HQ : Hid _ := hide hq
            have hq0 : 0 ≤ y.stack := by omega
            have hq1 : y.stack ≤ 262144 := by omega
            clear hq
            have hix := fun W => idx1 W (.int .u8 b1) (.func (.func 72) #[] #[]) (.int .u8 b2) (.func (.func 73) #[] #[]) (.int .u8 b3) (.func (.func 74) #[] #[])
            obtain ⟨ws, hws⟩ : ∃ ws, ws = (wr.alloc (.cells #[.int .u8 0, .nilFunc] 97)).setRow wr.heap.size #[.int .u8 b2, .func (.func 73) #[] #[]] := ⟨_, rfl⟩
            have Bws : Below wr.heap.size wr ws := by rw [hws]; exact below_setRow (below_alloc1 _ _) (Nat.le_refl _) _
            have Lws : ws.heap[wr.heap.size]? = some (.cells #[.int .u8 b2, .func (.func 73) #[] #[]] 97 (0, 0)) := by rw [hws]; exact setRow_heap _ _ _ _ _ _ (heap_new wr _)
            have LEs := (Bws.block (w.heap.size + 2) (lt_of_heap LE')).trans LE'
            have BWs := BW.trans (Bws.mono BW.size)
            have Hws : Hid _ := hide hws
            have k0 : ws.cell? ⟨wr.heap.size, 0, none⟩ = some (.int .u8 b2) := by rw [cell_of_row ws wr.heap.size 0 _ 97 (0, 0) Lws]; rfl
            have k1 : ws.cell? ⟨wr.heap.size, 1, none⟩ = some (.func (.func 73) #[] #[]) := by rw [cell_of_row ws wr.heap.size 1 _ 97 (0, 0) Lws]; rfl
            have hone : (#[.int .u8 b2, .func (.func 73) #[] #[]] : Array Value).all (·.oneCell') = true := by simp [Value.oneCell']
            clear hws
            by_cases hb0 : b2 = 0
            · have HR : Hid (R = told b3 (pK zs) (y, p, 0)) := hide (by rw [hR, hb0, told_no])
              have hbb : (b2 == 0) = true := by simp [hb0]
              clear hR hrw hb0
              go_wp2_with (refine wpList_store_row rfl 97 (.tmp 15) (.tmp 63) rfl wr.heap.size #[.int .u8 b2, .func (.func 73) #[] #[]] rfl rfl 97 #[.int .u8 0, .nilFunc] (heap_new wr _) Tryd.sizeP rfl hone ?_; rw [← Hws.out])
              exact ⟨⟨2, y, p, rfl, rfl, LEs, BWs, .inr (.inr (.inl ⟨rfl, HR.out, HQ.out⟩))⟩, by simp [intOf]⟩
            · have hbb : (b2 == 0) = false := by simp [hb0]
              generalize hy : pA zs y p = Y
              obtain ⟨y2, p2, f2⟩ := Y
              have HC := part_A y p (some ⟨b, off, none⟩) n c zs ws (hrw.below Bws) hn y2 p2 f2 hy
              obtain ⟨c0, c1, c2, c3, c4⟩ := r5_cells LEs
              have HY : Hid _ := hide hy
              have HR : Hid _ := hide hR
              have hBB : Hid _ := hide hb0
              clear hy hR hb0 hrw
              go_wp2_with (refine wpList_store_row rfl 97 (.tmp 15) (.tmp 63) rfl wr.heap.size #[.int .u8 b2, .func (.func 73) #[] #[]] rfl rfl 97 #[.int .u8 0, .nilFunc] (heap_new wr _) Tryd.sizeP rfl hone ?_; rw [← Hws.out])
              refine HC.mono ?_
              rintro e w5 ⟨rfl, hb5⟩
              have B5 : Below W.heap.size W w5 := BWs.trans (hb5.mono BWs.size)
              have LE5 : w5.heap[w.heap.size + 2]? = some (.cells #[.int .i64 y.stamp, .int .i64 y.kind, .int .u64 y.obj, .int .u64 y.arg, .int .i64 y.stack] 48 (0, 0)) := (hb5.block (w.heap.size + 2) (lt_of_heap LEs)).trans LEs
              have L65 : w5.heap[w.heap.size + 1]? = some (.cells #[.int .i64 0, .int .i64 0, .int .u64 0, .int .u64 0, .int .i64 0] 48 (0, 0)) := (B5.block (w.heap.size + 1) (by omega)).trans L6
              obtain ⟨d0, d1, d2, d3, d4⟩ := r5_cells LE5
              have hlt5 := lt_of_heap LE5
              have hne5 : ¬ w.heap.size + 2 = w5.heap.size := by omega
              clear HC c0 c1 c2 c3 c4 hb5
              by_cases hf2 : f2 = 0
              · subst hf2
                have hqe : ∀ W', (binOp .eql 48 (.agg #[.int .i64 y2.stamp, .int .i64 y2.kind, .int .u64 y2.obj, .int .u64 y2.arg, .int .i64 y2.stack]) (.agg #[.int .i64 y.stamp, .int .i64 y.kind, .int .u64 y.obj, .int .u64 y.arg, .int .i64 y.stack])).run Tryd.prog W' = .ok (.bool (decide (y2 = y))) W' := fun W' => by rw [eql_rc, rc_eq]
                by_cases hyy : y2 = y
                · have HR2 : Hid (R = bad 71) := hide (by rw [HR.out, told_same hBB.out y2 p2 HY.out hyy]; rw [told_err (b := b3) (x := bad _) (by first | exact hf2 | (show (71 : Int) ≠ 0; decide))])
                  rw [decide_eq_true hyy] at hqe
                  have hyy' := hide hyy
                  clear hyy
                  go_wp2_with (refine wpList_store_row rfl 48 (.tmp 6) (.tmp 84) rfl (w.heap.size + 1) #[.int .i64 0, .int .i64 0, .int .u64 0, .int .u64 0, .int .i64 0] rfl rfl 48 #[.int .i64 0, .int .i64 0, .int .u64 0, .int .u64 0, .int .i64 0] (heap_old L65) Tryd.sizeR rfl (rc_one _ _ _ _ _) ?_)
                  refine bodyPost_ret (v := zeroV 71) (by exact results_ctt Tryd.results55 _ _ (w.heap.size + 1) 48 #[.int .i64 0, .int .i64 0, .int .u64 0, .int .u64 0, .int .i64 0] (0, 0) _ rfl (setRow_heap _ _ _ _ _ _ (heap_old L65)) Tryd.underlying48 rfl Tryd.sizeR) rfl ?_
                  exact ⟨by rw [HR2.out]; rfl, below_setRow ((hb.trans (B5.mono hb.size)).alloc (by have := B5.size; omega) _) (by omega) _⟩
                · have HR2 : Hid (R = told b3 (pK zs) (y2, p2, 0)) := hide (by rw [HR.out, told_on hBB.out y2 p2 HY.out hyy])
                  rw [decide_eq_false hyy] at hqe
                  have HQ2 : Hid (y2.stack = K) := hide (by rw [← (show (pA zs y p).1.stack = y2.stack by rw [HY.out])]; exact HQ.out)
                  clear hyy
                  go_wp2_with (refine wpList_store_row rfl 48 (.tmp 13) (.tmp 85) rfl (w.heap.size + 2) #[.int .i64 y2.stamp, .int .i64 y2.kind, .int .u64 y2.obj, .int .u64 y2.arg, .int .i64 y2.stack] rfl rfl 48 #[.int .i64 y.stamp, .int .i64 y.kind, .int .u64 y.obj, .int .u64 y.arg, .int .i64 y.stack] (heap_old LE5) Tryd.sizeR rfl (rc_one _ _ _ _ _) ?_)
                  exact ⟨⟨2, y2, p2, rfl, rfl, setRow_heap _ _ _ _ _ _ (heap_old LE5), below_setRow (B5.alloc B5.size _) (by omega) _, .inr (.inr (.inl ⟨rfl, HR2.out, HQ2.out⟩))⟩, by simp [intOf]⟩
              · have HR2 : Hid (R = bad f2) := hide (by rw [HR.out, told_bad hBB.out y2 p2 HY.out hf2]; rw [told_err (b := b3) (x := bad _) (by first | exact hf2 | (show (71 : Int) ≠ 0; decide))])
                have hfb : (f2 != 0) = true := by simp [hf2]
                clear hf2
                go_wp2_with (refine wpList_store_row rfl 48 (.tmp 6) (.tmp 79) rfl (w.heap.size + 1) #[.int .i64 0, .int .i64 0, .int .u64 0, .int .u64 0, .int .i64 0] rfl rfl 48 #[.int .i64 0, .int .i64 0, .int .u64 0, .int .u64 0, .int .i64 0] (heap_old L65) Tryd.sizeR rfl (rc_one _ _ _ _ _) ?_)
                refine bodyPost_ret (v := zeroV f2) (by exact results_ctt Tryd.results55 _ _ (w.heap.size + 1) 48 #[.int .i64 0, .int .i64 0, .int .u64 0, .int .u64 0, .int .i64 0] (0, 0) _ rfl (setRow_heap _ _ _ _ _ _ (heap_old L65)) Tryd.underlying48 rfl Tryd.sizeR) rfl ?_
                exact ⟨by rw [HR2.out]; rfl, below_setRow ((hb.trans (B5.mono hb.size)).alloc (by have := B5.size; omega) _) (by omega) _⟩
          · have HQ : Hid _ := hide hq
            have hq0 : 0 ≤ y.stack := by omega
            have hq1 : y.stack ≤ 262144 := by omega
            clear hq
            have hix := fun W => idx2 W (.int .u8 b1) (.func (.func 72) #[] #[]) (.int .u8 b2) (.func (.func 73) #[] #[]) (.int .u8 b3) (.func (.func 74) #[] #[])
            obtain ⟨ws, hws⟩ : ∃ ws, ws = (wr.alloc (.cells #[.int .u8 0, .nilFunc] 97)).setRow wr.heap.size #[.int .u8 b3, .func (.func 74) #[] #[]] := ⟨_, rfl⟩
            have Bws : Below wr.heap.size wr ws := by rw [hws]; exact below_setRow (below_alloc1 _ _) (Nat.le_refl _) _
            have Lws : ws.heap[wr.heap.size]? = some (.cells #[.int .u8 b3, .func (.func 74) #[] #[]] 97 (0, 0)) := by rw [hws]; exact setRow_heap _ _ _ _ _ _ (heap_new wr _)
            have LEs := (Bws.block (w.heap.size + 2) (lt_of_heap LE')).trans LE'
            have BWs := BW.trans (Bws.mono BW.size)
            have Hws : Hid _ := hide hws
            have k0 : ws.cell? ⟨wr.heap.size, 0, none⟩ = some (.int .u8 b3) := by rw [cell_of_row ws wr.heap.size 0 _ 97 (0, 0) Lws]; rfl
            have k1 : ws.cell? ⟨wr.heap.size, 1, none⟩ = some (.func (.func 74) #[] #[]) := by rw [cell_of_row ws wr.heap.size 1 _ 97 (0, 0) Lws]; rfl
            have hone : (#[.int .u8 b3, .func (.func 74) #[] #[]] : Array Value).all (·.oneCell') = true := by simp [Value.oneCell']
            clear hws
            by_cases hb0 : b3 = 0
            · have HR : Hid (R = (y, p, 0)) := hide (by rw [hR, hb0, told_no])
              have hbb : (b3 == 0) = true := by simp [hb0]
              clear hR hrw hb0
              go_wp2_with (refine wpList_store_row rfl 97 (.tmp 15) (.tmp 63) rfl wr.heap.size #[.int .u8 b3, .func (.func 74) #[] #[]] rfl rfl 97 #[.int .u8 0, .nilFunc] (heap_new wr _) Tryd.sizeP rfl hone ?_; rw [← Hws.out])
              exact ⟨⟨3, y, p, rfl, rfl, LEs, BWs, .inr (.inr (.inr ⟨rfl, HR.out⟩))⟩, by simp [intOf]⟩
            · have hbb : (b3 == 0) = false := by simp [hb0]
              generalize hy : pK zs y p = Y
              obtain ⟨y2, p2, f2⟩ := Y
              have HC := part_K y p (some ⟨b, off, none⟩) n c zs ws (hrw.below Bws) hn hq0 hq1 y2 p2 f2 hy
              obtain ⟨c0, c1, c2, c3, c4⟩ := r5_cells LEs
              have HY : Hid _ := hide hy
              have HR : Hid _ := hide hR
              have hBB : Hid _ := hide hb0
              clear hy hR hb0 hrw
              go_wp2_with (refine wpList_store_row rfl 97 (.tmp 15) (.tmp 63) rfl wr.heap.size #[.int .u8 b3, .func (.func 74) #[] #[]] rfl rfl 97 #[.int .u8 0, .nilFunc] (heap_new wr _) Tryd.sizeP rfl hone ?_; rw [← Hws.out])
              refine HC.mono ?_
              rintro e w5 ⟨rfl, hb5⟩
              have B5 : Below W.heap.size W w5 := BWs.trans (hb5.mono BWs.size)
              have LE5 : w5.heap[w.heap.size + 2]? = some (.cells #[.int .i64 y.stamp, .int .i64 y.kind, .int .u64 y.obj, .int .u64 y.arg, .int .i64 y.stack] 48 (0, 0)) := (hb5.block (w.heap.size + 2) (lt_of_heap LEs)).trans LEs
              have L65 : w5.heap[w.heap.size + 1]? = some (.cells #[.int .i64 0, .int .i64 0, .int .u64 0, .int .u64 0, .int .i64 0] 48 (0, 0)) := (B5.block (w.heap.size + 1) (by omega)).trans L6
              obtain ⟨d0, d1, d2, d3, d4⟩ := r5_cells LE5
              have hlt5 := lt_of_heap LE5
              have hne5 : ¬ w.heap.size + 2 = w5.heap.size := by omega
              clear HC c0 c1 c2 c3 c4 hb5
              by_cases hf2 : f2 = 0
              · subst hf2
                have hqe : ∀ W', (binOp .eql 48 (.agg #[.int .i64 y2.stamp, .int .i64 y2.kind, .int .u64 y2.obj, .int .u64 y2.arg, .int .i64 y2.stack]) (.agg #[.int .i64 y.stamp, .int .i64 y.kind, .int .u64 y.obj, .int .u64 y.arg, .int .i64 y.stack])).run Tryd.prog W' = .ok (.bool (decide (y2 = y))) W' := fun W' => by rw [eql_rc, rc_eq]
                by_cases hyy : y2 = y
                · have HR2 : Hid (R = bad 71) := hide (by rw [HR.out, told_same hBB.out y2 p2 HY.out hyy])
                  rw [decide_eq_true hyy] at hqe
                  have hyy' := hide hyy
                  clear hyy
                  go_wp2_with (refine wpList_store_row rfl 48 (.tmp 6) (.tmp 84) rfl (w.heap.size + 1) #[.int .i64 0, .int .i64 0, .int .u64 0, .int .u64 0, .int .i64 0] rfl rfl 48 #[.int .i64 0, .int .i64 0, .int .u64 0, .int .u64 0, .int .i64 0] (heap_old L65) Tryd.sizeR rfl (rc_one _ _ _ _ _) ?_)
                  refine bodyPost_ret (v := zeroV 71) (by exact results_ctt Tryd.results55 _ _ (w.heap.size + 1) 48 #[.int .i64 0, .int .i64 0, .int .u64 0, .int .u64 0, .int .i64 0] (0, 0) _ rfl (setRow_heap _ _ _ _ _ _ (heap_old L65)) Tryd.underlying48 rfl Tryd.sizeR) rfl ?_
                  exact ⟨by rw [HR2.out]; rfl, below_setRow ((hb.trans (B5.mono hb.size)).alloc (by have := B5.size; omega) _) (by omega) _⟩
                · have HR2 : Hid (R = (y2, p2, 0)) := hide (by rw [HR.out, told_on hBB.out y2 p2 HY.out hyy])
                  rw [decide_eq_false hyy] at hqe
                  clear hyy
                  go_wp2_with (refine wpList_store_row rfl 48 (.tmp 13) (.tmp 85) rfl (w.heap.size + 2) #[.int .i64 y2.stamp, .int .i64 y2.kind, .int .u64 y2.obj, .int .u64 y2.arg, .int .i64 y2.stack] rfl rfl 48 #[.int .i64 y.stamp, .int .i64 y.kind, .int .u64 y.obj, .int .u64 y.arg, .int .i64 y.stack] (heap_old LE5) Tryd.sizeR rfl (rc_one _ _ _ _ _) ?_)
                  exact ⟨⟨3, y2, p2, rfl, rfl, setRow_heap _ _ _ _ _ _ (heap_old LE5), below_setRow (B5.alloc B5.size _) (by omega) _, .inr (.inr (.inr ⟨rfl, HR2.out⟩))⟩, by simp [intOf]⟩
              · have HR2 : Hid (R = bad f2) := hide (by rw [HR.out, told_bad hBB.out y2 p2 HY.out hf2])
                have hfb : (f2 != 0) = true := by simp [hf2]
                clear hf2
                go_wp2_with (refine wpList_store_row rfl 48 (.tmp 6) (.tmp 79) rfl (w.heap.size + 1) #[.int .i64 0, .int .i64 0, .int .u64 0, .int .u64 0, .int .i64 0] rfl rfl 48 #[.int .i64 0, .int .i64 0, .int .u64 0, .int .u64 0, .int .i64 0] (heap_old L65) Tryd.sizeR rfl (rc_one _ _ _ _ _) ?_)
                refine bodyPost_ret (v := zeroV f2) (by exact results_ctt Tryd.results55 _ _ (w.heap.size + 1) 48 #[.int .i64 0, .int .i64 0, .int .u64 0, .int .u64 0, .int .i64 0] (0, 0) _ rfl (setRow_heap _ _ _ _ _ _ (heap_old L65)) Tryd.underlying48 rfl Tryd.sizeR) rfl ?_
                exact ⟨by rw [HR2.out]; rfl, below_setRow ((hb.trans (B5.mono hb.size)).alloc (by have := B5.size; omega) _) (by omega) _⟩
          · have HR : Hid _ := hide hR
            clear hR hrw
            go_wp2_with (first
              | (refine wpList_load_row rfl 48 (.tmp 13) rfl (w.heap.size + 2) rfl 48 _ (0, 0) _ LE' Tryd.underlying48 rfl Tryd.sizeR ?_)
              | (refine wpList_store_row rfl 48 (.tmp 6) (.tmp 88) rfl (w.heap.size + 1) #[.int .i64 y.stamp, .int .i64 y.kind, .int .u64 y.obj, .int .u64 y.arg, .int .i64 y.stack] rfl rfl 48 #[.int .i64 0, .int .i64 0, .int .u64 0, .int .u64 0, .int .i64 0] L6' Tryd.sizeR rfl (rc_one _ _ _ _ _) ?_))
            refine bodyPost_ret (v := ansV (y, p, 0)) (by exact results_ctt Tryd.results55 _ _ (w.heap.size + 1) 48 #[.int .i64 y.stamp, .int .i64 y.kind, .int .u64 y.obj, .int .u64 y.arg, .int .i64 y.stack] (0, 0) _ rfl (setRow_heap _ _ _ _ _ _ L6') Tryd.underlying48 rfl Tryd.sizeR) rfl ?_
            exact ⟨by rw [HR.out], below_setRow (hb.trans (BW.mono hb.size)) (by omega) _⟩
    · have HR : Hid (readG ⟨S, O, K⟩ zs t = bad f0) := hide (by rw [readG_num htl (by rw [← hz]; exact hk) (by rw [hrd]; exact hf0), hrd])
      rw [HR.out, zeroV_bad]
      simp only [if_pos hf0] at hrs
      have hfb : (f0 != 0) = true := by simp [hf0]
      clear hrd hb32 hf0
      go_enter Tryd.func55, Tryd.ntmps55
      go_wp2_with fail
      rw [← hW]
      clear hW
      refine HF.mono ?_
      rintro e w1 ⟨rfl, m, rfl⟩
      have y0 : (W.drewN m).cell? ⟨w.heap.size, 0, none⟩ = some (.int .i64 S) := s0
      have LL : (W.drewN m).heap[w.heap.size + 1]? = _ := L6
      go_wp2_with fail
      refine (hrs m).mono ?_
      rintro e w2 ⟨rfl, rfl⟩
      go_wp2_with (refine wpList_store_row rfl 48 (.tmp 6) (.tmp 42) rfl (w.heap.size + 1) #[.int .i64 0, .int .i64 0, .int .u64 0, .int .u64 0, .int .i64 0] rfl rfl 48 #[.int .i64 0, .int .i64 0, .int .u64 0, .int .u64 0, .int .i64 0] LL Tryd.sizeR rfl (rc_one _ _ _ _ _) ?_)
      refine bodyPost_ret (v := zeroV f0) (by exact results_ctt Tryd.results55 _ _ (w.heap.size + 1) 48 #[.int .i64 0, .int .i64 0, .int .u64 0, .int .u64 0, .int .i64 0] (0, 0) _ rfl (setRow_heap _ _ _ _ _ _ LL) Tryd.underlying48 rfl Tryd.sizeR) rfl ?_
      exact ⟨rfl, below_setRow (below_drewN hb m) (by omega) _⟩
  · have HF := rf_bad b off n c t z W hKW ht hz01.1 hz01.2 hcW hk
    have HR : Hid (readG ⟨S, O, K⟩ zs t = bad 60) := hide (readG_kind htl (by rw [← hz]; exact hk))
    rw [HR.out, zeroV_bad]
    clear hk
    go_enter Tryd.func55, Tryd.ntmps55
    go_wp2_with fail
    rw [← hW]
    clear hW
    refine HF.mono ?_
    rintro e w1 ⟨rfl, m, rfl⟩
    have LL : (W.drewN m).heap[w.heap.size + 1]? = _ := L6
    go_wp2_with (refine wpList_store_row rfl 48 (.tmp 6) (.tmp 29) rfl (w.heap.size + 1) #[.int .i64 0, .int .i64 0, .int .u64 0, .int .u64 0, .int .i64 0] rfl rfl 48 #[.int .i64 0, .int .i64 0, .int .u64 0, .int .u64 0, .int .i64 0] LL Tryd.sizeR rfl (rc_one _ _ _ _ _) ?_)
    refine bodyPost_ret (v := zeroV 60) (by exact results_ctt Tryd.results55 _ _ (w.heap.size + 1) 48 #[.int .i64 0, .int .i64 0, .int .u64 0, .int .u64 0, .int .i64 0] (0, 0) _ rfl (setRow_heap _ _ _ _ _ _ LL) Tryd.underlying48 rfl Tryd.sizeR) rfl ?_
    exact ⟨rfl, below_setRow (below_drewN hb m) (by omega) _⟩
end Go.Proofs.YtdppbaipmmcjbaaDoor
