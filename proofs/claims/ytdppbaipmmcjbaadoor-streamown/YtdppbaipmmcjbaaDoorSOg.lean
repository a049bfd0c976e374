/-
  StreamOwn: chunks.
-/
import Derived.Test.YtdppbaipmmcjbaaDoorZoa
namespace Go.Proofs.YtdppbaipmmcjbaaDoor
open Go.RowKit
def r11 : Rc := ⟨-11, 0, 0, 0, 0⟩
def r12 : Rc := ⟨-12, 0, 0, 0, 0⟩
theorem own_nil5 {w : World} {base n c : Nat} {a : Option Addr} {xs : List Value} {e : TypeId} (h : w.ownsRow base e 5 (.slice a n c) n xs) : a = none → n = 0 ∧ c = 0 := by
  intro h0
  rcases h.2 with ⟨e1, _⟩ | ⟨g, cap, cur, e1, _⟩
  · cases e1; exact ⟨rfl, rfl⟩
  · rw [h0] at e1; cases e1
theorem own_some5 {w : World} {base n c : Nat} {a : Option Addr} {xs : List Value} {e : TypeId} (h : w.ownsRow base e 5 (.slice a n c) n xs) (hn : 0 < n) : ∃ g, a = some ⟨g, 0, none⟩ := by
  rcases h.2 with ⟨_, e1⟩ | ⟨g, cap, cur, e1, _⟩
  · omega
  · cases e1; exact ⟨g, rfl⟩
set_option maxRecDepth 20000 in
set_option maxHeartbeats 6400000 in
theorem chunks_any (a : Option Addr) (n c : Nat) (bs : List (List Int)) (w : World) (hK : Kn w) (hw : 0 < w.heap.size) (hr : LRow w a n bs) (hn : (n : Int) ≤ 9000000000000) (hz : ∀ b ∈ bs, (b.length : Int) ≤ 1048576) :
    Calls Tryd.prog 28 #[.slice a n c] w fun e w' => e = .returned (.bool true) ∧ Below w.heap.size w w' := by
  have HR : Hid _ := hide hr
  have HZ : Hid _ := hide hz
  have hl := hr.len
  clear hr hz
  go_enter Tryd.func28, Tryd.ntmps28
  go_wp2_with fail
  go_loopw [3] (fun s3 wr => ∃ i : Nat, s3 = .int .i64 i ∧ i ≤ n ∧ Below w.heap.size w wr) (fun s3 _ => n - (intOf s3).toNat)
  case atStart => exact ⟨0, rfl, Nat.zero_le _, Below.refl _ _⟩
  case round =>
    obtain ⟨i, rfl, hi, hbel⟩ := hrel
    rename World => W0
    have HB : Hid _ := hide hbel
    have hs0 := hbel.size
    by_cases hlt : i < n
    · have hltI : (i : Int) < (n : Int) := by omega
      have hgi : bs[i]? = some (bs.getD i []) := by rw [List.getD_eq_getElem?_getD]; simp [show i < bs.length by omega]
      have hzl : ((bs.getD i []).length : Int) ≤ 1048576 := HZ.out _ (List.mem_of_getElem? hgi)
      generalize bs.getD i [] = z at hgi hzl
      have hR0 := HR.out.below hbel
      rcases hR0.cells with h0 | ⟨b, off, rfl, hcs⟩
      · omega
      obtain ⟨ai, ci, hck, hrow, _, _, _⟩ := hcs i z hgi
      have HCC : Hid (∀ X, Below W0.heap.size W0 X → X.cell? ⟨b, off + i, none⟩ = some (.slice ai z.length ci) ∧ Calls Tryd.prog 19 #[.slice ai z.length ci] X fun e w' => Below X.heap.size X w' ∧ ∃ av cv, e = .returned (.tuple #[.slice av (chunkV z).1.length cv, .int .i64 (chunkV z).2]) ∧ w'.ownsRow X.heap.size 48 5 (.slice av (chunkV z).1.length cv) (chunkV z).1.length (flat (chunkV z).1)) := hide (fun X hX => ⟨by
        have h1 := (hR0.below hX).cells
        rcases h1 with h0 | ⟨b', off', e, hcs'⟩
        · omega
        · cases e
          have hb9 : b < W0.heap.size := World.block_lt_of_cell? W0 _ hck
          exact (hX.cell (p := ⟨b, off + i, none⟩) hb9).trans hck, chunk_o ai z.length ci z X (hK.below (hbel.trans (hX.mono hs0)) hw) (by have := hX.size; omega) (hrow.below hX) (by omega)⟩)
      have hLl := chunk_len (zs := z) hrow.u8
      clear hcs hR0 hgi hbel hrow hck
      obtain ⟨L, hL⟩ : ∃ L, L = (chunkV z).1 := ⟨_, rfl⟩
      obtain ⟨m, hm⟩ : ∃ m, m = L.length := ⟨_, rfl⟩
      rw [← hL, ← hm] at hLl
      rw [← hL, ← hm] at HCC
      generalize (chunkV z).2 = E at HCC
      have HLm : Hid (L.length = m) := hide hm.symm
      clear hL hm
      obtain ⟨c1, C1⟩ := HCC.out W0 (Below.refl _ _)
      go_wp2_with fail
      refine C1.mono ?_
      rintro e w1 ⟨hb1, ax, cx, rfl, ox⟩
      have B1 : Hid _ := hide hb1
      have OX1 : Hid _ := hide ox
      have hs1 := hb1.size
      clear C1 c1 hb1 ox
      obtain ⟨c1, C1⟩ := HCC.out w1 B1.out
      go_wp2_with fail
      refine C1.mono ?_
      rintro e w2 ⟨hb2, ay, cy, rfl, oy⟩
      have OX2 : Hid _ := hide (own_below OX1.out hb2)
      have B2 : Hid (Below W0.heap.size W0 w2) := hide (B1.out.trans (hb2.mono hs1))
      have OY2 : Hid _ := hide oy
      have hs2 := hb2.size
      have HX1 : Hid (∀ k, (Value.slice ax m cx).ownBlock = some k → k < w1.heap.size) := hide (fun k hk => (OX1.out.lt k hk).2)
      clear C1 c1 hb2 oy OX1 B1
      go_upto_region 8 with (at_builtin; refine recs_in _ rfl _ _ rfl w2.heap.size (.slice none 0 0) 0 [] rfl (World.ownsRow_nil _ _ _ _) ax m cx L rfl (RRow.of_own OX2.out) (own_nil5 OX2.out) (by omega) (Nat.le_refl _) ?_; intro v3 w3 o3 g3)
      simp only [Nat.zero_add, List.nil_append] at o3
      obtain ⟨aw, cw, rfl⟩ := own_formL o3
      have hb3 : Below w2.heap.size w2 w3 := ⟨g3.os, g3.tape, g3.output, g3.size, fun k hk => g3.block k hk (by simp [Value.ownBlock])⟩
      have OX3 : Hid _ := hide (own_below OX2.out hb3)
      have OY3 : Hid _ := hide (own_below OY2.out hb3)
      have OW3 : Hid _ := hide o3
      have B3 : Hid (Below W0.heap.size W0 w3) := hide (B2.out.trans (hb3.mono B2.out.size))
      have hs3 := hb3.size
      have HY2 : Hid (∀ k, (Value.slice ay m cy).ownBlock = some k → w1.heap.size ≤ k ∧ k < w2.heap.size) := hide (fun k hk => OY2.out.lt k hk)
      clear o3 g3 hb3 OX2 OY2 B2
      have SM := rsame_eq ay aw m cy cw L w3 (RRow.of_own OY3.out) (RRow.of_own OW3.out) (by omega)
      go_wp2_with fail
      refine SM.mono ?_
      rintro e w4 ⟨rfl, p4, hw4⟩
      have hb4 : Below w3.heap.size w3 w4 := by rw [hw4]; exact below_drewN (Below.refl _ _) p4
      have HX : Hid (w4.ownsRow W0.heap.size 48 5 (.slice ax m cx) m (flat L)) := hide (own_below OX3.out hb4)
      have HY : Hid (w4.ownsRow W0.heap.size 48 5 (.slice ay m cy) m (flat L)) := hide (own_mono (own_below OY3.out hb4) hs1)
      have HW : Hid (w4.ownsRow W0.heap.size 48 5 (.slice aw m cw) m (flat L)) := hide (own_mono (own_below OW3.out hb4) (by omega))
      have HWB : Hid (∀ k, (Value.slice aw m cw).ownBlock = some k → w2.heap.size ≤ k ∧ k < w3.heap.size) := hide (fun k hk => OW3.out.lt k hk)
      have B4 : Hid (Below W0.heap.size W0 w4) := hide (B3.out.trans (hb4.mono B3.out.size))
      have hs4 := hb4.size
      clear SM hw4 hb4 OX3 OY3 OW3 B3
      go_upto_region 12 with (first
        | (at_builtin; refine append_keepR _ rfl _ _ rfl W0.heap.size (.slice ay m cy) m L rfl (HY5.out.alloc _) w5.heap.size r12 rfl (heap_new _ _) (by omega) (by simp; omega) ?_
           intro hb hc w6 n6 k6 gr6 l6)
        | (at_builtin; refine append_keepR _ rfl _ _ rfl W0.heap.size (.slice ax m cx) m L rfl (HX.out.alloc _) w4.heap.size r11 rfl (heap_new _ _) (by omega) (by simp; omega) ?_
           intro gb gc w5 n5 k5 gr5 l5
           have O5 : Hid (One W0.heap.size w4.heap.size w5 (.slice ax m cx) m L r11 gb gc 1) := hide (One.start (W := w4) (Nat.le_refl _) n5 k5 (l5.imp id (fun e => by simp at e; omega)))
           have b5 : But (fun k => (Value.slice ax m cx).ownBlock = some k) w4 w5 := ((But.refl _ w4).alloc _).grown gr5 (fun k _ e => e)
           have HY5 : Hid (w5.ownsRow W0.heap.size 48 5 (.slice ay m cy) m (flat L)) := hide (own_but HY.out b5 (fun k hk e => by have := HX1.out k e; have := HY2.out k hk; omega))
           have HW5 : Hid (w5.ownsRow W0.heap.size 48 5 (.slice aw m cw) m (flat L)) := hide (own_but HW.out b5 (fun k hk e => by have := HX1.out k e; have := HWB.out k hk; omega))
           have B5 : Hid (Below W0.heap.size W0 w5) := hide (B4.out.trans (b5.below B4.out.size (fun k hk => (HX.out.lt k hk).1)))
           have hs5 := b5.size
           clear n5 k5 gr5 l5 b5)
        | go_in)
      have O6 : Hid (One W0.heap.size w4.heap.size w6 (.slice ay m cy) m L r12 hb hc 1) := hide (One.start (W := w5) hs5 n6 k6 (l6.imp id (fun e => by simp at e; omega)))
      have b6 : But (fun k => (Value.slice ay m cy).ownBlock = some k) w5 w6 := ((But.refl _ w5).alloc _).grown gr6 (fun k _ e => e)
      have hgb5 : Hid (gb < w5.heap.size) := hide (O5.out.g.lt gb rfl).2
      have hny : Hid ((Value.slice ay m cy).ownBlock ≠ some gb) := hide (fun e => by
        have := HY2.out gb e
        rcases O5.out.l with e1 | e1
        · have := HX1.out gb e1; omega
        · omega)
      have X6 : Hid (One W0.heap.size w4.heap.size w6 (.slice ax m cx) m L r11 gb gc 1) := hide (O5.out.but b6 (fun k hk e => by have := HX1.out k hk; have := HY2.out k e; omega) hny.out)
      have W6 : Hid (w6.ownsRow W0.heap.size 48 5 (.slice aw m cw) m (flat L)) := hide (own_but HW5.out b6 (fun k hk e => by have := HY2.out k e; have := HWB.out k hk; omega))
      have G6 : Hid (gb ≠ hb) := hide (fun e => by
        rcases l6 with e1 | e1
        · exact hny.out (by rw [e]; exact e1)
        · have := hgb5.out; simp at e1; omega)
      have B6 : Hid (Below W0.heap.size W0 w6) := hide (B5.out.trans (b6.below B5.out.size (fun k hk => (HY5.out.lt k hk).1)))
      have hs6 : w4.heap.size ≤ w6.heap.size := Nat.le_trans hs5 b6.size
      clear n6 k6 gr6 l6 b6 O5 HY5 HW5 B5 HX HY HW hgb5
      go_wp2_with fail
      go_loopw [9, 10, 11] (fun s9 s10 s11 wr => ∃ q gb gc hb hc : Nat, 1 ≤ q ∧ q ≤ 70 ∧ s11 = .int .i64 q ∧ s9 = .slice (some ⟨gb, 0, none⟩) (m + q) gc ∧ s10 = .slice (some ⟨hb, 0, none⟩) (m + q) hc ∧ One W0.heap.size w4.heap.size wr (.slice ax m cx) m L r11 gb gc q ∧ One W0.heap.size w4.heap.size wr (.slice ay m cy) m L r12 hb hc q ∧ gb ≠ hb ∧ wr.ownsRow W0.heap.size 48 5 (.slice aw m cw) m (flat L) ∧ Below W0.heap.size W0 wr ∧ w4.heap.size ≤ wr.heap.size)
        (fun _ _ s11 _ => 70 - (intOf s11).toNat)
      case atStart => exact ⟨1, gb, gc, hb, hc, Nat.le_refl _, by decide, rfl, rfl, rfl, X6.out, O6.out, G6.out, W6.out, B6.out, hs6⟩
      case round =>
        clear X6 O6 G6 W6 B6 hny hs6
        obtain ⟨q, gb, gc, hb, hc, hq1, hq2, rfl, rfl, rfl, ox, oy, hne, ow, hbl, hsz⟩ := hrel
        have HX : Hid _ := hide ox
        have HY : Hid _ := hide oy
        have HW : Hid _ := hide ow
        have HNE : Hid _ := hide hne
        have HBL : Hid _ := hide hbl
        have hsl := hbl.size
        clear ox oy ow hne hbl
        by_cases hlq : q < 70
        · have hlqI : (q : Int) < 70 := by omega
          go_wp2_with (first
            | (at_builtin; refine append_keepR _ rfl _ _ rfl W0.heap.size (.slice (some ⟨hb, 0, none⟩) (m + q) hc) (m + q) (L ++ List.replicate q r12) rfl (Y8.out.g.alloc _) w8.heap.size r12 rfl (heap_new _ _) (by omega) (by simp; omega) ?_
               intro hb' hc' w9 n9 k9 gr9 l9)
            | (at_builtin; refine append_keepR _ rfl _ _ rfl W0.heap.size (.slice (some ⟨gb, 0, none⟩) (m + q) gc) (m + q) (L ++ List.replicate q r11) rfl (HX.out.g.alloc _) wr.heap.size r11 rfl (heap_new _ _) (by omega) (by simp; omega) ?_
               intro gb' gc' w8 n8 k8 gr8 l8
               obtain ⟨x8, b8, e8⟩ := HX.out.step hsz n8 k8 gr8 l8
               have X8 : Hid _ := hide x8
               have E8 : Hid _ := hide e8
               have ny : ∀ k, (Value.slice ay m cy).ownBlock = some k → ¬ k = gb := fun k hk e => by
                 subst e
                 have := HY2.out k hk
                 rcases HX.out.l with e1 | e1
                 · have := HX1.out k e1; omega
                 · omega
               have Y8 : Hid (One W0.heap.size w4.heap.size w8 (.slice ay m cy) m L r12 hb hc q) := hide (HY.out.but b8 ny (fun e => HNE.out (e : hb = gb).symm))
               have W8 : Hid (w8.ownsRow W0.heap.size 48 5 (.slice aw m cw) m (flat L)) := hide (own_but HW.out b8 (fun k hk e => by
                 have e : k = gb := e
                 subst e
                 have := HWB.out k hk
                 rcases HX.out.l with e1 | e1
                 · have := HX1.out k e1; omega
                 · omega))
               have B8 : Hid (Below W0.heap.size W0 w8) := hide (HBL.out.trans (b8.below hsl (fun k hk => by have := (HX.out.g.lt gb rfl).1; rw [(hk : k = gb)]; exact this)))
               have hs8 := b8.size
               have HH8 : Hid (hb < wr.heap.size) := hide (HY.out.g.lt hb rfl).2
               have N8 : Hid (gb' ≠ hb) := hide (fun e => by
                 rcases e8 with e1 | e1
                 · exact HNE.out (e1.symm.trans e)
                 · have := HH8.out; omega)
               clear n8 k8 gr8 l8 x8 b8 e8 ny)
            | go_in)
          obtain ⟨y9, b9, e9⟩ := Y8.out.step (by omega) n9 k9 gr9 l9
          have nx : ∀ k, (Value.slice ax m cx).ownBlock = some k → ¬ k = hb := fun k hk e => by
            subst e
            have := HX1.out k hk
            rcases HY.out.l with e1 | e1
            · have := HY2.out k e1; omega
            · omega
          have X9 := X8.out.but b9 nx N8.out
          have W9 := own_but W8.out b9 (fun k hk e => by
            have e : k = hb := e
            subst e
            have := HWB.out k hk
            rcases HY.out.l with e1 | e1
            · have := HY2.out k e1; omega
            · omega)
          have N9 : gb' ≠ hb' := fun e => by
            rcases e9 with e1 | e1
            · exact N8.out (e.trans e1)
            · have := (X8.out.g.lt gb' rfl).2; omega
          have B9 : Below W0.heap.size W0 w9 := B8.out.trans (b9.below B8.out.size (fun k hk => by have := (Y8.out.g.lt hb rfl).1; rw [(hk : k = hb)]; exact this))
          exact ⟨⟨q + 1, gb', gc', hb', hc', by omega, by omega, by go_num, rfl, rfl, X9, y9, N9, W9, B9, by have := b9.size; omega⟩, by simp [intOf]; omega⟩
        · have hqe : q = 70 := by omega
          subst hqe
          obtain ⟨Wq, hWq⟩ : ∃ Wq, Wq = wr := ⟨_, rfl⟩
          have HXq : Hid (One W0.heap.size w4.heap.size Wq (.slice ax m cx) m L r11 gb gc 70) := hide (by rw [hWq]; exact HX.out)
          have HYq : Hid (One W0.heap.size w4.heap.size Wq (.slice ay m cy) m L r12 hb hc 70) := hide (by rw [hWq]; exact HY.out)
          have HWq : Hid (Wq.ownsRow W0.heap.size 48 5 (.slice aw m cw) m (flat L)) := hide (by rw [hWq]; exact HW.out)
          have HBq : Hid (Below W0.heap.size W0 Wq) := hide (by rw [hWq]; exact HBL.out)
          have HEq : Hid (Wq = wr) := hide hWq
          have hcap : (m : Int) + 70 ≤ 9000000000000 := by omega
          clear HX HY HW HBL hWq hsl
          go_wp2_with fail
          go_loopw [12] (fun s12 wr => ∃ (k : Nat) (ys : List Value), s12 = .int .i64 k ∧ k ≤ m ∧ wr.ownsRow W0.heap.size 48 5 (.slice ay m cy) m ys ∧ But (fun k => (Value.slice ay m cy).ownBlock = some k) Wq wr ∧ ∀ q, q < 70 → wr.cell? ⟨hb, (m + q) * 5, none⟩ = some (.int .i64 (-12))) (fun s12 _ => m - (intOf s12).toNat)
          case atStart => exact ⟨0, flat L, rfl, Nat.zero_le _, by rw [← HEq.out]; exact HYq.out.x, by rw [← HEq.out]; exact But.refl _ _, fun q hq => by rw [← HEq.out]; exact HYq.out.mark HLm.out hq⟩
          case round =>
            obtain ⟨k, ys, rfl, hk, oy, hbt, htl⟩ := hrel
            rename World => Wt
            by_cases hlk : k < m
            · obtain ⟨yb, rfl⟩ := own_some5 oy (by omega)
              obtain ⟨v0, h0⟩ := own_cell5 (t := 0) oy hlk (by omega)
              obtain ⟨v1, h1⟩ := own_cell5 (t := 1) oy hlk (by omega)
              obtain ⟨v2, h2⟩ := own_cell5 (t := 2) oy hlk (by omega)
              obtain ⟨v3, h3⟩ := own_cell5 (t := 3) oy hlk (by omega)
              obtain ⟨v4, h4⟩ := own_cell5 (t := 4) oy hlk (by omega)
              rw [Nat.add_zero] at h0
              have f0 := oy.frozenAt (k * 5)
              have f1 := oy.frozenAt (k * 5 + 1)
              have f2 := oy.frozenAt (k * 5 + 2)
              have f3 := oy.frozenAt (k * 5 + 3)
              have f4 := oy.frozenAt (k * 5 + 4)
              have HO : Hid _ := hide oy
              have HBT : Hid _ := hide hbt
              have HTL : Hid _ := hide htl
              have hlkI : (k : Int) < (m : Int) := by omega
              clear oy hbt htl
              go_wp2
              obtain ⟨ys', o'⟩ := set5_own (i := k * 5) HO.out (.int .i64 (-7)) (.int .i64 0) (.int .u64 0) (.int .u64 0) (.int .i64 0)
              refine ⟨⟨k + 1, ys', by go_num, by omega, o', HBT.out.trans (set5_but _ yb (k * 5) _ _ _ _ _) (fun q _ e => by rw [(e : q = yb)]; rfl), fun q hq => set5_cell (HTL.out q hq) (fun t ht e => ?_)⟩, by simp [intOf]; omega⟩
              injection e with e1 e2 e3
              omega
            · have hlkI : ¬ (k : Int) < (m : Int) := by omega
              have HXt : Hid (One W0.heap.size w4.heap.size Wt (.slice ax m cx) m L r11 gb gc 70) := hide (HXq.out.but hbt (fun k hk e => by have := HX1.out k hk; have := HY2.out k e; omega) (fun e => by
                have := HY2.out gb e
                rcases HXq.out.l with e1 | e1
                · have := HX1.out gb e1; omega
                · omega))
              have HWt : Hid (Wt.ownsRow W0.heap.size 48 5 (.slice aw m cw) m (flat L)) := hide (own_but HWq.out hbt (fun k hk e => by have := HY2.out k e; have := HWB.out k hk; omega))
              have HBt : Hid (Below W0.heap.size W0 Wt) := hide (HBq.out.trans (hbt.below HBq.out.size (fun k hk => (HYq.out.x.lt k hk).1)))
              have HTL : Hid _ := hide htl
              have HMK : Hid (∀ q, q < 70 → Wt.cell? ⟨gb, (m + q) * 5, none⟩ = some (.int .i64 (-11))) := hide (fun q hq => HXt.out.mark HLm.out hq)
              clear oy hbt htl HXq HYq HWq HBq HEq
              go_wp2_with fail
              go_loopw [13] (fun s13 wr => ∃ k : Nat, s13 = .int .i64 k ∧ k ≤ 70 ∧ wr = Wt) (fun s13 _ => 70 - (intOf s13).toNat)
              case atStart => exact ⟨0, rfl, by decide, rfl⟩
              case round =>
                obtain ⟨r, rfl, hr70, hwe⟩ := hrel
                by_cases hlr : r < 70
                · have hlrI : (r : Int) < 70 := by omega
                  have e1 := HMK.out r hlr
                  have e2 := HTL.out r hlr
                  rw [← hwe] at e1 e2
                  have hn1 : ((m : Int) + (r : Int)).toNat = m + r := by omega
                  have HWE : Hid _ := hide hwe
                  clear hwe
                  go_wp2
                  exact ⟨⟨r + 1, by go_num, by omega, HWE.out⟩, by simp [intOf]; omega⟩
                · have hlrI : ¬ (r : Int) < 70 := by omega
                  subst hwe
                  obtain ⟨c1, C1⟩ := HCC.out _ HBt.out
                  go_wp2_with fail
                  refine C1.mono ?_
                  rintro e w7 ⟨hb7, az, cz, rfl, oz⟩
                  have X7 : Hid _ := hide (own_below HXt.out.x hb7)
                  have W7 : Hid _ := hide (own_below HWt.out hb7)
                  have B7 : Hid (Below W0.heap.size W0 w7) := hide (HBt.out.trans (hb7.mono HBt.out.size))
                  have Z7 : Hid _ := hide oz
                  clear C1 c1 hb7 oz HMK HTL HXt HWt
                  have SM := rsame_eq ax aw m cx cw L w7 (RRow.of_own X7.out) (RRow.of_own W7.out) (by omega)
                  go_wp2_with fail
                  refine SM.mono ?_
                  rintro e w8 ⟨rfl, p8, hw8⟩
                  have hb8 : Below w7.heap.size w7 w8 := by rw [hw8]; exact below_drewN (Below.refl _ _) p8
                  have SM2 := rsame_eq az aw m cz cw L w8 (RRow.of_own (own_below Z7.out hb8)) (RRow.of_own (own_below W7.out hb8)) (by omega)
                  have B8 : Hid (Below W0.heap.size W0 w8) := hide (B7.out.trans (hb8.mono B7.out.size))
                  clear SM hw8 hb8
                  go_wp2_with fail
                  refine SM2.mono ?_
                  rintro e w9 ⟨rfl, p9, hw9⟩
                  have B9 : Hid (Below W0.heap.size W0 w9) := hide (B8.out.trans (by rw [hw9]; exact below_drewN (Below.refl _ _) p9))
                  clear SM2 hw9
                  go_wp2
                  exact ⟨⟨i + 1, by go_num, by omega, HB.out.trans (B9.out.mono hs0)⟩, by simp [intOf]; omega⟩
    · go_wp2
      go_ret
      exact ⟨rfl, HB.out⟩
end Go.Proofs.YtdppbaipmmcjbaaDoor
