/-
  without of the law.
-/
import Derived.Test.YtdlpffbeladgaaaMtP
import Derived.Test.YtdlpffbeladgaaaMSp
import Derived.Deep.AppendLies
namespace Go.Proofs.Ytdlpffbeladgaaa
open Go.RowKit
theorem wout_snoc (st : Int) (A : List (Int × List Rc)) (G : Int × List Rc) : wout st (A ++ [G]) = wout st A ++ (if 0 < (G.2.filter fun r => decide (r.stamp ≠ st)).length then [(G.1, G.2.filter fun r => decide (r.stamp ≠ st))] else []) := by
  unfold wout
  rw [List.map_append, List.filter_append]
  congr 1
  simp only [List.map_cons, List.map_nil, List.filter_cons, List.filter_nil, decide_eq_true_eq]
set_option maxRecDepth 8000 in
set_option maxHeartbeats 25600000 in
theorem without_any (w : World) (a : Option Addr) (n c : Nat) (rws : List Rw) (Gs : List (Int × List Rc)) (st : Int) (hr : Rdz w a n rws Gs) (hn : n * 32 ≤ 140737488355328) (hm : ∀ G ∈ Gs, G.2.length * 40 ≤ 140737488355328) :
    Calls Try.prog 27 #[.slice a n c, .int .i64 st] w fun r w' => ∃ v rs, r = .returned v ∧ Rowz w' w.heap.size v rs (wout st Gs) ∧ Below w.heap.size w w' := by
  obtain ⟨i0, hi0, hz0, hz1, hz2⟩ := info_parts Try.infoR
  obtain ⟨i1, hi1, hy0, hy1, hy2⟩ := info_parts Try.infoW
  have HR : Hid _ := hide hr
  have HL : Hid _ := hide hr.row.len
  have HG : Hid (Gs.length = n) := hide (by rw [← hr.len, hr.row.len])
  have HM : Hid _ := hide hm
  have HN : Hid _ := hide hn
  have hnI : (n : Int) ≤ 4398046511104 := by omega
  clear hr hm hn
  go_enter Try.func27, Try.ntmps27
  go_wp2_with fail
  go_loopw [5, 6] (fun lv i wr => ∃ (k : Nat) (la : Option Addr) (ln lc : Nat) (rs : List Rw), lv = .slice la ln lc ∧ i = .int .i64 k ∧ k ≤ n ∧ Hid (ln ≤ k) ∧ Hid (rs.length = ln) ∧ Hid (Rowz wr w.heap.size (.slice la ln lc) rs (wout st (Gs.take k))) ∧ Hid (Below w.heap.size w wr)) (fun _ i _ => n - numV i)
  case atStart =>
    refine ⟨0, none, 0, 0, [], rfl, rfl, Nat.zero_le _, hide (Nat.le_refl _), hide rfl, hide ⟨Own.nil _ _ _ _, rfl, fun k rw G h => by simp at h, fun i j p q b h => by simp at h⟩, hide (Below.refl _ _)⟩
  case round =>
    obtain ⟨k, la, ln, lc, rs, rfl, rfl, hk, HLk, HRs, HZ, HB⟩ := hrel
    by_cases hlt : k < n
    · have hltI : (k : Int) < (n : Int) := by omega
      obtain ⟨p, hp⟩ : ∃ r, rws[k]? = some r := ⟨_, List.getElem?_eq_getElem (by rw [HL.out]; exact hlt)⟩
      obtain ⟨G, hGk⟩ : ∃ r, Gs[k]? = some r := ⟨_, List.getElem?_eq_getElem (by rw [HG.out]; exact hlt)⟩
      have A1 := HR.out.below HB.out
      obtain ⟨lb, lo, rfl, hlb, hc⟩ := A1.row.at (by omega)
      obtain ⟨pg, pr, -, -⟩ := A1.each k p G hp hGk
      have x0 := hc k p hp 0 _ rfl
      have x1 := hc k p hp 1 _ rfl
      have hGl := HM.out G (List.mem_of_getElem? hGk)
      have HT : Hid (wout st (Gs.take (k + 1)) = wout st (Gs.take k) ++ (if 0 < (G.2.filter fun r => decide (r.stamp ≠ st)).length then [(G.1, G.2.filter fun r => decide (r.stamp ≠ st))] else [])) := hide (by rw [List.take_add_one, hGk, Option.toList_some, wout_snoc])
      obtain ⟨g, R⟩ := G
      obtain ⟨p0, pa, pn, pc⟩ := p
      dsimp only at pg pr hGl HT
      subst pg
      have hpn := pr.len
      rw [hpn] at hGl
      simp only [layW, Nat.add_zero] at x0 x1
      have hpI : (pn : Int) ≤ 3518437208884 := by omega
      obtain ⟨w3, hw3⟩ : ∃ w3, w3 = wr.alloc (.cells #[.int .i64 p0, .slice none 0 0] 38) := ⟨_, rfl⟩
      have HB3 : Hid (Below wr.heap.size wr w3) := hide (by rw [hw3]; exact below_alloc1 _ _)
      have HS3 : Hid (wr.heap.size < w3.heap.size) := hide (by rw [hw3]; simp)
      have HR3 : Hid (w3.heap[wr.heap.size]? = some (.cells #[.int .i64 p0, .slice none 0 0] 38 (0, 0))) := hide (by rw [hw3]; exact heap_new _ _)
      have HX : Hid (∀ X, Below wr.heap.size wr X → X.cell? ⟨lb, lo + k * 2 + 1, none⟩ = some (.slice pa pn pc)) := hide (fun X hX => (hX.cell (p := ⟨lb, lo + k * 2 + 1, none⟩) hlb).trans x1)
      have HPr : Hid _ := hide pr
      have HPn : Hid _ := hide hpn
      have HGl : Hid _ := hide hGl
      have HW3 : Hid _ := hide hw3
      clear hc hp hGk pr hpn A1 hw3 hGl x1
      go_upto_region 6 with fail
      rw [← HW3.out]
      clear x0
      go_wp2_with fail
      go_loopw [8] (fun j wi => ∃ (q : Nat) (sa : Option Addr) (sn sc : Nat), j = .int .i64 q ∧ q ≤ pn ∧ Hid (sn ≤ q) ∧ Hid (((R.take q).filter fun r => decide (r.stamp ≠ st)).length = sn) ∧ Hid (wi.heap[wr.heap.size]? = some (.cells #[.int .i64 p0, .slice sa sn sc] 38 (0, 0))) ∧ Hid (Own layR 41 wi w3.heap.size (.slice sa sn sc) ((R.take q).filter fun r => decide (r.stamp ≠ st))) ∧ Hid (Below wr.heap.size wr wi) ∧ Hid (w3.heap.size ≤ wi.heap.size)) (fun j _ => pn - numV j)
      case atStart => exact ⟨0, none, 0, 0, rfl, Nat.zero_le _, hide (Nat.le_refl _), hide rfl, HR3, hide (Own.nil _ _ _ _), HB3, hide (Nat.le_refl _)⟩
      case round =>
        obtain ⟨q, sa, sn, sc, rfl, hq, HSq, HSl, HV, HO, HBi, HSi⟩ := hrel
        rename World => wi
        have x1 := HX.out _ HBi.out
        by_cases hlt2 : q < pn
        · have hltJ : (q : Int) < (pn : Int) := by omega
          obtain ⟨r, hr⟩ : ∃ r, R[q]? = some r := ⟨_, List.getElem?_eq_getElem (by rw [HPn.out]; exact hlt2)⟩
          have PR := HPr.out.below HBi.out
          obtain ⟨d1, f1, rfl, hd1, hc1⟩ := PR.at (by omega)
          have u0 := hc1 q r hr 0 _ rfl
          have u1 := hc1 q r hr 1 _ rfl
          have u2 := hc1 q r hr 2 _ rfl
          have u3 := hc1 q r hr 3 _ rfl
          have u4 := hc1 q r hr 4 _ rfl
          simp only [layR, Nat.add_zero] at u0 u1 u2 u3 u4
          have HFt := hide (filter_take hr fun r => decide (r.stamp ≠ st))
          have v1 : wi.cell? ⟨wr.heap.size, 1, none⟩ = some (.slice sa sn sc) := cell_at HV.out rfl
          clear hc1 hr PR
          obtain ⟨s, r1, r2, r3, r4⟩ := r
          dsimp only at u0 u1 u2 u3 u4 HFt
          by_cases hS : s = st
          · have hd : (s == st) = true := by simp [hS]
            have hd2 : (s != st) = false := by simp [hS]
            have HE : Hid (((R.take (q + 1)).filter fun r => decide (r.stamp ≠ st)) = (R.take q).filter fun r => decide (r.stamp ≠ st)) := hide (by rw [HFt.out, if_neg (by simp [hS]), List.append_nil])
            clear hS
            go_wp2_with fail
            refine ⟨⟨q + 1, sa, sn, sc, by go_num, by omega, hide (by have := HSq.out; omega), hide (by rw [HE.out]; exact HSl.out), HV, hide (by rw [HE.out]; exact HO.out), HBi, HSi⟩, by simp [numV]; omega⟩
          · have hd : (s == st) = false := by simp [hS]
            have hd2 : (s != st) = true := by simp [hS]
            have HE : Hid (((R.take (q + 1)).filter fun r => decide (r.stamp ≠ st)) = ((R.take q).filter fun r => decide (r.stamp ≠ st)) ++ [⟨s, r1, r2, r3, r4⟩]) := hide (by rw [HFt.out, if_pos (by simpa using hS)])
            have HSV : Hid (∀ X, But (fun z => z = wr.heap.size ∨ (Value.slice sa sn sc).ownBlock = some z) wi X → X.cell? ⟨lb, lo + k * 2 + 1, none⟩ = some (.slice (some ⟨d1, f1, none⟩) pn pc) ∧ X.cell? ⟨d1, f1 + q * 5, none⟩ = some (.int .i64 s) ∧ X.cell? ⟨d1, f1 + q * 5 + 1, none⟩ = some (.int .i64 r1) ∧ X.cell? ⟨d1, f1 + q * 5 + 2, none⟩ = some (.int .u64 r2) ∧ X.cell? ⟨d1, f1 + q * 5 + 3, none⟩ = some (.int .u64 r3) ∧ X.cell? ⟨d1, f1 + q * 5 + 4, none⟩ = some (.int .i64 r4)) := hide (by
              have hlb' : lb < wr.heap.size := hlb
              have hd1' : d1 < wr.heap.size := by
                obtain ⟨b', o', e', hb', _⟩ := HPr.out.at (by omega)
                cases e'
                exact hb'
              have no : ∀ z, z < wr.heap.size → ¬ (z = wr.heap.size ∨ (Value.slice sa sn sc).ownBlock = some z) := fun z hz e => by
                rcases e with e | e
                · omega
                · have := (HO.out.lt z e).1; have := HS3.out; omega
              intro X hX
              exact ⟨cell_but x1 hX (no lb hlb'), cell_but u0 hX (no d1 hd1'), cell_but u1 hX (no d1 hd1'), cell_but u2 hX (no d1 hd1'), cell_but u3 hX (no d1 hd1'), cell_but u4 hX (no d1 hd1')⟩)
            clear hS
            go_wp2_with fail
            refine wp_region_noPanic ?_
            refine wp_region_held_drew (S := fun X => X.cell? ⟨lb, lo + k * 2 + 1, none⟩ = some (.slice (some ⟨d1, f1, none⟩) pn pc) ∧ X.cell? ⟨d1, f1 + q * 5, none⟩ = some (.int .i64 s) ∧ X.cell? ⟨d1, f1 + q * 5 + 1, none⟩ = some (.int .i64 r1) ∧ X.cell? ⟨d1, f1 + q * 5 + 2, none⟩ = some (.int .u64 r2) ∧ X.cell? ⟨d1, f1 + q * 5 + 3, none⟩ = some (.int .u64 r3) ∧ X.cell? ⟨d1, f1 + q * 5 + 4, none⟩ = some (.int .i64 r4)) (by kernel_rfl) (HSV.out _ (But.refl _ _).drew) (fun hHeld => ?_)
            refine wpAnyH_take (i := 0) (oi := _) (v := ?v0w) rfl (by kernel_rfl) (by kernel_rfl) (by kernel_rfl) (fun _ _ _ h => h) (Or.inl ⟨by rfl, ?y0w⟩) (by assumption) ?r0w
            case y0w => (intro w' hSw; (try dsimp only at hSw); go_simp; try with_reducible rfl)
            refine wpAnyH_take (i := 2) (oi := _) (v := ?v2w) rfl (by kernel_rfl) (by kernel_rfl) (by kernel_rfl) (fun _ _ _ h => h) (Or.inl ⟨by rfl, ?y2w⟩) (by assumption) ?r2w
            case y2w => (intro w' hSw; (try dsimp only at hSw); go_simp; try with_reducible rfl)
            refine wpAnyH_take (i := 3) (oi := _) (v := ?v3w) rfl (by kernel_rfl) (by kernel_rfl) (by kernel_rfl) (fun _ _ _ h => h) (Or.inl ⟨by rfl, ?y3w⟩) (by assumption) ?r3w
            case y3w => (intro w' hSw; (try dsimp only at hSw); go_simp; try with_reducible rfl)
            refine wpAnyH_take (i := 4) (oi := _) (v := ?v4w) rfl (by kernel_rfl) (by kernel_rfl) (by kernel_rfl) (fun _ _ _ h => h) (Or.inl ⟨by rfl, ?y4w⟩) (by assumption) ?r4w
            case y4w => (intro w' hSw; (try dsimp only at hSw); go_simp; try with_reducible rfl)
            refine wpAnyH_take (i := 5) (oi := _) (v := ?v5w) rfl (by kernel_rfl) (by kernel_rfl) (by kernel_rfl) (fun _ _ _ h => h) (Or.inl ⟨by rfl, ?y5w⟩) (by assumption) ?r5w
            case y5w => (intro w' hSw; (try dsimp only at hSw); go_simp; try with_reducible rfl)
            refine wpAnyH_take (i := 6) (oi := _) (v := ?v6w) rfl (by kernel_rfl) (by kernel_rfl) (by kernel_rfl) (fun _ _ _ h => h) (Or.inl ⟨by rfl, ?y6w⟩) (by assumption) ?r6w
            case y6w => (intro w' hSw; (try dsimp only at hSw); go_simp; try with_reducible rfl)
            refine wpAnyH_take (i := 7) (oi := _) (v := ?v7w) rfl (by kernel_rfl) (by kernel_rfl) (by kernel_rfl) (fun _ _ _ h => h) (Or.inl ⟨by rfl, ?y7w⟩) (by assumption) ?r7w
            case y7w => (intro w' hSw; (try dsimp only at hSw); go_simp; try with_reducible rfl)
            refine wpAnyH_take (i := 8) (oi := _) (v := ?v8w) rfl (by kernel_rfl) (by kernel_rfl) (by kernel_rfl) (fun _ _ _ h => h) (Or.inl ⟨by rfl, ?y8w⟩) (by assumption) ?r8w
            case y8w => (intro w' hSw; (try dsimp only at hSw); go_simp; try with_reducible rfl)
            refine wpAnyH_take (i := 9) (oi := _) (v := ?v9w) rfl (by kernel_rfl) (by kernel_rfl) (by kernel_rfl) (fun _ _ _ h => h) (Or.inl ⟨by rfl, ?y9w⟩) (by assumption) ?r9w
            case y9w => (intro w' hSw; (try dsimp only at hSw); go_simp; try with_reducible rfl)
            have hwl : wr.heap.size < wi.heap.size := get_lt' HV.out
            refine wpAnyH_ready (rs := [1, 10]) (by kernel_rfl) (by simp) ?_
            refine AllReadyH.cons (o := _) rfl (fun KK hKK => ?_) (AllReadyH.cons (o := _) rfl (fun KK hKK => ?_) AllReadyH.nil)
            · go_simp
              refine hKK.out _ _ (HSV.out _ (But.refl _ _).drew) (fun hHeld1 => ?_)
              clear hKK KK
              refine wpAnyH_ready (rs := [10]) (by kernel_rfl) (by simp) ?_
              refine AllReadyH.cons (o := _) rfl (fun KK hKK => ?_) AllReadyH.nil
              go_simp
              refine hKK.out _ _ (HSV.out _ ((But.of_below (S := fun z => z = wr.heap.size ∨ (Value.slice sa sn sc).ownBlock = some z) (below_alloc1 wi _)).drew)) (fun hHeld10 => ?_)
              clear hKK KK
              clear v1 hwl
              refine wpAnyH_ready (rs := [11]) (by kernel_rfl) (by simp) ?_
              refine AllReadyH.cons (o := _) rfl (fun KK hKK => ?_) AllReadyH.nil
              refine step_append_lies _ rfl (.tmp 43) (.tmp 52) 36 rfl w3.heap.size 41 i0 _ 5 40 Try.underlying36 hi0 hz0 hz1 hz2 rfl (by decide) (.slice sa sn sc) ((R.take q).filter fun r : Rc => decide (r.stamp ≠ st)).length _ rfl (HO.out.below (below_alloc1 wi _).drew) ⟨wi.heap.size, 0, none⟩ 1 1 (layR.cs ⟨s, r1, r2, r3, r4⟩) rfl rfl (World.news_of_block (show _ = _ from heap_new wi _)) (layR.one _) (by decide) (by rw [HSl.out]; have := HSq.out; unfold maxLen; omega) (by rw [HSl.out]; have := HSq.out; have := HGl.out; omega) (by simp; have := HSi.out; omega) _ rfl ?_
              intro g9 cap9 w8 o8 g8 l8 lt8
              have gb : But (fun z => z = wr.heap.size ∨ (Value.slice sa sn sc).ownBlock = some z) wi w8 := ((But.of_below (S := fun z => z = wr.heap.size ∨ (Value.slice sa sn sc).ownBlock = some z) (below_alloc1 wi (.cells #[.int .i64 s, .int .i64 r1, .int .u64 r2, .int .u64 r3, .int .i64 r4] 41))).drew).trans (But.of_grown (S := fun z => z = wr.heap.size ∨ (Value.slice sa sn sc).ownBlock = some z) g8 (fun k hk => .inr hk)) (fun _ _ e => e)
              have m8 : w8.heap[wr.heap.size]? = some (.cells #[.int .i64 p0, .slice sa sn sc] 38 (0, 0)) := by
                have gb2 : But (fun z => (Value.slice sa sn sc).ownBlock = some z) wi w8 := ((But.of_below (S := fun z => (Value.slice sa sn sc).ownBlock = some z) (below_alloc1 wi (.cells #[.int .i64 s, .int .i64 r1, .int .u64 r2, .int .u64 r3, .int .i64 r4] 41))).drew).trans (But.of_grown (S := fun z => (Value.slice sa sn sc).ownBlock = some z) g8 (fun k hk => hk)) (fun _ _ e => e)
                exact (gb2.block wr.heap.size (get_lt' HV.out) (own_ne_cells HO.out HV.out (by decide))).trans HV.out
              rw [HSl.out] at o8
              have HO8 : Hid (Own layR 41 w8 w3.heap.size (.slice (some ⟨g9, 0, none⟩) (sn + 1) cap9) (((R.take q).filter fun r => decide (r.stamp ≠ st)) ++ [⟨s, r1, r2, r3, r4⟩])) := hide (by
                unfold Own
                rw [List.length_append, layR.fl_app, layR.fl_one, HSl.out]
                exact o8)
              have cm : w8.cell? ⟨wr.heap.size, 1, none⟩ = some (.slice sa sn sc) := cell_at m8 rfl
              have fm := frz m8 1
              have HM8 : Hid _ := hide m8
              have HGB : Hid _ := hide gb
              have HZ8 : Hid (w3.heap.size ≤ w8.heap.size) := hide (Nat.le_trans HSi.out gb.size)
              have HW8 : Hid (Below wr.heap.size wr w8) := hide (HBi.out.trans (gb.below HBi.out.size (fun z hz => by
                rcases hz with e | e
                · omega
                · have := (HO.out.lt z e).1; have := HS3.out; omega)))
              rw [HSl.out]
              clear o8 g8 l8 lt8 gb m8
              refine hKK.out _ _ (HSV.out _ HGB.out) (fun hHeld11 => ?_)
              clear hKK KK
              refine wpAnyH_take (i := 12) (oi := _) (v := ?v12wa) rfl (by kernel_rfl) (by kernel_rfl) (by kernel_rfl) (fun _ _ _ h => h) (Or.inl ⟨by rfl, ?y12wa⟩) (by assumption) ?r12wa
              case y12wa => (intro w' hSw; (try dsimp only at hSw); go_simp; try with_reducible rfl)
              refine wpAnyH_ready (rs := [13]) (by kernel_rfl) (by simp) ?_
              refine AllReadyH.cons (o := _) rfl (fun KK hKK => ?_) AllReadyH.nil
              go_simp
              have sb := but_setC w8 ⟨wr.heap.size, 1, none⟩ (.slice (some ⟨g9, 0, none⟩) (sn + 1) cap9)
              refine hKK.out _ _ (HSV.out _ (HGB.out.trans sb (fun _ _ e => .inl e))) (fun hHeld13 => ?_)
              clear hKK KK
              refine wpAnyH_done (by kernel_rfl) ?_ _
              refine NoPanic.normal ?_
              have sb := but_setC w8 ⟨wr.heap.size, 1, none⟩ (.slice (some ⟨g9, 0, none⟩) (sn + 1) cap9)
              have G1 : Hid ((w8.setCell ⟨wr.heap.size, 1, none⟩ (.slice (some ⟨g9, 0, none⟩) (sn + 1) cap9)).heap[wr.heap.size]? = some (.cells #[.int .i64 p0, .slice (some ⟨g9, 0, none⟩) (sn + 1) cap9] 38 (0, 0))) := hide (set1_heap (i := 1) _ HM8.out)
              have G2 : Hid (Own layR 41 (w8.setCell ⟨wr.heap.size, 1, none⟩ (.slice (some ⟨g9, 0, none⟩) (sn + 1) cap9)) w3.heap.size (.slice (some ⟨g9, 0, none⟩) (sn + 1) cap9) ((R.take (q + 1)).filter fun r => decide (r.stamp ≠ st))) := hide (by
                rw [HE.out]
                exact HO8.out.but sb (fun g hg e => own_ne_cells HO8.out HM8.out (by decide) (by have e9 : g = wr.heap.size := e; rw [hg, e9])))
              have G3 : Hid (Below wr.heap.size wr (w8.setCell ⟨wr.heap.size, 1, none⟩ (.slice (some ⟨g9, 0, none⟩) (sn + 1) cap9))) := hide (HW8.out.trans (sb.below HW8.out.size (fun z hz => Nat.le_of_eq (show wr.heap.size = z from Eq.symm hz))))
              have G4 : Hid (w3.heap.size ≤ (w8.setCell ⟨wr.heap.size, 1, none⟩ (.slice (some ⟨g9, 0, none⟩) (sn + 1) cap9)).heap.size) := hide (Nat.le_trans HZ8.out sb.size)
              clear cm fm sb hHeld hHeld11 hHeld13 hHeld1 hHeld10 u0 u1 u2 u3 u4 x1
              generalize (w8.setCell ⟨wr.heap.size, 1, none⟩ (.slice (some ⟨g9, 0, none⟩) (sn + 1) cap9)) = w9 at G1 G2 G3 G4
              go_wp2_with fail
              exact ⟨⟨q + 1, some ⟨g9, 0, none⟩, sn + 1, cap9, by go_num, by omega, hide (by have := HSq.out; omega), hide (by rw [HE.out, List.length_append, HSl.out]; rfl), G1, G2, G3, G4⟩, by simp [numV]; omega⟩
            · go_simp
              refine hKK.out _ _ (HSV.out _ ((But.of_below (S := fun z => z = wr.heap.size ∨ (Value.slice sa sn sc).ownBlock = some z) (below_alloc1 wi _)).drew)) (fun hHeld10 => ?_)
              clear hKK KK
              refine wpAnyH_ready (rs := [1]) (by kernel_rfl) (by simp) ?_
              refine AllReadyH.cons (o := _) rfl (fun KK hKK => ?_) AllReadyH.nil
              go_simp
              refine hKK.out _ _ (HSV.out _ ((But.of_below (S := fun z => z = wr.heap.size ∨ (Value.slice sa sn sc).ownBlock = some z) (below_alloc1 wi _)).drew)) (fun hHeld1 => ?_)
              clear hKK KK
              clear v1 hwl
              refine wpAnyH_ready (rs := [11]) (by kernel_rfl) (by simp) ?_
              refine AllReadyH.cons (o := _) rfl (fun KK hKK => ?_) AllReadyH.nil
              refine step_append_lies _ rfl (.tmp 43) (.tmp 52) 36 rfl w3.heap.size 41 i0 _ 5 40 Try.underlying36 hi0 hz0 hz1 hz2 rfl (by decide) (.slice sa sn sc) ((R.take q).filter fun r : Rc => decide (r.stamp ≠ st)).length _ rfl (HO.out.below (below_alloc1 wi _).drew) ⟨wi.heap.size, 0, none⟩ 1 1 (layR.cs ⟨s, r1, r2, r3, r4⟩) rfl rfl (World.news_of_block (show _ = _ from heap_new wi _)) (layR.one _) (by decide) (by rw [HSl.out]; have := HSq.out; unfold maxLen; omega) (by rw [HSl.out]; have := HSq.out; have := HGl.out; omega) (by simp; have := HSi.out; omega) _ rfl ?_
              intro g9 cap9 w8 o8 g8 l8 lt8
              have gb : But (fun z => z = wr.heap.size ∨ (Value.slice sa sn sc).ownBlock = some z) wi w8 := ((But.of_below (S := fun z => z = wr.heap.size ∨ (Value.slice sa sn sc).ownBlock = some z) (below_alloc1 wi (.cells #[.int .i64 s, .int .i64 r1, .int .u64 r2, .int .u64 r3, .int .i64 r4] 41))).drew).trans (But.of_grown (S := fun z => z = wr.heap.size ∨ (Value.slice sa sn sc).ownBlock = some z) g8 (fun k hk => .inr hk)) (fun _ _ e => e)
              have m8 : w8.heap[wr.heap.size]? = some (.cells #[.int .i64 p0, .slice sa sn sc] 38 (0, 0)) := by
                have gb2 : But (fun z => (Value.slice sa sn sc).ownBlock = some z) wi w8 := ((But.of_below (S := fun z => (Value.slice sa sn sc).ownBlock = some z) (below_alloc1 wi (.cells #[.int .i64 s, .int .i64 r1, .int .u64 r2, .int .u64 r3, .int .i64 r4] 41))).drew).trans (But.of_grown (S := fun z => (Value.slice sa sn sc).ownBlock = some z) g8 (fun k hk => hk)) (fun _ _ e => e)
                exact (gb2.block wr.heap.size (get_lt' HV.out) (own_ne_cells HO.out HV.out (by decide))).trans HV.out
              rw [HSl.out] at o8
              have HO8 : Hid (Own layR 41 w8 w3.heap.size (.slice (some ⟨g9, 0, none⟩) (sn + 1) cap9) (((R.take q).filter fun r => decide (r.stamp ≠ st)) ++ [⟨s, r1, r2, r3, r4⟩])) := hide (by
                unfold Own
                rw [List.length_append, layR.fl_app, layR.fl_one, HSl.out]
                exact o8)
              have cm : w8.cell? ⟨wr.heap.size, 1, none⟩ = some (.slice sa sn sc) := cell_at m8 rfl
              have fm := frz m8 1
              have HM8 : Hid _ := hide m8
              have HGB : Hid _ := hide gb
              have HZ8 : Hid (w3.heap.size ≤ w8.heap.size) := hide (Nat.le_trans HSi.out gb.size)
              have HW8 : Hid (Below wr.heap.size wr w8) := hide (HBi.out.trans (gb.below HBi.out.size (fun z hz => by
                rcases hz with e | e
                · omega
                · have := (HO.out.lt z e).1; have := HS3.out; omega)))
              rw [HSl.out]
              clear o8 g8 l8 lt8 gb m8
              refine hKK.out _ _ (HSV.out _ HGB.out) (fun hHeld11 => ?_)
              clear hKK KK
              refine wpAnyH_take (i := 12) (oi := _) (v := ?v12wb) rfl (by kernel_rfl) (by kernel_rfl) (by kernel_rfl) (fun _ _ _ h => h) (Or.inl ⟨by rfl, ?y12wb⟩) (by assumption) ?r12wb
              case y12wb => (intro w' hSw; (try dsimp only at hSw); go_simp; try with_reducible rfl)
              refine wpAnyH_ready (rs := [13]) (by kernel_rfl) (by simp) ?_
              refine AllReadyH.cons (o := _) rfl (fun KK hKK => ?_) AllReadyH.nil
              go_simp
              have sb := but_setC w8 ⟨wr.heap.size, 1, none⟩ (.slice (some ⟨g9, 0, none⟩) (sn + 1) cap9)
              refine hKK.out _ _ (HSV.out _ (HGB.out.trans sb (fun _ _ e => .inl e))) (fun hHeld13 => ?_)
              clear hKK KK
              refine wpAnyH_done (by kernel_rfl) ?_ _
              refine NoPanic.normal ?_
              have sb := but_setC w8 ⟨wr.heap.size, 1, none⟩ (.slice (some ⟨g9, 0, none⟩) (sn + 1) cap9)
              have G1 : Hid ((w8.setCell ⟨wr.heap.size, 1, none⟩ (.slice (some ⟨g9, 0, none⟩) (sn + 1) cap9)).heap[wr.heap.size]? = some (.cells #[.int .i64 p0, .slice (some ⟨g9, 0, none⟩) (sn + 1) cap9] 38 (0, 0))) := hide (set1_heap (i := 1) _ HM8.out)
              have G2 : Hid (Own layR 41 (w8.setCell ⟨wr.heap.size, 1, none⟩ (.slice (some ⟨g9, 0, none⟩) (sn + 1) cap9)) w3.heap.size (.slice (some ⟨g9, 0, none⟩) (sn + 1) cap9) ((R.take (q + 1)).filter fun r => decide (r.stamp ≠ st))) := hide (by
                rw [HE.out]
                exact HO8.out.but sb (fun g hg e => own_ne_cells HO8.out HM8.out (by decide) (by have e9 : g = wr.heap.size := e; rw [hg, e9])))
              have G3 : Hid (Below wr.heap.size wr (w8.setCell ⟨wr.heap.size, 1, none⟩ (.slice (some ⟨g9, 0, none⟩) (sn + 1) cap9))) := hide (HW8.out.trans (sb.below HW8.out.size (fun z hz => Nat.le_of_eq (show wr.heap.size = z from Eq.symm hz))))
              have G4 : Hid (w3.heap.size ≤ (w8.setCell ⟨wr.heap.size, 1, none⟩ (.slice (some ⟨g9, 0, none⟩) (sn + 1) cap9)).heap.size) := hide (Nat.le_trans HZ8.out sb.size)
              clear cm fm sb hHeld hHeld11 hHeld13 hHeld1 hHeld10 u0 u1 u2 u3 u4 x1
              generalize (w8.setCell ⟨wr.heap.size, 1, none⟩ (.slice (some ⟨g9, 0, none⟩) (sn + 1) cap9)) = w9 at G1 G2 G3 G4
              go_wp2_with fail
              exact ⟨⟨q + 1, some ⟨g9, 0, none⟩, sn + 1, cap9, by go_num, by omega, hide (by have := HSq.out; omega), hide (by rw [HE.out, List.length_append, HSl.out]; rfl), G1, G2, G3, G4⟩, by simp [numV]; omega⟩
        · have hltJ : ¬ (q : Int) < (pn : Int) := by omega
          obtain rfl : q = pn := by omega
          have HFa : Hid (((R.take q).filter fun r => decide (r.stamp ≠ st)) = R.filter fun r => decide (r.stamp ≠ st)) := hide (by rw [List.take_of_length_le (by rw [HPn.out]; exact Nat.le_refl _)])
          have v0 : wi.cell? ⟨wr.heap.size, 0, none⟩ = some (.int .i64 p0) := cell_at HV.out rfl
          have v1 : wi.cell? ⟨wr.heap.size, 1, none⟩ = some (.slice sa sn sc) := cell_at HV.out rfl
          have HBw : Hid (Below w.heap.size w wi) := hide (HB.out.trans (HBi.out.mono HB.out.size))
          have hsnI : (sn : Int) ≤ 3518437208884 := by have := HSq.out; omega
          by_cases hS : 0 < sn
          · have hSI : (0 : Int) < (sn : Int) := by omega
            have HZi : Hid _ := hide (HZ.out.own.below HBi.out)
            have HE : Hid (wout st (Gs.take (k + 1)) = wout st (Gs.take k) ++ [(p0, R.filter fun r => decide (r.stamp ≠ st))]) := hide (by rw [HT.out, if_pos (by rw [← HFa.out, HSl.out]; exact hS)])
            go_wp2_with (
              at_builtin
              refine append_lay layW _ 22 38 i1 _ 32 Try.underlying22 hi1 hy0 hy1 hy2 rfl rfl (.tmp 59) (.tmp 61) rfl w.heap.size (.slice la ln lc) rs rfl (HZi.out.below (below_alloc1 _ _)) _ _ _ [(⟨p0, ⟨sa, sn, sc⟩⟩ : Rw)] rfl (TRow.one (heap_new _ _)) (fun e => by cases e) (by rw [HRs.out]; have := HLk.out; unfold maxLen; omega) (by rw [HRs.out]; have := HLk.out; have := HN.out; omega) (by have := HBw.out.size; simp; omega) ?_
              intro v9 w9 o9 g9 l9
              obtain ⟨la9, lc9, hv9, -, -⟩ := own_form o9
              rw [List.length_append, HRs.out, List.length_singleton] at hv9
              subst hv9
              have HZ9 : Hid (Rowz w9 w.heap.size (.slice la9 (ln + 1) lc9) (rs ++ [⟨p0, ⟨sa, sn, sc⟩⟩]) (wout st (Gs.take (k + 1)))) := hide (by
                rw [HE.out]
                exact HZ.out.snoc (s := ⟨sa, sn, sc⟩) (HBi.out.alloc HBi.out.size _) (by rw [← HFa.out]; exact (HO.out.mono (by have := HB.out.size; have := HS3.out; omega)).below (below_alloc1 _ _)) (fun z hz => by have := (HO.out.lt z hz).1; have := HS3.out; omega) o9 g9)
              have HB9 : Hid (Below w.heap.size w w9) := hide (HBw.out.trans ((((below_alloc1 wi _).mono HBw.out.size)).grown g9 (by have := HBw.out.size; simp; omega) (fun z hz => (HZ.out.own.lt z hz).1)))
              clear o9 g9 l9 v0 v1)
            exact ⟨⟨k + 1, la9, ln + 1, lc9, _, rfl, by go_num, by omega, hide (by have := HLk.out; omega), hide (by rw [List.length_append, HRs.out]; rfl), HZ9, HB9⟩, by simp [numV]; omega⟩
          · have hS0 : sn = 0 := by omega
            subst hS0
            have HE : Hid (wout st (Gs.take (k + 1)) = wout st (Gs.take k)) := hide (by rw [HT.out, if_neg (by rw [← HFa.out, HSl.out]; omega), List.append_nil])
            clear hS
            go_wp2_with fail
            exact ⟨⟨k + 1, la, ln, lc, rs, rfl, by go_num, by omega, hide (by have := HLk.out; omega), HRs, hide (by rw [HE.out]; exact HZ.out.below HBi.out), HBw⟩, by simp [numV]; omega⟩
    · have hltI : ¬ (k : Int) < (n : Int) := by omega
      obtain rfl : k = n := by omega
      go_wp2
      go_ret
      refine ⟨_, rfl, ⟨rs, ?_⟩, HB.out⟩
      have h9 := HZ.out
      rw [List.take_of_length_le (by rw [HG.out]; exact Nat.le_refl _)] at h9
      exact h9
end Go.Proofs.Ytdlpffbeladgaaa
