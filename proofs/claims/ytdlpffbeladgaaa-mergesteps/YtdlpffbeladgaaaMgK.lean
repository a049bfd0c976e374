/-
  The document's Merge.
-/
import Derived.Test.YtdlpffbeladgaaaMgJ
import Derived.Test.YtdlpffbeladgaaaMrB
namespace Go.Proofs.Ytdlpffbeladgaaa
open Go.RowKit
theorem RMg.but2 {S : Nat → Prop} {w w' : World} {base p : Nat} {vr va : Value} {Gs : List (Int × List Rc)} {As : List Nat} {nx : Int} (h : RMg w base p vr va Gs As nx) (hb : But S w w') (hv : ∀ q, va.ownBlock = some q → ¬ S q) (hS : ∀ q, S q → ∀ cur T, w.heap[q]? = some (.cells cur T (0, 0)) → T ≠ 77 ∧ T ≠ 38 ∧ T ≠ 41) : RMg w' base p vr va Gs As nx := by
  obtain ⟨rws, hz⟩ := h.rows
  refine ⟨(hb.block p (get_lt' h.blk) (fun e => (hS p e _ _ h.blk).1 rfl)).trans h.blk, ⟨rws, hz.but hb (fun q cur T h1 h2 e => ?_)⟩, h.ats.but hb hv, h.len, h.most, h.ge⟩
  rcases h2 with h2 | h2
  · exact (hS q e cur T h1).2.1 h2
  · exact (hS q e cur T h1).2.2 h2
theorem RMg.on {w w' : World} {base p : Nat} {vr va : Value} {Gs : List (Int × List Rc)} {As : List Nat} {nx : Int} (h : RMg w base p vr va Gs As nx) (hb : Below w.heap.size w w') : RMg w' base p vr va Gs As nx :=
  h.but2 (S := fun _ => False) (But.of_below hb) (fun _ _ e => e) (fun _ e => e.elim)
theorem RowsOk.few {Gs : List (Int × List Rc)} (h : RowsOk Gs) : Gs.length ≤ 65536 := by
  have h1 := nd_len (K := Gs.map Prod.fst) (M := (List.range 65536).map (fun i : Nat => (i : Int))) (asc_nodup h.asc) (fun x hx => by
    obtain ⟨G, hG, rfl⟩ := List.mem_map.1 hx
    have := h.g G hG
    exact List.mem_map.2 ⟨G.1.toNat, List.mem_range.2 (by omega), by omega⟩)
  simpa using h1
theorem RowsOk.rowLen {Gs : List (Int × List Rc)} (h : RowsOk Gs) : ∀ G ∈ Gs, Rising G.2 ∧ G.2.length ≤ 1048576 := by
  intro G hG
  refine ⟨h.rise G hG, ?_⟩
  have h1 := h.tot
  have : ∀ (Ls : List (List Rc)) (L : List Rc), L ∈ Ls → L.length ≤ Go.Proofs.Ytdlpffbeladgaaa.tot Ls := by
    intro Ls
    induction Ls with
    | nil => intro L hL; simp at hL
    | cons M Ls ih =>
      intro L hL
      rw [tot_cons]
      rcases List.mem_cons.1 hL with rfl | hL
      · omega
      · have := ih L hL; omega
  have := this _ G.2 (List.mem_map.2 ⟨G, hG, rfl⟩)
  omega
theorem leftR_zero : ∀ Gs : List (Int × List Rc), leftR Gs (List.replicate Gs.length 0) = Gs.map Prod.snd
  | [] => rfl
  | G :: Gs => by
    rw [List.length_cons, List.replicate_succ]
    unfold leftR
    rw [leftR_zero Gs]; rfl
def lenV : Value → Nat
  | .slice _ n _ => n
  | _ => 0
set_option maxRecDepth 8000 in
set_option maxHeartbeats 12800000 in
theorem rmerge_any (w : World) (a : Option Addr) (n c : Nat) (rws : List Rw) (Gs : List (Int × List Rc)) (hr : Rdz w a n rws Gs) (hn : n * 32 ≤ 140737488355328) (hm : ∀ G ∈ Gs, G.2.length * 40 ≤ 140737488355328) :
    Calls Try.prog 20 #[.slice a n c] w fun r w' => ∃ v1 v2 err O, r = .returned (.tuple #[v1, v2, .int .i64 err]) ∧ Mres Gs err O ∧ Own layV 46 w' w.heap.size v1 ((evs (Gs.map Prod.fst) O).map Prod.fst) ∧ Own layN 3 w' w.heap.size v2 ((evs (Gs.map Prod.fst) O).map Prod.snd) ∧ Below w.heap.size w w' := by
  obtain ⟨i0, hi0, hz0, hz1, hz2⟩ := info_parts Try.infoV
  obtain ⟨i1, hi1, hy0, hy1, hy2⟩ := info_parts Try.infoN
  have NW := rnew_any w a n c rws Gs hr hn hm
  clear hr hn hm
  go_enter Try.func20, Try.ntmps20
  go_wp2_with fail
  refine NW.mono ?_
  rintro r w1 ⟨(⟨hf, rfl⟩ | ⟨hf, p, vr, va, rfl, hR⟩), b1⟩
  · clear NW
    obtain ⟨t, ht⟩ : ∃ t, t = rfault (-1) 0 Gs := ⟨_, rfl⟩
    rw [← ht]
    have hb2 : (t != 0) = true := by simp [ht, hf]
    have hb3 : (t == 0) = false := by simp [ht, hf]
    have HF : Hid _ := hide hf
    have HTe : Hid _ := hide ht
    clear hf ht
    go_wp2_with fail
    refine bodyPost_ret (results_ttt Try.results20 _ _ _ _ _ rfl rfl rfl) rfl ?_
    exact ⟨_, _, t, [], rfl, .inl ⟨HF.out, HTe.out, rfl⟩, Own.nil _ _ _ _, Own.nil _ _ _ _, b1⟩
  · clear NW
    have hok := RowsOk.of hf
    have HF : Hid _ := hide hf
    have HOK : Hid _ := hide hok
    have HR : Hid _ := hide hR
    have HB1 : Hid _ := hide b1
    have HVL : Hid (∀ q, va.ownBlock = some q → q < w1.heap.size) := hide (fun q hq => (hR.ats.lt q hq).2)
    have HPL : Hid (p < w1.heap.size) := hide (get_lt' hR.blk)
    have HT : Hid (tot (Gs.map Prod.snd) ≤ 1048576) := hide hok.tot
    have HFew : Hid _ := hide hok.few
    clear hf hok hR b1
    go_wp2_with fail
    go_loopw [7, 8] (fun t ids wr => ∃ (ta ia : Option Addr) (NO tc ic : Nat) (O : List (Nat × Rc)) (As : List Nat) (nx : Int), t = .slice ta NO tc ∧ ids = .slice ia NO ic ∧ Hid (O.length = NO) ∧ Hid (Run (Gs.map Prod.snd) O (leftR Gs As) nx) ∧ Hid (RMg wr w.heap.size p vr va Gs As nx) ∧ Hid (Own layV 46 wr w1.heap.size (.slice ta NO tc) (O.map (evV (Gs.map Prod.fst)))) ∧ Hid (Own layN 3 wr w1.heap.size (.slice ia NO ic) (O.map fun o => o.2.stack)) ∧ Hid (Below w.heap.size w wr) ∧ Hid (w1.heap.size ≤ wr.heap.size)) (fun t _ _ => 1048577 - lenV t)
    case atStart => exact ⟨none, none, 0, 0, 0, [], _, 0, rfl, rfl, hide rfl, hide (by rw [leftR_zero]; exact Run.nil), HR, hide (Own.nil _ _ _ _), hide (Own.nil _ _ _ _), HB1, hide (Nat.le_refl _)⟩
    case round =>
      obtain ⟨ta, ia, NO, tc, ic, O, As, nx, rfl, rfl, HNO, HRun, HM, HT1, HI1, HBw, HSw⟩ := hrel
      have hnx : nx = (NO : Int) := by rw [← HNO.out]; exact HRun.out.at_
      have hNO : NO ≤ 1048576 := by have := HRun.out.tot; have := HNO.out; have := HT.out; omega
      have NX := rnext_any HM.out (HOK.out.rowLen) (by have := HFew.out; omega) (by omega) (by omega)
      have hNI : (NO : Int) ≤ 1048576 := by omega
      have HNX : Hid _ := hide hnx
      clear hnx
      go_wp2_with fail
      refine NX.mono ?_
      rintro r w2 (⟨k, m, G, x, h1, h2, h3, h4, rfl, hM2, hb2⟩ | ⟨f, hf0, hfl, rfl, b2⟩)
      · clear NX
        have ot : Own layV 46 w2 w1.heap.size (.slice ta NO tc) (O.map (evV (Gs.map Prod.fst))) := HT1.out.but hb2 (fun g hg e => by
          have h9 := (HT1.out.lt g hg).1
          rcases e with e | e
          · have := HPL.out; omega
          · have := HVL.out _ e; omega)
        have oi : Own layN 3 w2 w1.heap.size (.slice ia NO ic) (O.map fun o => o.2.stack) := HI1.out.but hb2 (fun g hg e => by
          have h9 := (HI1.out.lt g hg).1
          rcases e with e | e
          · have := HPL.out; omega
          · have := HVL.out _ e; omega)
        have bw2 : Below w.heap.size w w2 := HBw.out.trans (hb2.below HBw.out.size (fun q hq => by
          rcases hq with e | e
          · rw [e]; exact HM.out.ge
          · exact (HM.out.ats.lt q e).1))
        have hR2 : Run (Gs.map Prod.snd) (O ++ [(k, x)]) (leftR Gs (As.set k (m + 1))) (nx + 1) := by
          rw [leftR_set h1 h2]
          exact Run.snoc HRun.out h3 h4
        have eg : evV (Gs.map Prod.fst) (k, x) = ⟨G.1, x.kind, x.obj, x.arg, ⟨none, 0, 0⟩⟩ := by
          unfold evV
          rw [List.getD_eq_getElem?_getD, List.getElem?_map, h1]; rfl
        have hNO2 : NO + 1 ≤ 1048576 := by
          have h9 := hR2.tot
          rw [List.length_append, List.length_singleton, HNO.out] at h9
          have := HT.out; omega
        have HS2 : Hid (w1.heap.size ≤ w2.heap.size) := hide (Nat.le_trans HSw.out hb2.size)
        have HOT : Hid _ := hide ot
        have HOI : Hid _ := hide oi
        have HW2 : Hid _ := hide bw2
        have HR2 : Hid _ := hide hR2
        have HEG : Hid _ := hide eg
        have HM2 : Hid _ := hide hM2
        have HN2 : Hid _ := hide hNO2
        clear ot oi bw2 hR2 eg hNO2 hM2 hb2 h1 h2 h3 h4
        obtain ⟨w3, hw3⟩ : ∃ w3, w3 = w2.alloc (.cells #[.int .i64 G.1, .int .i64 x.kind, .int .u64 x.obj, .int .u64 x.arg, .slice none 0 0] 46) := ⟨_, rfl⟩
        have b3 : Below w2.heap.size w2 w3 := by rw [hw3]; exact below_alloc1 _ _
        have r3 : w3.heap[w2.heap.size]? = some (.cells #[.int .i64 G.1, .int .i64 x.kind, .int .u64 x.obj, .int .u64 x.arg, .slice none 0 0] 46 (0, 0)) := by rw [hw3]; exact heap_new _ _
        have e0 : w3.cell? ⟨w2.heap.size, 0, none⟩ = some (.int .i64 G.1) := cell_at r3 rfl
        have e1 : w3.cell? ⟨w2.heap.size, 1, none⟩ = some (.int .i64 x.kind) := cell_at r3 rfl
        have e2 : w3.cell? ⟨w2.heap.size, 2, none⟩ = some (.int .u64 x.obj) := cell_at r3 rfl
        have e3 : w3.cell? ⟨w2.heap.size, 3, none⟩ = some (.int .u64 x.arg) := cell_at r3 rfl
        have e4 : w3.cell? ⟨w2.heap.size, 4, none⟩ = some (.slice none 0 0) := cell_at r3 rfl
        have HB3 : Hid _ := hide b3
        have HW3 : Hid _ := hide hw3
        clear hw3 r3 b3
        go_upto_region 11 with fail
        rw [← HW3.out]
        go_upto_region 12 with (
          at_builtin
          refine append_lay layV _ 51 46 i0 _ 56 Try.underlying51 hi0 hz0 hz1 hz2 rfl rfl (.tmp 33) (.tmp 35) rfl w1.heap.size (.slice ta NO tc) (O.map (evV (Gs.map Prod.fst))) rfl ((HOT.out.below HB3.out).below (below_alloc1 _ _)) _ _ _ [(⟨G.1, x.kind, x.obj, x.arg, ⟨none, 0, 0⟩⟩ : Vt)] rfl (TRow.one (heap_new _ _)) (fun e => by cases e) (by rw [List.length_map, HNO.out]; unfold maxLen; omega) (by rw [List.length_map, HNO.out]; have := HN2.out; omega) (by have := HS2.out; have := HB3.out.size; simp; omega) ?_
          intro v4 w4 o4 g4 l4
          have q4 : But (fun q => (Value.slice ta NO tc).ownBlock = some q) w2 w4 := (But.of_below (S := fun q => (Value.slice ta NO tc).ownBlock = some q) (HB3.out.trans ((below_alloc1 w3 _).mono HB3.out.size))).trans (But.of_grown (S := fun q => (Value.slice ta NO tc).ownBlock = some q) g4 (fun k hk => hk)) (fun _ _ e => e)
          have HQ4 : Hid _ := hide q4
          have HO4 : Hid _ := hide o4
          clear o4 g4 l4 q4 e0 e1 e2 e3 e4)
        obtain ⟨ta4, tc4, hv4, -, -⟩ := own_form HO4.out
        rw [List.length_append, List.length_map, HNO.out, List.length_singleton] at hv4
        subst hv4
        have hvt : (Value.slice ta NO tc).ownBlock = none ∨ True := .inr trivial
        have oi4 : Own layN 3 w4 w1.heap.size (.slice ia NO ic) (O.map fun o => o.2.stack) := HOI.out.but HQ4.out (fun g hg e => by
          obtain ⟨c1', h1'⟩ := own_ty HOI.out hg
          obtain ⟨c2', h2'⟩ := own_ty HOT.out e
          rw [h1'] at h2'; cases h2')
        have M4 := HM2.out.but2 HQ4.out (fun q hq e => by have := HVL.out q hq; have := (HOT.out.lt q e).1; omega) (fun q hq cur T h1 => by
          obtain ⟨c2', h2'⟩ := own_ty HOT.out hq
          rw [h1] at h2'
          cases h2'
          decide)
        have HOI4 : Hid _ := hide oi4
        have HM4 : Hid _ := hide M4
        have HS4 : Hid (w1.heap.size ≤ w4.heap.size) := hide (Nat.le_trans HS2.out HQ4.out.size)
        have HW4 : Hid (Below w.heap.size w w4) := hide (HW2.out.trans (HQ4.out.below HW2.out.size (fun q hq => Nat.le_trans HB1.out.size (HOT.out.lt q hq).1)))
        clear oi4 M4 hvt
        go_wp2_with (
          at_builtin
          refine append_lay layN _ 23 3 i1 _ 8 Try.underlying23 hi1 hy0 hy1 hy2 rfl rfl (.tmp 37) (.tmp 39) rfl w1.heap.size (.slice ia NO ic) (O.map fun o => o.2.stack) rfl (HOI4.out.below (below_alloc1 _ _)) _ _ _ [x.stack] rfl (TRow.one (heap_new _ _)) (fun e => by cases e) (by rw [List.length_map, HNO.out]; unfold maxLen; omega) (by rw [List.length_map, HNO.out]; have := HN2.out; omega) (by have := HS4.out; simp; omega) ?_
          intro v5 w5 o5 g5 l5
          have q5 : But (fun q => (Value.slice ia NO ic).ownBlock = some q) w4 w5 := (But.of_below (S := fun q => (Value.slice ia NO ic).ownBlock = some q) (below_alloc1 w4 _)).trans (But.of_grown (S := fun q => (Value.slice ia NO ic).ownBlock = some q) g5 (fun k hk => hk)) (fun _ _ e => e)
          have HQ5 : Hid _ := hide q5
          obtain ⟨ia5, ic5, hv5, -, -⟩ := own_form o5
          have HO5 : Hid _ := hide o5
          rw [List.length_append, List.length_map, HNO.out, List.length_singleton] at hv5
          subst hv5
          clear o5 g5 l5 q5)
        refine ⟨⟨ta4, ia5, NO + 1, tc4, ic5, O ++ [(k, x)], _, _, rfl, rfl, hide (by rw [List.length_append, HNO.out]; rfl), HR2, hide ?_, hide ?_, hide ?_, hide ?_, hide (Nat.le_trans HS4.out HQ5.out.size)⟩, by simp [lenV]; have := HN2.out; omega⟩
        · exact HM4.out.but2 HQ5.out (fun q hq e => by have := HVL.out q hq; have := (HOI4.out.lt q e).1; omega) (fun q hq cur T h1 => by
            obtain ⟨c2', h2'⟩ := own_ty HOI4.out hq
            rw [h1] at h2'
            cases h2'
            decide)
        · rw [List.map_append, List.map_singleton, HEG.out]
          exact HO4.out.but HQ5.out (fun g hg e => by
            obtain ⟨c1', h1'⟩ := own_ty HO4.out hg
            obtain ⟨c2', h2'⟩ := own_ty HOI4.out e
            rw [h1'] at h2'; cases h2')
        · rw [List.map_append]; exact HO5.out
        · exact HW4.out.trans (HQ5.out.below HW4.out.size (fun q hq => Nat.le_trans HB1.out.size (HOI4.out.lt q hq).1))
      · clear NX
        have HFL : Hid _ := hide hfl
        have HF0 : Hid _ := hide hf0
        have HB2 : Hid _ := hide b2
        clear hf0 hfl b2
        have HBA : Hid (∀ o, Below wr.heap.size wr (w2.alloc o)) := hide (fun o => HB2.out.alloc HB2.out.size o)
        by_cases h90 : f = 90
        · subst h90
          go_wp2_with fail
          refine bodyPost_ret (results_ttt Try.results20 _ _ _ _ _ rfl rfl rfl) rfl ?_
          refine ⟨_, _, 0, O, rfl, .inr ⟨HF.out, O, _, _, 90, HRun.out, HFL.out, by decide, .inr ⟨rfl, rfl, rfl⟩⟩, ?_, ?_, HBw.out.trans ((HBA.out _).mono HBw.out.size)⟩
          · rw [← evV_evs]; exact (HT1.out.below (HBA.out _)).mono HB1.out.size
          · rw [← stk_evs]; exact (HI1.out.below (HBA.out _)).mono HB1.out.size
        · have e1 : (f == 90) = false := by simp [h90]
          have e2 : (f != 0) = true := by simp [HF0.out]
          have H90 : Hid _ := hide h90
          clear h90
          go_wp2_with fail
          refine bodyPost_ret (results_ttt Try.results20 _ _ _ _ _ rfl rfl rfl) rfl ?_
          exact ⟨_, _, f, [], rfl, .inr ⟨HF.out, O, _, _, f, HRun.out, HFL.out, HF0.out, .inl ⟨H90.out, rfl, rfl⟩⟩, Own.nil _ _ _ _, Own.nil _ _ _ _, HBw.out.trans ((HBA.out _).mono HBw.out.size)⟩
end Go.Proofs.Ytdlpffbeladgaaa
