/-
  MergeSplits: the walk.
-/
import Derived.Test.YtdlpffbeladgaaaSpC
namespace Go.Proofs.Ytdlpffbeladgaaa
open Go.RowKit
theorem Rowz.form {w : World} {base : Nat} {v : Value} {rws : List Rw} {Gs : List (Int × List Rc)} (h : Rowz w base v rws Gs) : ∃ a c, v = .slice a Gs.length c ∧ (a = none → Gs.length = 0 ∧ c = 0) := by
  obtain ⟨a, c, hv, h0, _⟩ := own_form h.own
  rw [h.len] at hv h0
  exact ⟨a, c, hv, h0⟩
set_option maxRecDepth 8000 in
set_option maxHeartbeats 12800000 in
theorem mergeSplits (w : World) (a b : Option Addr) (n c m d : Nat) (es : List Vt) (is : List Int) (hr : TRow layV w a n es) (h0 : a = none → n = 0 ∧ c = 0) (hS : ∀ e ∈ es, Stk w e) (hn : n * 56 ≤ 140737488355328)
    (hi : TRow layN w b m is) (hb0 : b = none → m = 0 ∧ d = 0) (hm : m * 8 ≤ 140737488355328) :
    Calls Try.prog 6 #[.slice a n c, .slice b m d] w fun r w' => r = .returned (.bool true) ∧ Below w.heap.size w w' := by
  obtain ⟨i1, hi1, hy0, hy1, hy2⟩ := info_parts Try.infoN
  have hnI : (n : Int) ≤ 2600000000000 := by omega
  have hmI : (m : Int) ≤ 17592186044416 := by omega
  have TW := twin_any w a n c es hr h0 hS hn
  have HR : Hid _ := hide hr
  have HL : Hid _ := hide hr.len
  have HI : Hid _ := hide hi
  have HI0 : Hid _ := hide hb0
  clear hr h0 hS hi hb0
  go_enter Try.func6, Try.ntmps6
  go_wp2_with fail
  refine TW.mono ?_
  rintro r w1 ⟨v1, fs, rfl, o1, HTw, b1⟩
  clear TW
  obtain ⟨a1, c1, hv1, -, -⟩ := own_form o1
  rw [HTw.len, HL.out] at hv1
  subst hv1
  have HT : Hid _ := hide HTw
  have HO1 : Hid _ := hide o1
  have HB1 : Hid _ := hide b1
  have hs1 := b1.size
  clear HTw o1 b1
  go_upto_region 4 with (at_builtin; refine append_lay layN _ 23 3 i1 _ 8 Try.underlying23 hi1 hy0 hy1 hy2 rfl rfl (.tmp 15) (.tmp 16) rfl w.heap.size (.slice none 0 0) [] rfl (Own.nil layN 3 w1 w.heap.size) _ _ _ is rfl (HI.out.below HB1.out) HI0.out (by simp [maxLen]; omega) (by simp; omega) hs1 ?_; intro v2 w2 o2 g2 l2)
  rw [List.nil_append] at o2
  obtain ⟨a2, c2, hv2, -, -⟩ := own_form o2
  rw [HI.out.len] at hv2
  subst hv2
  have b2 : Below w1.heap.size w1 w2 := (Below.refl _ _).grown g2 (Nat.le_refl _) (fun q hq => by have hq9 : (Value.slice none 0 0).ownBlock = some q := hq; cases hq9)
  have HO2 : Hid (Own layN 3 w2 w.heap.size (.slice a2 m c2) is) := hide o2
  have HF2 : Hid (Own layV 46 w2 w.heap.size (.slice a1 n c1) fs) := hide (HO1.out.below b2)
  have HB2 : Hid (Below w.heap.size w w2) := hide (HB1.out.trans (b2.mono hs1))
  have hfl : fs.length = n := by rw [HT.out.len, HL.out]
  have SP := split_any w2 a1 a2 n c1 m c2 fs is (HF2.out.row hfl) (HO2.out.row HI.out.len) (by omega) (by omega)
  have HFL : Hid _ := hide hfl
  clear o2 g2 l2 b2 hfl
  go_wp2_with fail
  refine SP.mono ?_
  rintro r w3 ⟨v3, rws, err, Gs, rfl, hspl, hz3, b3⟩
  clear SP
  obtain ⟨a3, c3, rfl, -⟩ := hz3.form
  have HSP : Hid (Spl es is err Gs) := hide (hspl.twn HT.out)
  have HZ3 : Hid _ := hide hz3
  have HB3 : Hid (Below w.heap.size w w3) := hide (HB2.out.trans (b3.mono HB2.out.size))
  have HF3 : Hid (Own layV 46 w3 w.heap.size (.slice a1 n c1) fs) := hide (HF2.out.below b3)
  have HO3 : Hid (Own layN 3 w3 w.heap.size (.slice a2 m c2) is) := hide (HO2.out.below b3)
  have RS := rsplit_any w3 a b n c m d es is (HR.out.below HB3.out) (HI.out.below HB3.out) (by omega) (by omega)
  obtain ⟨N, hN⟩ : ∃ N, N = Gs.length := ⟨_, rfl⟩
  have HN : Hid _ := hide hN
  rw [← hN]
  clear hspl hz3 b3 hN
  go_wp2_with fail
  refine RS.mono ?_
  rintro r w4 ⟨v4, rws4, err4, Gs4, rfl, hspl, hz4, b4⟩
  clear RS
  obtain ⟨e1, e2⟩ := HSP.out.uniq hspl
  subst e1; subst e2
  obtain ⟨a4, c4, rfl, -⟩ := hz4.form
  rw [← HN.out]
  have hrN : rws.length = N := by rw [HZ3.out.len, HN.out]
  have hrN4 : rws4.length = N := by rw [hz4.len, HN.out]
  have hNl := HSP.out.len.1
  rw [← HN.out] at hNl
  have SR := sameRw a3 a4 N c3 c4 rws rws4 Gs w4 (by
      have h9 := (HZ3.out.below b4)
      rw [← HN.out] at h9
      exact h9.reads hrN) (by
      have h9 := hz4
      rw [← HN.out] at h9
      exact h9.reads hrN4) (by omega) (fun G hG => by have := HSP.out.len.2 G hG; omega)
  have HB4 : Hid (Below w.heap.size w w4) := hide (HB3.out.trans (b4.mono HB3.out.size))
  have HF4 : Hid (Own layV 46 w4 w.heap.size (.slice a1 n c1) fs) := hide (HF3.out.below b4)
  have HO4 : Hid (Own layN 3 w4 w.heap.size (.slice a2 m c2) is) := hide (HO3.out.below b4)
  clear hspl hz4 b4 hrN hrN4
  have heq : (err == err) = true := by simp
  go_wp2_with fail
  refine SR.mono ?_
  rintro r w5 ⟨rfl, b5⟩
  clear SR
  have SN := sameN a2 b m c2 d is w5 ((HO4.out.below b5).row HI.out.len) ((HI.out.below HB4.out).below b5) (by omega)
  have HB5 : Hid (Below w.heap.size w w5) := hide (HB4.out.trans (b5.mono HB4.out.size))
  have HF5 : Hid (Own layV 46 w5 w.heap.size (.slice a1 n c1) fs) := hide (HF4.out.below b5)
  clear b5
  go_wp2_with fail
  refine SN.mono ?_
  rintro r w6 ⟨rfl, b6⟩
  clear SN
  have HB6 : Hid (Below w.heap.size w w6) := hide (HB5.out.trans (b6.mono HB5.out.size))
  have HF6 : Hid (Own layV 46 w6 w.heap.size (.slice a1 n c1) fs) := hide (HF5.out.below b6)
  clear b6
  go_wp2_with fail
  go_loopw [11] (fun i wr => ∃ k : Nat, i = .int .i64 k ∧ k ≤ n ∧ Hid (Below w6.heap.size w6 wr)) (fun i _ => n - numV i)
  case atStart => exact ⟨0, rfl, Nat.zero_le _, hide (Below.refl _ _)⟩
  case round =>
    obtain ⟨k, rfl, hk, HBr⟩ := hrel
    by_cases hlt : k < n
    · have hltI : (k : Int) < (n : Int) := by omega
      obtain ⟨e, he⟩ : ∃ e, es[k]? = some e := ⟨_, List.getElem?_eq_getElem (by rw [HL.out]; exact hlt)⟩
      obtain ⟨f, hf⟩ : ∃ e, fs[k]? = some e := ⟨_, List.getElem?_eq_getElem (by rw [HFL.out]; exact hlt)⟩
      have ht := HT.out.each k e f he hf
      have HB7 : Hid (Below w.heap.size w wr) := hide (HB6.out.trans (HBr.out.mono HB6.out.size))
      obtain ⟨b1, o1, rfl, hb1, hc1⟩ := (HR.out.below HB7.out).at (by omega)
      obtain ⟨b2, o2, rfl, hb2, hc2⟩ := ((HF6.out.row HFL.out).below HBr.out).at (by omega)
      obtain ⟨eg, ek, eo, ea, sa, sn, sc⟩ := e
      obtain ⟨fg, fk, fo, fa, ta, tn, tc⟩ := f
      obtain ⟨t1, t2, t3, t4, t5⟩ := ht
      dsimp only at t1 t2 t3 t4 t5
      subst t1; subst t2; subst t3; subst t4; subst t5
      have x0 := hc1 k _ he 0 _ rfl
      have x1 := hc1 k _ he 1 _ rfl
      have x2 := hc1 k _ he 2 _ rfl
      have x3 := hc1 k _ he 3 _ rfl
      have x4 := hc1 k _ he 4 _ rfl
      have y0 := hc2 k _ hf 0 _ rfl
      have y1 := hc2 k _ hf 1 _ rfl
      have y2 := hc2 k _ hf 2 _ rfl
      have y3 := hc2 k _ hf 3 _ rfl
      have y4 := hc2 k _ hf 4 _ rfl
      simp only [layV, Nat.add_zero] at x0 x1 x2 x3 x4 y0 y1 y2 y3 y4
      obtain ⟨w7, hw7⟩ : ∃ w7, w7 = wr.alloc (.cells #[.int .i64 fg, .int .i64 fk, .int .u64 fo, .int .u64 fa, .slice ta tn tc] 46) := ⟨_, rfl⟩
      have b7 : Below wr.heap.size wr w7 := by rw [hw7]; exact below_alloc1 _ _
      have s7 : wr.heap.size < w7.heap.size := by rw [hw7]; simp
      have r7 : w7.heap[wr.heap.size]? = some (.cells #[.int .i64 fg, .int .i64 fk, .int .u64 fo, .int .u64 fa, .slice ta tn tc] 46 (0, 0)) := by rw [hw7]; exact heap_new _ _
      have z4 : w7.cell? ⟨wr.heap.size, 4, none⟩ = some (.slice ta tn tc) := cell_at r7 rfl
      have HX : Hid (∀ X, Below wr.heap.size wr X → X.cell? ⟨b1, o1 + k * 5, none⟩ = some (.int .i64 fg) ∧ X.cell? ⟨b1, o1 + k * 5 + 1, none⟩ = some (.int .i64 fk) ∧ X.cell? ⟨b1, o1 + k * 5 + 2, none⟩ = some (.int .u64 fo) ∧ X.cell? ⟨b1, o1 + k * 5 + 3, none⟩ = some (.int .u64 fa) ∧ X.cell? ⟨b1, o1 + k * 5 + 4, none⟩ = some (.slice sa tn sc)) := hide (fun X hX =>
        ⟨(hX.cell (p := ⟨b1, o1 + k * 5, none⟩) hb1).trans x0, (hX.cell (p := ⟨b1, o1 + k * 5 + 1, none⟩) hb1).trans x1, (hX.cell (p := ⟨b1, o1 + k * 5 + 2, none⟩) hb1).trans x2, (hX.cell (p := ⟨b1, o1 + k * 5 + 3, none⟩) hb1).trans x3, (hX.cell (p := ⟨b1, o1 + k * 5 + 4, none⟩) hb1).trans x4⟩)
      have u4 := (HX.out _ b7).2.2.2.2
      have HB7r : Hid _ := hide b7
      have HR7 : Hid _ := hide r7
      have HW7 : Hid _ := hide hw7
      clear hc1 hc2 he hf hw7 r7 b7 x0 x1 x2 x3 x4
      go_wp2_with fail
      rw [← HW7.out]
      go_quiet (fail)
      go_upto_region 14 with fail
      generalize hwd : w7.drewN _ = w8
      have b8 : Below w7.heap.size w7 w8 := by rw [← hwd]; exact below_drewN (Below.refl _ _) _
      have r8 := (b8.block wr.heap.size s7).trans HR7.out
      have fz := frz r8 4
      have y48 : w8.cell? ⟨wr.heap.size, 4, none⟩ = some (.slice ta tn tc) := cell_at r8 rfl
      obtain ⟨w9, hw9⟩ : ∃ w9, w9 = w8.setCell ⟨wr.heap.size, 4, none⟩ (.slice none 0 0) := ⟨_, rfl⟩
      have r9 : w9.heap[wr.heap.size]? = some (.cells #[.int .i64 fg, .int .i64 fk, .int .u64 fo, .int .u64 fa, .slice none 0 0] 46 (0, 0)) := by rw [hw9]; exact set1_heap _ r8
      have b9 : Below wr.heap.size wr w9 := by rw [hw9]; exact (HB7r.out.trans (b8.mono (Nat.le_of_lt s7))).setCell (p := ⟨wr.heap.size, 4, none⟩) (Nat.le_refl _) _
      have s9 : wr.heap.size < w9.heap.size := (Array.getElem?_eq_some_iff.1 r9).1
      have HS : Hid (∀ X, Below w9.heap.size w9 X → (X.cell? ⟨wr.heap.size, 0, none⟩ = some (.int .i64 fg) ∧ X.cell? ⟨wr.heap.size, 1, none⟩ = some (.int .i64 fk) ∧ X.cell? ⟨wr.heap.size, 2, none⟩ = some (.int .u64 fo) ∧ X.cell? ⟨wr.heap.size, 3, none⟩ = some (.int .u64 fa) ∧ X.cell? ⟨wr.heap.size, 4, none⟩ = some (.slice none 0 0)) ∧ X.cell? ⟨b1, o1 + k * 5, none⟩ = some (.int .i64 fg) ∧ X.cell? ⟨b1, o1 + k * 5 + 1, none⟩ = some (.int .i64 fk) ∧ X.cell? ⟨b1, o1 + k * 5 + 2, none⟩ = some (.int .u64 fo) ∧ X.cell? ⟨b1, o1 + k * 5 + 3, none⟩ = some (.int .u64 fa) ∧ X.cell? ⟨b1, o1 + k * 5 + 4, none⟩ = some (.slice sa tn sc)) := hide (fun X hX => by
        have r10 := (hX.block wr.heap.size s9).trans r9
        exact ⟨⟨cell_at r10 rfl, cell_at r10 rfl, cell_at r10 rfl, cell_at r10 rfl, cell_at r10 rfl⟩, HX.out X (b9.trans (hX.mono (Nat.le_of_lt s9)))⟩)
      have HW9 : Hid _ := hide hw9
      have HB9 : Hid _ := hide b9
      have BA := fun W => bare_any ⟨fg, fk, fo, fa, ⟨none, 0, 0⟩⟩ ⟨fg, fk, fo, fa, ⟨sa, tn, sc⟩⟩ W ⟨rfl, rfl, rfl, rfl, rfl⟩
      have HZ := HS.out _ (Below.refl _ _)
      obtain ⟨⟨p0, p1, p2, p3, p4⟩, q0, q1, q2, q3, q4⟩ := HZ
      clear hwd b8 r8 hw9 r9 b9 y0 y1 y2 y3 y4 z4 u4
      go_wp2_with fail
      rw [← HW9.out]
      go_region_held3 (fun X => (X.cell? ⟨wr.heap.size, 0, none⟩ = some (.int .i64 fg) ∧ X.cell? ⟨wr.heap.size, 1, none⟩ = some (.int .i64 fk) ∧ X.cell? ⟨wr.heap.size, 2, none⟩ = some (.int .u64 fo) ∧ X.cell? ⟨wr.heap.size, 3, none⟩ = some (.int .u64 fa) ∧ X.cell? ⟨wr.heap.size, 4, none⟩ = some (.slice none 0 0)) ∧ X.cell? ⟨b1, o1 + k * 5, none⟩ = some (.int .i64 fg) ∧ X.cell? ⟨b1, o1 + k * 5 + 1, none⟩ = some (.int .i64 fk) ∧ X.cell? ⟨b1, o1 + k * 5 + 2, none⟩ = some (.int .u64 fo) ∧ X.cell? ⟨b1, o1 + k * 5 + 3, none⟩ = some (.int .u64 fa) ∧ X.cell? ⟨b1, o1 + k * 5 + 4, none⟩ = some (.slice sa tn sc)) (first | exact HS.out _ hB2 | exact HS.out _ (Below.refl _ _) | exact HS.out _ (below_drewN (Below.refl _ _) _) | exact HS.out _ (Below.refl _ _).drew) (first
        | (go_at_call 18; go_must (
           refine (BA _).mono ?_
           rintro e1 W1 ⟨rfl, hB1⟩
           have hB2 : Below w9.heap.size w9 W1 := (Below.refl _ _).drew.trans hB1)))
      have HBE : Hid (Below w6.heap.size w6 W1) := hide (HBr.out.trans ((HB9.out.trans (hB2.mono (Nat.le_of_lt s9))).mono HBr.out.size))
      clear hB1 hB2 p0 p1 p2 p3 p4 q0 q1 q2 q3 q4 BA fz y48
      go_wp2
      exact ⟨⟨k + 1, by go_num, by omega, HBE⟩, by simp [numV]; omega⟩
    · have hltI : ¬ (k : Int) < (n : Int) := by omega
      go_wp2
      go_ret
      exact ⟨rfl, HB6.out.trans (HBr.out.mono HB6.out.size)⟩
end Go.Proofs.Ytdlpffbeladgaaa
