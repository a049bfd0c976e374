/-
  Window.
-/
import Derived.Test.YtkjmmcpjdjjmlaaDoorRgM
namespace Go.Proofs.YtkjmmcpjdjjmlaaDoor
open Go.RowKit Go.Maps Go.Shelf
attribute [local go_sem] Oper.semAt_some
set_option maxRecDepth 100000 in
set_option maxHeartbeats 4000000 in
theorem window_any {w : World} {rb b size : Nat} {es : List Ev} {T : List Ab} (h : Rg w rb b size es T) (hg : ∀ x ∈ T, 0 ≤ x.g ∧ x.g < 65536) (n : Int) :
    Calls Tryd.prog 8 #[.pointer (some ⟨rb, 0, .none⟩), .int .i64 n] w fun e w' => ∃ v es', e = .returned v ∧ Evs w' w.heap.size v es' ∧ es'.map Ev.ab = win n (T.drop (T.length - size)) ∧ Below w.heap.size w w' := by
  have HG : Hid (∀ x ∈ T.drop (T.length - size), 0 ≤ x.g ∧ x.g < 65536) := hide (fun x hx => hg x (List.mem_of_mem_drop hx))
  have HHe := hide (fun W (hW : Below w.heap.size w W) => held_any (h.below hW))
  have hl : ((T.drop (T.length - size)).length : Int) ≤ 65536 := by have := h.big; rw [List.length_drop]; omega
  generalize T.drop (T.length - size) = A at HG HHe hl ⊢
  clear h hg
  refine (callsIn_wide (n := 3)).1 ?_
  refine callsIn_of_wp_marks Tryd.func8 rfl trivial ?_ rfl
  simp only [Tryd.ntmps8, List.size_toArray, List.length_cons, List.length_nil, Nat.reduceAdd, Nat.reduceSub, Array.replicate_succ, Array.replicate_zero, List.push_toArray, List.append_toArray, List.nil_append, List.cons_append]
  have hmm := @run_makeMap Tryd.prog
  obtain ⟨W0, hW0⟩ : ∃ W0, W0 = ((((w.alloc (.cells #[.int .i64 n] 3)).alloc (.cells #[.slice .none 0 0] 22)).alloc (.map #[] 0)).alloc (.cells #[.map (some (w.heap.size + 1 + 1))] 43)) := ⟨_, rfl⟩
  have b0 : Below w.heap.size w W0 := by rw [hW0]; exact ((((Below.refl w.heap.size w).alloc (Nat.le_refl _) _).alloc (by simp) _).alloc (by simp; omega) _).alloc (by simp; omega) _
  have g0 : W0.heap[w.heap.size]? = some (.cells #[.int .i64 n] 3 (0, 0)) := by
    rw [hW0]; exact (Below.heap_alloc _ _ _ (by simp; omega)).trans ((Below.heap_alloc _ _ _ (by simp; omega)).trans ((Below.heap_alloc _ _ _ (by simp)).trans (heap_new _ _)))
  have g1 : W0.heap[w.heap.size + 1]? = some (.cells #[.slice .none 0 0] 22 (0, 0)) := by
    rw [hW0]; exact (Below.heap_alloc _ _ _ (by simp)).trans ((Below.heap_alloc _ _ _ (by simp)).trans (heap_newS (by simp)))
  have g2 : W0.ownsMap Tryd.prog 3 (plainElem (H := Unit) Tryd.prog 3) (w.heap.size + 1 + 1) 0 (.map []) := by
    have h9 := World.ownsMap_made ((w.alloc (.cells #[.int .i64 n] 3)).alloc (.cells #[.slice .none 0 0] 22)) Tryd.prog 3 (plainElem (H := Unit) Tryd.prog 3)
    rw [World.size_alloc, World.size_alloc] at h9
    rw [hW0]
    exact map_but (S := fun _ => False) h9 ((But.refl _ _).alloc _) (fun e => e)
  have g3 : W0.heap[w.heap.size + 1 + 1 + 1]? = some (.cells #[.map (some (w.heap.size + 1 + 1))] 43 (0, 0)) := by rw [hW0]; exact heap_newS (by simp)
  have s0 : W0.heap.size = w.heap.size + 4 := by rw [hW0]; simp
  have HH := hide (HHe.out W0 b0)
  have HB0 := hide b0
  have G0 := hide g0
  have G1 := hide g1
  have G2 := hide g2
  have G3 := hide g3
  have S0 := hide s0
  clear HHe b0 g0 g1 g2 g3 s0
  gi_wp2_with fail
  rw [← hW0]
  clear hW0
  refine ⟨trivial, CallsIn.mono (callsIn_wide.2 HH.out) ?_⟩
  rintro e w2 ⟨v, es0, rfl, hE2, hm2, hb2⟩
  obtain ⟨a, c, hv, h0, hc⟩ := hE2.form
  obtain ⟨len, hlen⟩ : ∃ len, len = es0.length := ⟨_, rfl⟩
  rw [← hlen] at hv h0 hc
  subst hv
  have hlA : A.length = len := by rw [hlen, ← hm2, List.length_map]
  have hlI : (len : Int) ≤ 65536 := by rw [← hlA]; exact hl
  have HE2 := hide hE2
  have HM2 := hide hm2
  have HB2 := hide hb2
  have HLn := hide hlen
  have HLA := hide hlA
  clear hE2 hm2 hb2 h0 hc hlen hlA hl HH
  gi_wp2_with fail
  refine ⟨trivial, CallsIn.mono (backE_in _ _ _ _ _) ?_⟩
  rintro e w3 ⟨rfl, hw3⟩
  have b3 : Below w2.heap.size w2 w3 := by rw [hw3]; exact below_new _ _
  have c3 : w3.cell? ⟨w2.heap.size, 0, .none⟩ = some (.slice a len c) := by rw [hw3]; exact cell_at (heap_new _ _) rfl
  have s3 : w3.heap.size = w2.heap.size + 1 := by rw [hw3]; simp
  have b03 : Below W0.heap.size W0 w3 := Below.on HB2.out b3
  have k0 : w3.heap[w.heap.size]? = some (.cells #[.int .i64 n] 3 (0, 0)) := (b03.block _ (Array.getElem?_eq_some_iff.1 G0.out).1).trans G0.out
  have k1 : w3.heap[w.heap.size + 1]? = some (.cells #[.slice .none 0 0] 22 (0, 0)) := (b03.block _ (Array.getElem?_eq_some_iff.1 G1.out).1).trans G1.out
  have k2 : w3.ownsMap Tryd.prog 3 (plainElem (H := Unit) Tryd.prog 3) (w.heap.size + 1 + 1) 0 (.map []) := map_but (S := fun _ => False) G2.out (But.of_below b03) (fun e => e)
  have k3 : w3.heap[w.heap.size + 1 + 1 + 1]? = some (.cells #[.map (some (w.heap.size + 1 + 1))] 43 (0, 0)) := (b03.block _ (Array.getElem?_eq_some_iff.1 G3.out).1).trans G3.out
  have s23 : w.heap.size + 4 ≤ w2.heap.size := by have h9 := HB2.out.size; rw [S0.out] at h9; exact h9
  have K0 := hide k0
  have K1 := hide k1
  have K2 := hide k2
  have K3 := hide k3
  have C3 := hide c3
  have B3 := hide (Below.on HB0.out b03)
  have HE3 := hide (HE2.out.below b3)
  have S3 := hide (And.intro s3 s23)
  have HNS : Hid (NoStr w3 (fun q => q = w.heap.size + 1 ∨ q = w.heap.size + 1 + 1)) := hide (fun q cur fr hq hc => by
    rcases hq with rfl | rfl
    · rw [k1] at hc; simp at hc
    · obtain ⟨es9, cl, hh, _⟩ := k2
      rw [hh] at hc; simp at hc)
  clear hw3 b3 c3 s3 b03 k0 k1 k2 k3 s23 HE2 G0 G1 G2 G3
  gi_wp2_with fail
  refine range_alloc (n := 3) (by omega) (gf := 27) (lb := #[.pointer (some ⟨w2.heap.size, 0, .none⟩)]) rfl (enters_of Tryd.func27 (by kernel_rfl) rfl)
    (fun k => #[.int .i64 ((len - 1 - k : Nat) : Int), evV5 (es0.getD (len - 1 - k) Ev.none)]) len (fun _ => rfl)
    (fun k W => Wn w3 (w.heap.size + 1) (w.heap.size + 1 + 1) n A k W) ?hI ?h0 ?hseq
    (fun k p => { tmps := #[Value.pointer (some ⟨rb, 0, .none⟩), Value.int .i64 n, undef, Value.pointer (some ⟨w.heap.size, 0, .none⟩), Value.slice .none 0 0, Value.pointer (some ⟨w.heap.size + 1, 0, .none⟩), Value.pointer (some ⟨w.heap.size + 1 + 1 + 1, 0, .none⟩), undef, Value.pointer (some ⟨p, 0, .none⟩),
      Value.map (some (w.heap.size + 1 + 1)), Value.pointer (some ⟨rb, 0, .none⟩), Value.slice a len c, Value.func (Fn.func 27) #[] #[Value.pointer (some ⟨w2.heap.size, 0, .none⟩)], .int .i64 ((len - 1 - k : Nat) : Int), evV5 (es0.getD (len - 1 - k) Ev.none), undef, undef, undef, undef, undef, undef, undef, undef, undef, undef, undef, undef, undef, undef, undef, undef, undef, undef, undef], defers := [] })
    (fun k => .cells #[.int .i64 (es0.getD (len - 1 - k) Ev.none).g, .int .i64 (es0.getD (len - 1 - k) Ev.none).k, .int .u64 (es0.getD (len - 1 - k) Ev.none).o, .int .u64 (es0.getD (len - 1 - k) Ev.none).a, .slice (es0.getD (len - 1 - k) Ev.none).sa (es0.getD (len - 1 - k) Ev.none).ls.length (es0.getD (len - 1 - k) Ev.none).sc] 32 (0, 0)) ?assign ?body ?done
  case hI =>
    intro k W o o' h hl
    exact h.put (by have := S3.out; omega) (by have := S3.out; omega) (by omega) (by omega) hl (fun _ _ e => by cases e)
  case h0 =>
    intro o
    have h9 : Wn w3 (w.heap.size + 1) (w.heap.size + 1 + 1) n A 0 w3 := ⟨But.refl _ _, ⟨_, [], K1.out, Evs.nil _ _, by rw [Nat.sub_zero, List.drop_length]; rfl⟩, ⟨0, _, K2.out, Nat.le_refl _, by rw [Nat.sub_zero, List.drop_length]; exact Cn.nil⟩⟩
    exact h9.below (below_alloc2 _ _ _)
  case hseq =>
    intro l J W hJI hY h0
    refine backE1_in 2 (by omega) l w2.heap.size len c a es0 hlI HLn.out.symm J ?_ hY W h0
    intro k W1 hj
    have h := hJI k W1 hj
    have hs := S3.out
    refine ⟨cell_but C3.out h.but (by rintro (e | e) <;> (simp only at e; omega)), TRow.but (HE3.out.own.row HLn.out.symm) h.but ?_⟩
    intro b1 off hpos he
    have hb1 := (HE3.out.own.lt b1 (by
      obtain ⟨g, c', hv, _⟩ := HE3.out.own.frm (by rw [← HLn.out]; exact hpos)
      injection hv with e1 e2 e3
      rw [he] at e1
      injection e1 with e1
      injection e1 with e1 e4
      rw [he, e1, e4]; rfl)).1
    have := S0.out
    rintro (e | e) <;> omega
  case assign =>
    intro l k W K hK
    unfold evV5 at hK ⊢
    generalize es0.getD (len - 1 - k) Ev.none = x at hK ⊢
    gi_wp2
    exact hK
  case body =>
    intro l k W W1 o o' hk h hp hlo hWW
    have hs := S3.out
    obtain ⟨hbut, ⟨v, es1, q1, q2, q3, hvl⟩, ⟨m, D, m1, m2, m3⟩, hob, hpl⟩ := h.round (by omega) (by omega) hp hlo hWW
    obtain ⟨p, hpp⟩ : ∃ p, p = W1.heap.size := ⟨_, rfl⟩
    rw [← hpp] at hob hpl hp hvl ⊢
    clear hpp hWW hlo h
    obtain ⟨i, hi⟩ : ∃ i, i = len - 1 - k := ⟨_, rfl⟩
    rw [← hi] at hob ⊢
    have hil : i < len := by omega
    have hi1 : A.length - k = i + 1 := by rw [HLA.out]; omega
    have hi2 : A.length - (k + 1) = i := by rw [HLA.out]; omega
    obtain ⟨x, hx⟩ : ∃ x, es0[i]? = some x := ⟨_, List.getElem?_eq_getElem (by rw [← HLn.out]; exact hil)⟩
    have hgx : es0.getD i Ev.none = x := by rw [List.getD_eq_getElem?_getD, hx]; rfl
    rw [hgx] at hob ⊢
    have hAx : A[i]? = some x.ab := by rw [← HM2.out, List.getElem?_map, hx]; rfl
    have hgr := HG.out x.ab (List.mem_of_getElem? hAx)
    have hgr0 : 0 ≤ x.g := hgr.1
    have hgr1 : x.g < 65536 := hgr.2
    have hstk := HE3.out.stk x (List.mem_of_getElem? hx)
    have hdr := drop_one hAx
    rw [hi1] at q3 m3
    obtain ⟨q, hq⟩ : ∃ q : Int, q = (cnt x.g (A.drop (i + 1)) : Int) := ⟨_, rfl⟩
    have hql : 0 ≤ q ∧ q ≤ 65536 := by have h9 := cnt_le x.g (A.drop (i + 1)); rw [List.length_drop, HLA.out] at h9; omega
    have hq1 : IntKind.i64.wrap (q + 1) = q + 1 := by rw [IntKind.wrap_i64]; omega
    have hes1 : (es1.length : Int) ≤ 65536 := by
      have h9 := congrArg List.length q3
      rw [List.length_map, List.length_reverse] at h9
      have h8 := win_len n (A.drop (i + 1))
      rw [List.length_drop, HLA.out] at h8
      omega
    have e0 : W.cell? ⟨p, 0, .none⟩ = some (.int .i64 x.g) := cell_at hob rfl
    have e1 : W.cell? ⟨p, 1, .none⟩ = some (.int .i64 x.k) := cell_at hob rfl
    have e2 : W.cell? ⟨p, 2, .none⟩ = some (.int .u64 x.o) := cell_at hob rfl
    have e3 : W.cell? ⟨p, 3, .none⟩ = some (.int .u64 x.a) := cell_at hob rfl
    have e4 : W.cell? ⟨p, 4, .none⟩ = some (.slice x.sa x.ls.length x.sc) := cell_at hob rfl
    have f0 : W.cell? ⟨w.heap.size, 0, .none⟩ = some (.int .i64 n) := cell_but (cell_at K0.out rfl) hbut (by rintro (e | e) <;> (simp only at e; omega))
    have f1 : W.cell? ⟨w.heap.size + 1, 0, .none⟩ = some v := cell_at q1 rfl
    have f3 : W.cell? ⟨w.heap.size + 1 + 1 + 1, 0, .none⟩ = some (.map (some (w.heap.size + 1 + 1))) := cell_but (cell_at K3.out rfl) hbut (by rintro (e | e) <;> (simp only at e; omega))
    have HQ1 := hide q1
    have HQ2 := hide q2
    have HQ3 := hide q3
    have HM1 := hide m1
    have HMk := hide m2
    have HM3 := hide m3
    have HBu := hide hbut
    have HVL := hide hvl
    have HQ := hide hq
    have HD := hide hdr
    have HI2 := hide hi2
    have HP := hide (And.intro hp hpl)
    have HOb := hide hob
    have HSt := hide hstk
    have HQc : Hid (∀ c : Int, D.atKey (.int .i64 x.g) (.lit (.int .i64 0)) = .lit (.int .i64 c) → c = q) := hide (fun c hc => by
      rw [m3.at_ x.g] at hc
      rw [hq]
      injection hc with hc
      injection hc with _ hc
      exact hc.symm)
    clear hbut hvl hp hob hi hil hi1 hi2 hx hgx hAx hgr hstk hdr q1 q2 q3 m1 m2 m3 hq hs hmm
    unfold evV5
    by_cases hqn : q < n
    · have hd : decide (q < n) = true := decide_eq_true hqn
      gi_wp2_with (first
        | (gi_at_lookup; refine wpListIn_lookup_own_int _ rfl _ _ 43 rfl 3 3 .i64 law3 Tryd.underlying43 Tryd.underlying3 (zero3 _) (w.heap.size + 1 + 1) m D rfl HM6.out _ _ rfl (key3 hgr0 hgr1) ?_; intro cc hat hwc; obtain rfl := HQc.out cc hat; clear hat hwc)
        | (gi_at_lookup; refine wpListIn_lookup_own_int _ rfl _ _ 43 rfl 3 3 .i64 law3 Tryd.underlying43 Tryd.underlying3 (zero3 _) (w.heap.size + 1 + 1) m D rfl HM1.out _ _ rfl (key3 hgr0 hgr1) ?_; intro cc hat hwc; obtain rfl := HQc.out cc hat; clear hat hwc)
        | (gi_at_builtin; go_must (refine append_evI _ rfl (.tmp 21) (.tmp 23) rfl (w3.heap.size + 2) v es1 rfl (HQ2.out.own.below (below_new _ _)) ⟨W.heap.size, 0, .none⟩ 1 x rfl (TRow.one (x := x) (e := 32) (heap_new _ _)) hes1 (by have := HP.out; simp; omega) ?_; intro a2 c2 w5 o5 g5; have B5 : But (fun q => v.ownBlock = some q) W w5 := ((But.refl (fun q => v.ownBlock = some q) W).alloc _).grown g5 (fun _ _ e => e); have d1 : w5.heap[w.heap.size + 1]? = some (.cells #[v] 22 (0, 0)) := (B5.block _ (Array.getElem?_eq_some_iff.1 HQ1.out).1 (fun e => by have := HVL.out _ e; have := S3.out; omega)).trans HQ1.out; have dc1 : w5.cell? ⟨w.heap.size + 1, 0, .none⟩ = some v := cell_at d1 rfl; have fz1 := frz d1 0; have dc3 := cell_but f3 B5 (fun e => by have h9 := HVL.out _ e; have h8 := S3.out; (try dsimp only at h9); omega); have dc0 := cell_but e0 B5 (fun e => by have h9 := HVL.out _ e; (try dsimp only at h9); omega); have M6 : (w5.setCell ⟨w.heap.size + 1, 0, .none⟩ (.slice a2 (es1.length + 1) c2)).ownsMap Tryd.prog 3 (plainElem Tryd.prog 3) (w.heap.size + 1 + 1) m D := map_but (map_but HM1.out B5 (fun e => by have := HVL.out _ e; have := S3.out; omega)) ((But.refl (fun q => q = w.heap.size + 1) w5).setCell ⟨w.heap.size + 1, 0, .none⟩ (fun _ => rfl) _) (by omega); have HM6 := hide M6; have HO5 := hide o5; have HG5 := hide g5; have hpb : ¬ p = w.heap.size + 1 := (by have := HP.out; have := S3.out; omega); clear M6 o5 g5 B5 d1))
        | (gi_at_mapUpdate; refine wpListIn_mapUpdate_own _ rfl _ _ _ 43 rfl 3 3 law3 Tryd.underlying43 (plainElem Tryd.prog 3) (w.heap.size + 1 + 1) m D rfl HM6.out (by have := HMk.out; unfold maxLen; omega) _ _ _ rfl rfl (key3 hgr0 hgr1) _ _ (plainElem_int Tryd.underlying3 (WalkArith.wf_i64 (by omega))) ?_; intro w7 m7 g7))
      have hstW : Stk W x := HSt.out.but HBu.out (HNS.out)
      have hs := S3.out
      exact Wn.took HBu.out (by omega) (by omega) (by omega) (by have := HP.out; omega) HQ1.out HQ2.out HQ3.out hstW HM1.out HMk.out HM3.out HD.out HI2.out (by rw [← HQ.out]; omega) HO5.out HG5.out (by rw [← HQ.out]; exact m7) g7
    · have hd : decide (q < n) = false := decide_eq_false hqn
      gi_wp2_with (first
        | (gi_at_lookup; refine wpListIn_lookup_own_int _ rfl _ _ 43 rfl 3 3 .i64 law3 Tryd.underlying43 Tryd.underlying3 (zero3 _) (w.heap.size + 1 + 1) m D rfl HM1.out _ _ rfl (key3 hgr0 hgr1) ?_; intro cc hat hwc; obtain rfl := HQc.out cc hat; clear hat hwc)
        | (gi_at_mapUpdate; refine wpListIn_mapUpdate_own _ rfl _ _ _ 43 rfl 3 3 law3 Tryd.underlying43 (plainElem Tryd.prog 3) (w.heap.size + 1 + 1) m D rfl HM1.out (by have := HMk.out; unfold maxLen; omega) _ _ _ rfl rfl (key3 hgr0 hgr1) _ _ (plainElem_int Tryd.underlying3 (WalkArith.wf_i64 (by omega))) ?_; intro w7 m7 g7))
      have hs := S3.out
      exact Wn.left HBu.out (by omega) (by omega) (by omega) (by have := HP.out; omega) HQ1.out HQ2.out HQ3.out HM1.out HMk.out HM3.out HD.out HI2.out (by rw [← HQ.out]; omega) (by rw [← HQ.out]; exact m7) g7
  case done =>
    intro W h hK
    have hs := S3.out
    obtain ⟨v, es1, q1, q2, q3⟩ := h.lst
    rw [HLA.out, Nat.sub_self, List.drop_zero] at q3
    have hvl := fun q hq => (q2.own.lt q hq)
    have hes1 : (es1.length : Int) ≤ 65536 := by
      have h9 := congrArg List.length q3
      rw [List.length_map, List.length_reverse] at h9
      have h8 := win_len n A
      rw [HLA.out] at h8
      omega
    have f1 : W.cell? ⟨w.heap.size + 1, 0, .none⟩ = some v := cell_at q1 rfl
    have hBW : Below w.heap.size w W := Below.trans B3.out (h.but.below B3.out.size (fun q hq => by rcases hq with e | e <;> omega))
    have HR := hide (rev_any q2 hes1)
    have HQ1 := hide q1
    have HQ3 := hide q3
    have HVL := hide hvl
    have HKK := hide hK
    have HBW := hide hBW
    have HL1 := hide hes1
    clear h hK q1 q2 q3 hvl hBW hes1 hmm hs
    gi_wp2_with fail
    refine ⟨trivial, CallsIn.mono (callsIn_wide.2 HR.out) ?_⟩
    rintro e w5 ⟨rfl, hE5, hB5⟩
    have r1 : w5.heap[w.heap.size + 1]? = some (.cells #[v] 22 (0, 0)) := (hB5.block _ (Array.getElem?_eq_some_iff.1 HQ1.out).1 (fun e => by have h9 := HVL.out _ e; have h8 := S3.out; omega)).trans HQ1.out
    have rd : w5.heap[w3.heap.size]? = some (.deferred (some [])) := (hB5.block _ (Array.getElem?_eq_some_iff.1 HKK.out).1 (fun e => by have h9 := HVL.out _ e; omega)).trans HKK.out
    have f5 : w5.cell? ⟨w.heap.size + 1, 0, .none⟩ = some v := cell_at r1 rfl
    have HHa := hide (hand_any hE5 (by rw [List.length_reverse]; exact HL1.out))
    have HE5 := hide hE5
    have HB5 := hide hB5
    have HRd := hide rd
    clear hE5 hB5 r1 rd f1 HR
    gi_wp2_with fail
    refine ⟨trivial, CallsIn.mono (callsIn_wide.2 HHa.out) ?_⟩
    rintro e w6 ⟨rfl, ⟨es6, hE6, hm6⟩, hB6⟩
    have rd6 : w6.heap[w3.heap.size]? = some (.deferred (some [])) := (hB6.block _ (Array.getElem?_eq_some_iff.1 HRd.out).1 (fun e => by have h9 := HVL.out _ e; omega)).trans HRd.out
    have HE6 := hide hE6
    have HM6 := hide hm6
    have HB6 := hide hB6
    have HR6 := hide rd6
    clear hE6 hm6 hB6 rd6 f5 HHa
    gi_wp2
    refine ⟨by simp, .inl ⟨_, _, rfl, run_takeDeferred HR6.out, ?_⟩⟩
    have hs := S3.out
    have hp := but_put w6 w3.heap.size (.deferred .none)
    have hns : NoStr w6 (fun q => q = w3.heap.size) := fun q cur fr hq hc => by
      have e9 : q = w3.heap.size := hq
      rw [e9, HR6.out] at hc
      simp at hc
    have hvb : ∀ g, v.ownBlock = some g → ¬ g = w3.heap.size := fun g hg e => by have := (HVL.out g hg).1; omega
    refine ⟨_, results_tmp rfl _ _ _, v, es6, rfl, (HE6.out.but hp hns hvb).mono (by omega), ?_, ?_⟩
    · rw [HM6.out, List.map_reverse, HQ3.out, List.reverse_reverse]
    · have hbb : But (fun q => v.ownBlock = some q ∨ q = w3.heap.size) W (w6.putObj w3.heap.size (.deferred .none)) := ((HB5.out.mono (T := fun q => v.ownBlock = some q ∨ q = w3.heap.size) (fun _ e => .inl e)).trans HB6.out (fun _ _ e => .inl e)).trans hp (fun _ _ e => .inr e)
      refine Below.trans HBW.out (hbb.below HBW.out.size (fun q hq => ?_))
      rcases hq with e | e
      · have := (HVL.out q e).1; omega
      · omega
end Go.Proofs.YtkjmmcpjdjjmlaaDoor
