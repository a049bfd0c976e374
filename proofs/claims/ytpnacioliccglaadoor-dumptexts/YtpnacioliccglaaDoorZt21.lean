import Derived.Test.YtpnacioliccglaaDoorZt20
import Derived.Deep.RegionHeld3
import Derived.Test.YtpnacioliccglaaDoorZt18
import Derived.Test.YtpnacioliccglaaDoorZt12
set_option maxRecDepth 8000
set_option maxHeartbeats 8000000
set_option linter.unusedVariables false
/-
  The document's forest: Intern.
-/
namespace Go.Proofs.YtpnacioliccglaaDoor.E6
open Go.RowKit Go.Maps Go.Shelf
attribute [local go_sem] Oper.semAt_some
theorem rputf_end {w w2 : World} {fb tb : Nat} {S : Nat → Prop} {N : List Nd} {v v' : Value} {n : Nd} (h : RFr w fb tb S N v) (h1 : n.1 ≤ 262144) (h2 : n.2 ≤ 65536) (hl : N.length < 262144)
    (o2 : w2.ownsRow 0 134 2 v' (N.length + 1) (ncells (N ++ [n]))) (k2 : But (fun k => v.ownBlock = some k) w w2) (hloc : v'.ownBlock = v.ownBlock ∨ ∃ g, v'.ownBlock = some g ∧ w.heap.size ≤ g ∧ g < w2.heap.size) :
    RFr (w2.setCell ⟨fb, 1, none⟩ v') fb tb (fun k => S k ∨ (w.heap.size ≤ k ∧ k < w2.heap.size)) (N ++ [n]) v' ∧ But S w (w2.setCell ⟨fb, 1, none⟩ v') := by
  have b2 : w2.heap[fb]? = some (.cells #[.pointer (some ⟨tb, 0, none⟩), v] 128 (0, 0)) := (k2.block fb h.lt (fun e => h.row_fb fb e rfl)).trans h.blk
  have b2' : (w2.setCell ⟨fb, 1, none⟩ v').heap[fb]? = some (.cells #[.pointer (some ⟨tb, 0, none⟩), v'] 128 (0, 0)) := heap_setCell_same w2 fb 1 _ 128 _ b2
  have hnew : ∀ g, v'.ownBlock = some g → (S g ∨ (w.heap.size ≤ g ∧ g < w2.heap.size)) ∧ g ≠ fb := by
    intro g hg
    rcases hloc with e | ⟨g', e, hge, hlt⟩
    · rw [e] at hg; exact ⟨.inl (h.rowS g hg), h.row_fb g hg⟩
    · rw [e] at hg; cases hg
      exact ⟨.inr ⟨hge, by omega⟩, by have := h.lt; omega⟩
  have o3 : (w2.setCell ⟨fb, 1, none⟩ v').ownsRow 0 134 2 v' (N.length + 1) (ncells (N ++ [n])) :=
    own_but (S := fun k => k = fb) o2 ((But.refl (fun k => k = fb) w2).setCell ⟨fb, 1, none⟩ (fun _ => rfl) _) (fun g e => (hnew g e).2)
  refine ⟨⟨b2', by simpa using o3, .inl h.inS, fun g e => (hnew g e).1, by simp; omega, ?_⟩, (k2.mono (T := S) (fun k e => h.rowS k e)).setCell ⟨fb, 1, none⟩ (fun _ => h.inS) _⟩
  intro m hm
  rcases List.mem_append.1 hm with hm | hm
  · exact h.small m hm
  · simp at hm; subst hm; exact ⟨h1, h2⟩
theorem rintern_nil (a : Option Addr) (n c : Nat) (w : World) : Calls Tryd.prog 61 #[.pointer none, .slice a n c] w fun e w' => e = .returned (.tuple #[.int .i64 0, .int .i64 1]) ∧ w' = w := by
  go_enter Tryd.func61, Tryd.ntmps61
  go_wp2
  go_ret2
  exact ⟨rfl, rfl⟩
theorem rintern_deep (fb : Nat) (a : Option Addr) (n c : Nat) (w : World) (hn : 16 < n) (hn' : (n : Int) ≤ 9223372036854775807) : Calls Tryd.prog 61 #[.pointer (some ⟨fb, 0, none⟩), .slice a n c] w fun e w' => e = .returned (.tuple #[.int .i64 0, .int .i64 51]) ∧ w' = w := by
  have hnI : (16 : Int) < n := by omega
  clear hn
  go_enter Tryd.func61, Tryd.ntmps61
  go_wp2
  go_ret2
  exact ⟨rfl, rfl⟩
set_option maxRecDepth 4000 in
theorem rintern_full {w : World} {T S : Nat → Prop} {tb fb : Nat} {L : List ByteArray} {N : List Nd} (h : RSt w T S tb fb L N) (a : Option Addr) (n c : Nat) (ls : List ByteArray) (hr : SRow w a n ls) (hn : n ≤ 16) (hz : ∀ s ∈ ls, s.size ≤ maxLen)
    (hR : ¬ Roomy L N.length (kn L N 0 ls.reverse).2.reverse) :
    Calls Tryd.prog 61 #[.pointer (some ⟨fb, 0, none⟩), .slice a n c] w fun e w' => e = .returned (.tuple #[.int .i64 0, .int .i64 3]) ∧ Below w.heap.size w w' := by
  obtain ⟨tv, v, hT, hF⟩ := h.both
  have hn' : (n : Int) ≤ 16 := by omega
  have HQ1 : Hid _ := hide (rfits_any hT hF a n c ls hr hn hz)
  have HF : Hid (RFr w fb tb S N v) := hF
  have HQ2 : Hid (∀ W : World, Below w.heap.size w W → Calls Tryd.prog 84 #[.pointer (some ⟨fb, 0, none⟩), .slice a n c] W fun e w' => e = .returned (.int .i64 ((kn L N 0 ls.reverse).2.length : Int)) ∧ Below W.heap.size W w') := hide (fun W hW => rfresh_any (hT.below hW) (hF.below hW) a n c ls (hr.below hW) hn hz)
  have hml := (@kn_len L N ls.reverse 0).1
  rw [List.length_reverse, hr.len] at hml
  have HR : Hid _ := hide hR
  rw [roomy_fits] at hR
  obtain ⟨m, hm⟩ : ∃ m, (kn L N 0 ls.reverse).2.length = m := ⟨_, rfl⟩
  rw [hm] at HQ2 hml hR
  obtain ⟨va, vc, rfl⟩ := own_form hF.own
  have hNl : (N.length : Int) ≤ 262144 := by have := hF.len; omega
  have hmI : (m : Int) ≤ 16 := by omega
  have HX : Hid (Fits L ls → (262144 : Int) < (N.length : Int) + m) := hide (fun hf => by
    apply Classical.byContradiction
    intro h0
    exact hR ⟨hf, by omega⟩)
  clear h hT hF hr hz hR hm
  go_enter Tryd.func61, Tryd.ntmps61
  go_wp2_with fail
  refine HQ1.out.mono ?_
  rintro e w1 ⟨⟨b, rfl, hb⟩, hb1⟩
  have HB1 : Hid (Below w.heap.size w w1) := hb1
  have hF1 : Hid (RFr w1 fb tb S N (.slice va N.length vc)) := hide (HF.out.below hb1)
  have c1 := hF1.out.cell1
  clear hb1
  cases b
  · clear hb
    go_wp2
    go_quiet (fail)
    go_wp2
    go_ret2
    exact ⟨rfl, below_drewN HB1.out _⟩
  · have hg := HX.out (hb.1 rfl)
    clear hb
    have HQ3 : Hid _ := hide (HQ2.out w1.drew (below_drewN HB1.out 1))
    have hwr : IntKind.i64.wrap ((N.length : Int) + m) = (N.length : Int) + m := by rw [IntKind.wrap_i64]; omega
    have hdd : decide ((262144 : Int) < (N.length : Int) + m) = true := decide_eq_true hg
    clear hg
    go_wp2
    go_region_held3 (fun W => W.cell? ⟨fb, 1, none⟩ = some (.slice va N.length vc)) (first | exact c1 | exact hF3) (first
      | (go_at_call 84; refine HQ3.out.mono ?_; rintro e w3 ⟨rfl, hL⟩; have HL : Hid (Below w1.drew.heap.size w1.drew w3) := hide hL; have hF3 : w3.cell? ⟨fb, 1, none⟩ = some (.slice va N.length vc) := (((hF1.out.drewN 1).below hL).cell1); clear hL))
    go_wp2
    go_ret2
    exact ⟨rfl, (below_drewN HB1.out 1).trans (HL.out.mono HB1.out.size)⟩
theorem But.undrew {S : Nat → Prop} {w w' : World} (h : But S w.drew w') : But S w w' := ⟨h.os, h.tape, h.output, h.size, h.block⟩
theorem cell_but {S : Nat → Prop} {w w' : World} {a : Addr} {x : Value} (h : w.cell? a = some x) (hb : But S w w') (hn : ¬ S a.block) : w'.cell? a = some x := cell_block h (hb.block _ (World.block_lt_of_cell? w _ h) hn)
/-- What holds between two frames of Intern. -/
structure RRnd (w0 : World) (T S : Nat → Prop) (tb fb : Nat) (s : Stt) (W : World) : Prop where
  st : ∃ T' S', RSt W T' S' tb fb s.L s.N ∧ More w0 T T' ∧ More w0 S S'
  but : But (fun k => T k ∨ S k) w0 W
theorem RRnd.next {w0 : World} {T S T1 S1 : Nat → Prop} {tb fb : Nat} {s : Stt} {W : World} (h : But (fun k => T k ∨ S k) w0 W) {T2 S2 : Nat → Prop} {W2 : World} (hst : RSt W2 T2 S2 tb fb s.L s.N) (h1 : More w0 T T1) (h2 : More w0 S S1) (hb : But (fun k => T1 k ∨ S1 k) W W2) (m1 : More W T1 T2) (m2 : More W S1 S2) : RRnd w0 T S tb fb s W2 := by
  have hs := h.size
  refine ⟨⟨T2, S2, hst, fun k hk => ?_, fun k hk => ?_⟩, h.trans hb (fun i hi e => ?_)⟩
  · rcases m1 k hk with e | e
    · exact h1 k e
    · right; omega
  · rcases m2 k hk with e | e
    · exact h2 k e
    · right; omega
  · rcases e with e | e
    · rcases h1 i e with e | e
      · exact .inl e
      · omega
    · rcases h2 i e with e | e
      · exact .inr e
      · omega
set_option maxHeartbeats 1000000 in
set_option maxRecDepth 4000 in
theorem rintern_f {w : World} {T S : Nat → Prop} {tb fb : Nat} {L : List ByteArray} {N : List Nd} (h : RSt w T S tb fb L N) (hg : Good L N) (hd : L.Nodup) (a : Option Addr) (n c : Nat) (ls : List ByteArray) (hr : SRow w a n ls) (hn : n ≤ 16) (hz : ∀ s ∈ ls, s.size ≤ maxLen)
    (hrT : ∀ b off, a = some ⟨b, off, none⟩ → n ≠ 0 → ¬ T b ∧ ¬ S b) (hR : Roomy L N.length (kn L N 0 ls.reverse).2.reverse) :
    Calls Tryd.prog 61 #[.pointer (some ⟨fb, 0, none⟩), .slice a n c] w fun e w' => e = .returned (.tuple #[.int .i64 ((after L N ls).id : Int), .int .i64 0]) ∧ RRnd w T S tb fb (after L N ls) w' := by
  obtain ⟨tv, v, hT, hF⟩ := h.both
  have hn' : (n : Int) ≤ 16 := by omega
  have HQ1 : Hid _ := hide (rfits_any hT hF a n c ls hr hn hz)
  have HF : Hid (RFr w fb tb S N v) := hF
  have HST : Hid (RSt w T S tb fb L N) := h
  have HQ2 : Hid (∀ W : World, Below w.heap.size w W → Calls Tryd.prog 84 #[.pointer (some ⟨fb, 0, none⟩), .slice a n c] W fun e w' => e = .returned (.int .i64 ((kn L N 0 ls.reverse).2.length : Int)) ∧ Below W.heap.size W w') := hide (fun W hW => rfresh_any (hT.below hW) (hF.below hW) a n c ls (hr.below hW) hn hz)
  have hml := (@kn_len L N ls.reverse 0).1
  rw [List.length_reverse, hr.len] at hml
  have HR : Hid _ := hide hR
  have HSR : Hid (SRow w a n ls) := hr
  have HL : Hid (ls.length = n) := hr.len
  have HZ : Hid (∀ s ∈ ls, s.size ≤ maxLen) := hz
  have HRT : Hid (∀ b off, a = some ⟨b, off, none⟩ → n ≠ 0 → ¬ T b ∧ ¬ S b) := hrT
  have HG : Hid (Good L N ∧ L.Nodup) := ⟨hg, hd⟩
  rw [roomy_fits] at hR
  obtain ⟨m, hm⟩ : ∃ m, (kn L N 0 ls.reverse).2.length = m := ⟨_, rfl⟩
  rw [hm] at HQ2 hml hR
  obtain ⟨va, vc, rfl⟩ := own_form hF.own
  have hNl : (N.length : Int) ≤ 262144 := by have := hF.len; omega
  have hmI : (m : Int) ≤ 16 := by omega
  have hdd : decide ((262144 : Int) < (N.length : Int) + m) = false := decide_eq_false (by have := hR.2; omega)
  have HX : Hid (Fits L ls) := hR.1
  clear h hT hF hr hz hR hm hrT hg hd
  go_enter Tryd.func61, Tryd.ntmps61
  go_wp2_with fail
  refine HQ1.out.mono ?_
  rintro e w1 ⟨⟨b, rfl, hb⟩, hb1⟩
  have HB1 : Hid (Below w.heap.size w w1) := hb1
  have hF1 : Hid (RFr w1 fb tb S N (.slice va N.length vc)) := hide (HF.out.below hb1)
  have c1 := hF1.out.cell1
  clear hb1
  have hbt := hb.2 HX.out
  subst hbt
  clear hb
  have HQ3 : Hid _ := hide (HQ2.out w1.drew (below_drewN HB1.out 1))
  have hwr : IntKind.i64.wrap ((N.length : Int) + m) = (N.length : Int) + m := by rw [IntKind.wrap_i64]; omega
  go_wp2
  go_region_held3 (fun W => W.cell? ⟨fb, 1, none⟩ = some (.slice va N.length vc)) (first | exact c1 | exact hF3) (first
    | (go_at_call 84; refine HQ3.out.mono ?_; rintro e w3 ⟨rfl, hL⟩; have HL3 : Hid (Below w1.drew.heap.size w1.drew w3) := hide hL; have hF3 : w3.cell? ⟨fb, 1, none⟩ = some (.slice va N.length vc) := (((hF1.out.drewN 1).below hL).cell1); clear hL))
  have HB3 : Hid (Below w.heap.size w w3) := hide ((below_drewN HB1.out 1).trans (HL3.out.mono HB1.out.size))
  clear hwr hdd hF3 c1 HL3 HQ3 HQ2 HQ1 hmI hml
  go_wp2
  go_loopw [7, 8] (fun d i wr => ∃ (k : Nat) (s : Stt), k ≤ n ∧ i = .int .i64 ((k : Int) - 1) ∧ d = .int .i64 (s.id : Int) ∧ RRnd w T S tb fb s wr ∧ Way L N ls (ls.take k).reverse s) (fun _ i _ => (intOf i + 1).toNat)
  case atStart => exact ⟨n, ⟨L, N, 0⟩, Nat.le_refl _, rfl, rfl, ⟨⟨T, S, HST.out.below HB3.out, fun _ e => .inl e, fun _ e => .inl e⟩, But.of_below HB3.out⟩, by rw [List.take_of_length_le (by have := HL.out; omega)]; exact Way.start _ _ _⟩
  case round =>
    obtain ⟨k, s, hk, rfl, rfl, hrn, hwy⟩ := hrel
    cases k with
    | zero =>
      have HX2 : Hid (s = after L N ls) := hide (Way.end hwy)
      have HRN : Hid _ := hide hrn
      clear hrn hwy
      go_wp2
      go_ret2
      exact ⟨by rw [← HX2.out]; rfl, by rw [← HX2.out]; exact HRN.out⟩
    | succ k =>
      have hi0 : ((k + 1 : Nat) : Int) - 1 = (k : Int) := by omega
      rw [hi0]
      obtain ⟨t, ht⟩ : ∃ t, t = ls.getD k ByteArray.empty := ⟨_, rfl⟩
      rw [take_rev (by have := HL.out; omega), ← ht] at hwy
      obtain ⟨hTk, hwy'⟩ := hwy.step HG.out.1 HG.out.2 HR.out
      obtain ⟨⟨T', S', hst, hmT, hmS⟩, hbut⟩ := hrn
      have HWY : Hid _ := hide hwy'
      have HTK : Hid (Takes s t) := hTk
      have HBU : Hid (But (fun k => T k ∨ S k) w wr) := hbut
      have HMT : Hid (More w T T' ∧ More w S S') := ⟨hmT, hmS⟩
      have HST' : Hid (RSt wr T' S' tb fb s.L s.N) := hst
      obtain ⟨bo, oo, ha, hc0⟩ := HSR.out.at (i := k) (by omega)
      subst ha
      rw [← ht] at hc0
      have hbo0 : bo < w.heap.size := World.block_lt_of_cell? _ _ hc0
      have hboT := HRT.out bo oo rfl (by omega)
      have hco : wr.cell? ⟨bo, oo + k, none⟩ = some (.string t) := cell_but hc0 hbut (by rintro (e | e); exact hboT.1 e; exact hboT.2 e)
      have htz : t.size ≤ maxLen := by rw [ht]; exact HZ.out _ (List.mem_of_getElem? (getD_get (by have := HL.out; omega)))
      obtain ⟨tv', v', hT', hF'⟩ := hst.both
      have k0 := hF'.cell0
      have HT' : Hid _ := hide hT'
      have HF' : Hid (RFr wr fb tb S' s.N v') := hide hF'
      have Q := rintern_any (hT'.below (below_drewN (Below.refl _ _) 1)) t htz
      rw [hTk.ans] at Q
      have HQ : Hid _ := hide Q
      have HBO : Hid (¬ T' bo) := hide (fun e => by
        rcases hmT bo e with e | e
        · exact hboT.1 e
        · omega)
      have HFB : Hid (¬ T' fb) := hide (fun e => hst.dis _ e hF'.inS)
      have hkI : (k : Int) < n := by omega
      clear ht hwy hwy' hTk hbut hmT hmS hst hc0 hT' hF' Q hboT hi0
      go_wp2
      go_region_held3 (fun W => W.cell? ⟨fb, 0, none⟩ = some (.pointer (some ⟨tb, 0, none⟩)) ∧ W.cell? ⟨bo, oo + k, none⟩ = some (.string t)) (first | exact ⟨k0, hco⟩ | exact ⟨M0, M2⟩) (first
        | (go_at_call 85; refine HQ.out.mono ?_; rintro e w4 ⟨rfl, ⟨tv4, ht4⟩, hb4⟩; have HT4 := hide ht4; have HB4 := hide hb4.undrew; have M0 := cell_but k0 hb4.undrew HFB.out; have M2 := cell_but hco hb4.undrew HBO.out; clear ht4 hb4))
      have HF4 : Hid (RFr w4 fb tb S' s.N v') := hide (HF'.out.kept HB4.out (fun k hk e => HST'.out.dis k e hk))
      have hfr : place (internL s.L t) t ≤ 65536 := by have h1 := place_lt HTK.out.mem; have h2 := HT4.out.len; omega
      have HID : Hid (s.id ≤ 262144) := hide (Nat.le_trans HTK.out.idle HF4.out.len)
      have HFd : Hid (Calls Tryd.prog 86 #[.pointer (some ⟨fb, 0, none⟩), nodeV (s.id, place (internL s.L t) t)] w4 fun e w' => e = .returned (.int .i64 (nid s.N (s.id, place (internL s.L t) t) : Int)) ∧ Below w4.heap.size w4 w') := hide (find_f HF4.out _)
      unfold nodeV at HFd
      have HST4 : Hid (RSt w4 (fun k => T' k ∨ (wr.heap.size ≤ k ∧ k < w4.heap.size)) S' tb fb (internL s.L t) s.N) := hide ⟨⟨_, _, HT4.out, HF4.out⟩, (by
        rintro k (e | e)
        · exact HST'.out.dis k e
        · intro e'; have := HST'.out.slt k e'; omega), (by
        rintro k (e | e)
        · have := HST'.out.tlt k e; have := HB4.out.size; omega
        · exact e.2), (by intro k e; have := HST'.out.slt k e; have := HB4.out.size; omega)⟩
      clear M0 M2 k0 hco HQ HBO HFB
      go_wp2_with fail
      refine HFd.out.mono ?_
      rintro e w5 ⟨rfl, hb5⟩
      have HB5 : Hid (Below w4.heap.size w4 w5) := hb5
      have HST5 : Hid _ := hide (HST4.out.below hb5)
      have HF5 : Hid (RFr w5 fb tb S' s.N v') := hide (HF4.out.below hb5)
      clear hb5
      by_cases hq0 : nid s.N (s.id, place (internL s.L t) t) = 0
      · have HN5 : Hid (rstp s t = stp s t) := hide (by rw [rstp, if_pos hq0])
        have hlen := HTK.out.room hq0
        have e0 : ((nid s.N (s.id, place (internL s.L t) t) : Int) == 0) = true := by rw [beq_iff_eq]; omega
        have k1 := HF5.out.cell1
        obtain ⟨va', vc', hv'⟩ := own_form HF5.out.own
        subst hv'
        have f5 := HF5.out.free
        have HK0 : Hid (((w5.alloc (.cells #[.int .i64 (s.id : Int), .int .i64 (place (internL s.L t) t : Int)] 134)).cell? ⟨w5.heap.size, 0, none⟩ = some (.int .i64 (s.id : Int))) ∧ ((w5.alloc (.cells #[.int .i64 (s.id : Int), .int .i64 (place (internL s.L t) t : Int)] 134)).cell? ⟨w5.heap.size, 1, none⟩ = some (.int .i64 (place (internL s.L t) t : Int)))) := hide (by
          constructor
          · rw [cell_of_row _ _ 0 _ 134 (0, 0) (heap_alloc_new w5 _)]; rfl
          · rw [cell_of_row _ _ 1 _ 134 (0, 0) (heap_alloc_new w5 _)]; rfl)
        have hNl5 : (s.N.length : Int) < 262144 := by omega
        clear hq0 hlen
        obtain ⟨q, hq⟩ : ∃ q, nid s.N (s.id, place (internL s.L t) t) = q := ⟨_, rfl⟩
        rw [hq] at e0 ⊢
        obtain ⟨fr, hf⟩ : ∃ fr, place (internL s.L t) t = fr := ⟨_, rfl⟩
        rw [hf] at hfr HK0 ⊢
        have HFR : Hid _ := hide hf
        clear hf hq HFd
        go_wp2_with (first
          | (at_builtin; refine append_rnode _ rfl _ _ rfl (.slice va' s.N.length vc') s.N rfl (HF5.out.own.alloc _) w5.heap.size (s.id, fr) rfl HK0.out.1 HK0.out.2 (by omega) ?_
             intro a6 c6 w6 o6 g6 hloc
             have k6 : Hid (But (fun k => (Value.slice va' s.N.length vc').ownBlock = some k) w5 w6) := hide (((But.refl _ w5).alloc _).grown g6 (fun k _ e => e))
             have b6 : Hid (w6.heap[fb]? = some (.cells #[.pointer (some ⟨tb, 0, none⟩), .slice va' s.N.length vc'] 128 (0, 0))) := hide ((k6.out.block fb HF5.out.lt (fun e => HF5.out.row_fb fb e rfl)).trans HF5.out.blk)
             have d1 : w6.cell? ⟨fb, 1, none⟩ = some (.slice va' s.N.length vc') := by rw [cell_of_row w6 fb 1 _ 128 (0, 0) b6.out]; rfl
             have f6 : ∀ j, w6.frozen? ⟨fb, j, none⟩ = false := fun j => frozen_of_row w6 fb j _ 128 b6.out
             have HLo : Hid ((Value.slice a6 (s.N.length + 1) c6).ownBlock = (Value.slice va' s.N.length vc').ownBlock ∨ ∃ g, (Value.slice a6 (s.N.length + 1) c6).ownBlock = some g ∧ w5.heap.size ≤ g ∧ g < w6.heap.size) := hide (by
               rcases hloc with e | e
               · exact .inl e
               · refine .inr ⟨_, e, by simp, ?_⟩
                 exact own_lt o6 _ e)
             have O6 : Hid _ := hide o6
             clear o6 g6 hloc)
          | go_in)
        have hs4 := HB4.out.size
        have hs5 := HB5.out.size
        have E := rputf_end HF5.out (n := (s.id, fr)) HID.out hfr (by omega) O6.out k6.out HLo.out
        have hs6 : w5.heap.size ≤ w6.heap.size := k6.out.size
        obtain ⟨tv5, v5, ht5, _⟩ := HST5.out.both
        have hst : RSt (w6.setCell ⟨fb, 1, none⟩ (.slice a6 (s.N.length + 1) c6)) (fun k => T' k ∨ (wr.heap.size ≤ k ∧ k < w4.heap.size)) (fun k => S' k ∨ (w5.heap.size ≤ k ∧ k < w6.heap.size)) tb fb (stp s t).L (stp s t).N := by
          refine ⟨⟨tv5, _, ht5.kept E.2 (HST5.out.dis), by show RFr _ _ _ _ (s.N ++ [(s.id, place (internL s.L t) t)]) _; rw [HFR.out]; exact E.1⟩, ?_, ?_, ?_⟩
          · rintro k hk (e | e)
            · exact HST5.out.dis k hk e
            · have := HST5.out.tlt k hk; omega
          · intro k hk; have := HST5.out.tlt k hk; rw [size_set]; omega
          · rintro k (e | e)
            · have := HST5.out.slt k e; rw [size_set]; omega
            · rw [size_set]; exact e.2
        refine ⟨⟨k, stp s t, by omega, rfl, by go_num, RRnd.next HBU.out hst HMT.out.1 HMT.out.2 ?_ ?_ ?_, by rw [← HN5.out]; exact HWY.out⟩, by simp [intOf]⟩
        · exact ((HB4.out.mono (fun _ e => .inl e)).trans (But.of_below (S := fun _ => False) HB5.out) (fun _ _ e => e.elim)).trans E.2 (fun _ _ e => .inr e)
        · rintro k (e | e)
          · exact .inl e
          · exact .inr e.1
        · rintro k (e | e)
          · exact .inl e
          · right; omega
      · have HN5 : Hid (rstp s t = ⟨internL s.L t, s.N, nid s.N (s.id, place (internL s.L t) t)⟩) := hide (by rw [rstp, if_neg hq0])
        have e0 : ((nid s.N (s.id, place (internL s.L t) t) : Int) == 0) = false := by rw [beq_eq_false_iff_ne]; omega
        clear hq0
        obtain ⟨q, hq⟩ : ∃ q, nid s.N (s.id, place (internL s.L t) t) = q := ⟨_, rfl⟩
        rw [hq] at e0 HN5 ⊢
        clear hq HFd
        go_wp2
        have hs4 := HB4.out.size
        have hs5 := HB5.out.size
        refine ⟨⟨k, rstp s t, by omega, rfl, by rw [HN5.out], RRnd.next HBU.out (by rw [HN5.out]; exact HST5.out) HMT.out.1 HMT.out.2 ?_ ?_ (fun _ e => .inl e), HWY.out⟩, by simp [intOf]⟩
        · exact (HB4.out.mono (fun _ e => .inl e)).trans (But.of_below (S := fun _ => False) HB5.out) (fun _ _ e => e.elim)
        · rintro k (e | e)
          · exact .inl e
          · exact .inr e.1
/-- Intern, whatever comes. -/
theorem rintern_u {w : World} {T S : Nat → Prop} {tb fb : Nat} {L : List ByteArray} {N : List Nd} (P : List Stk) (h : RSt w T S tb fb L N) (hg : Good L N) (hd : L.Nodup) (a : Option Addr) (n c : Nat) (ls : List ByteArray) (hr : SRow w a n ls) (hn : (n : Int) ≤ 9223372036854775806) (hz : ∀ s ∈ ls, s.size ≤ maxLen)
    (hrT : ∀ b off, a = some ⟨b, off, none⟩ → n ≠ 0 → ¬ T b ∧ ¬ S b) :
    Calls Tryd.prog 61 #[.pointer (some ⟨fb, 0, none⟩), .slice a n c] w fun e w' => ∃ id er L' N' P', e = .returned (.tuple #[.int .i64 (id : Nat), .int .i64 er]) ∧ Res L N P ls id er L' N' P' ∧
      (∃ T' S', RSt w' T' S' tb fb L' N' ∧ More w T T' ∧ More w S S') ∧ But (fun k => T k ∨ S k) w w' := by
  by_cases hdp : n ≤ 16
  · by_cases hR : Roomy L N.length (kn L N 0 ls.reverse).2.reverse
    · refine (rintern_f h hg hd a n c ls hr hdp hz hrT hR).mono ?_
      rintro e w' ⟨rfl, hT⟩
      exact ⟨_, _, _, _, _, rfl, .ok (by rw [hr.len]; exact hdp) hR, hT.st, hT.but⟩
    · refine (rintern_full h a n c ls hr hdp hz hR).mono ?_
      rintro e w' ⟨rfl, hb⟩
      exact ⟨_, _, _, _, _, rfl, .full (by rw [hr.len]; exact hdp) hR, ⟨T, S, h.below hb, fun _ e => .inl e, fun _ e => .inl e⟩, But.of_below hb⟩
  · refine (rintern_deep fb a n c w (by omega) (by omega)).mono ?_
    rintro e w' ⟨rfl, rfl⟩
    exact ⟨_, _, _, _, _, rfl, .deep (by rw [hr.len]; omega), ⟨T, S, h, fun _ e => .inl e, fun _ e => .inl e⟩, But.refl _ _⟩
end Go.Proofs.YtpnacioliccglaaDoor.E6
/-
  Bounds, the document's.
-/
namespace Go.Proofs.YtpnacioliccglaaDoor.E6
open Go.RowKit Go.Maps Go.Shelf
/-- The document's forest in the midst of Bounds. -/
structure BRt (w0 wr : World) (tb fb : Nat) (L : List ByteArray) (N : List Nd) : Prop where
  st : ∃ T S, RSt wr T S tb fb L N ∧ ∀ k, T k ∨ S k → w0.heap.size ≤ k
  fit : ∃ P, Fit L N P
  bel : Below w0.heap.size w0 wr
theorem BRt.below {w0 wr w' : World} {tb fb : Nat} {L : List ByteArray} {N : List Nd} (h : BRt w0 wr tb fb L N) (hb : Below wr.heap.size wr w') : BRt w0 w' tb fb L N := by
  obtain ⟨T, S, h1, h2⟩ := h.st
  exact ⟨⟨T, S, h1.below hb, h2⟩, h.fit, h.bel.trans (hb.mono h.bel.size)⟩
/-- What Intern answers for one event of Bounds, and leaves. -/
theorem brt_intern {w0 wr : World} {tb fb : Nat} {L : List ByteArray} {N : List Nd} (h : BRt w0 wr tb fb L N) (e : Ev) (hok : e.ok) (hs0 : e.at w0) (h0 : e.chk = 0) :
    Calls Tryd.prog 61 #[.pointer (some ⟨fb, 0, none⟩), .slice e.sa e.ls.length e.sc] wr fun r w' => ∃ id : Nat,
      (Roomy L N.length (left L N e.ls).2.reverse → r = .returned (.tuple #[.int .i64 (id : Int), .int .i64 0]) ∧ BRt w0 w' tb fb (after L N e.ls).L (after L N e.ls).N) ∧
      (¬ Roomy L N.length (left L N e.ls).2.reverse → r = .returned (.tuple #[.int .i64 (id : Int), .int .i64 3]) ∧ Below w0.heap.size w0 w') := by
  obtain ⟨T, S, hst, hold⟩ := h.st
  obtain ⟨P, hfit⟩ := h.fit
  have hs : SRow wr e.sa e.ls.length e.ls := SRow.bel hs0 h.bel
  have h16 := chk_zero h0
  refine (rintern_u P hst hfit.good hfit.nodup e.sa e.ls.length e.sc e.ls hs (by omega) hok.sz (fun b off ea hn => ?_)).mono ?_
  · have hb := SRow.old hs0 ea hn
    constructor
    · intro hT; have := hold b (.inl hT); omega
    · intro hS; have := hold b (.inr hS); omega
  · rintro r w' ⟨id, er, L', N', P', rfl, hres, ⟨T', S', hst', m1, m2⟩, hb⟩
    have hbel : Below w0.heap.size w0 w' := h.bel.trans (hb.below h.bel.size hold)
    refine ⟨id, fun hR => ?_, fun hR => ?_⟩
    · have hf := (hres.fit hfit).1
      cases hres with
      | deep hd => omega
      | full _ hn => exact absurd hR hn
      | ok _ _ =>
        refine ⟨rfl, ⟨T', S', hst', fun k hk => ?_⟩, ⟨_, hf⟩, hbel⟩
        have hsz := h.bel.size
        rcases hk with hk | hk
        · rcases m1 k hk with e1 | e1
          · exact hold k (.inl e1)
          · omega
        · rcases m2 k hk with e1 | e1
          · exact hold k (.inr e1)
          · omega
    · cases hres with
      | deep hd => omega
      | full _ _ => exact ⟨rfl, hbel⟩
      | ok _ hr => exact absurd hr hR
theorem rtab_new (w : World) : RTab (w.alloc (.cells #[.slice none 0 0, .int .i64 0] 130)) w.heap.size (fun k => k = w.heap.size) [] (.slice none 0 0) :=
  ⟨heap_alloc_new w _, World.ownsRow_nil _ _ _ _, rfl, by simp [Value.ownBlock], by simp, by simp, by simp, by simp [total]⟩
theorem brt_new {w w1 w2 : World} (hw1 : w1 = w.alloc (.cells #[.slice none 0 0, .int .i64 0] 130)) (hF : RFr w2 w1.heap.size w.heap.size (fun k => k = w1.heap.size) [] (.slice none 0 0)) (hw2 : w2 = w1.alloc (.cells #[.pointer (some ⟨w.heap.size, 0, none⟩), .slice none 0 0] 128)) : BRt w w2 w.heap.size w1.heap.size [] [] := by
  have hb1 : Below w.heap.size w w1 := by rw [hw1]; exact below_new w _
  have hb2 : Below w1.heap.size w1 w2 := by rw [hw2]; exact below_new w1 _
  have hz1 : w1.heap.size = w.heap.size + 1 := by rw [hw1]; simp
  have hz2 : w2.heap.size = w1.heap.size + 1 := by rw [hw2]; simp
  have ht : RTab w2 w.heap.size (fun k => k = w.heap.size) [] (.slice none 0 0) := by
    have h0 := rtab_new w
    rw [← hw1] at h0
    exact h0.kept (T := fun _ => False) (But.of_below hb2) (fun _ _ e => e)
  exact ⟨⟨_, _, ⟨⟨_, _, ht, hF⟩, fun k h1 h2 => by omega, fun k h1 => by omega, fun k h1 => by omega⟩, fun k hk => by rcases hk with e | e <;> omega⟩, ⟨[], Fit.nil⟩, hb1.trans (hb2.mono hb1.size)⟩
set_option maxRecDepth 4000 in
set_option maxHeartbeats 2000000 in
theorem rbounds_any (a : Option Addr) (n c : Nat) (es : List Ev) (w : World) (hr : ERow w a n es) (hok : ∀ e ∈ es, e.ok) (hn : (n : Int) ≤ 9223372036854775806) :
    Calls Tryd.prog 30 #[.slice a n c] w fun r w' => r = .returned (.tuple #[.int .i64 (bounds es).1, .int .i64 (bounds es).2]) ∧ Below w.heap.size w w' := by
  obtain ⟨R, hR⟩ : ∃ R, R = bounds es := ⟨_, rfl⟩
  rw [← hR]
  unfold bounds at hR
  rw [hr.len] at hR
  by_cases hlarge : n ≤ 1048576
  · rw [if_pos hlarge] at hR
    have hl : (n : Int) ≤ 1048576 := by omega
    have HR : Hid _ := hide hR
    have HE : Hid _ := hide hr
    have HO : Hid _ := hide hok
    have HN : Hid _ := hide (rnew_any w)
    clear hR hlarge hr hok hn
    go_enter Tryd.func30, Tryd.ntmps30
    go_wp2_with fail
    refine HN.out.mono ?_
    rintro e w1 ⟨rfl, hw1⟩
    have HF : Hid _ := hide (rnew_f w.heap.size w1)
    have HW1 : Hid _ := hide hw1
    clear hw1
    go_wp2_with fail
    refine HF.out.mono ?_
    rintro e w2 ⟨rfl, hF, hw2⟩
    have HB : Hid (BRt w w2 w.heap.size w1.heap.size [] []) := hide (brt_new HW1.out hF hw2)
    generalize w1.heap.size = fb at HB ⊢
    clear hF hw2 HF HN HW1
    go_wp2
    go_loopw [5] (fun i wr => ∃ (j : Nat) (L : List ByteArray) (N : List Nd), j ≤ n ∧ i = .int .i64 j ∧ BRt w wr w.heap.size fb L N ∧ R = bnd (es.drop j) j L N) (fun i _ => n - (intOf i).toNat)
    case atStart => exact ⟨0, [], [], Nat.zero_le _, rfl, HB.out, HR.out⟩
    case round =>
      obtain ⟨j, L, N, hj, rfl, hbst, hRj⟩ := hrel
      have HB' : Hid _ := hide hbst
      clear hbst HB
      by_cases hlt : j < n
      · have hjI : (j : Int) < n := by omega
        have hrr := HE.out.bel HB'.out.bel
        obtain ⟨b, off, e, rfl, hej, c0, c1, c2, c3, c4, hs⟩ := hrr.at hlt
        obtain ⟨b', off', e', hba', hej', q0, q1, q2, q3, q4, hs0⟩ := HE.out.at hlt
        rw [hej] at hej'
        cases hej'
        cases hba'
        have hme := HO.out e (List.mem_of_getElem? hej)
        have hdrop : es.drop j = e :: es.drop (j + 1) := by
          obtain ⟨hl', he'⟩ := List.getElem?_eq_some_iff.1 hej
          rw [List.drop_eq_getElem_cons hl', he']
        rw [hdrop, bnd] at hRj
        have HRj : Hid _ := hide hRj
        have HM : Hid _ := hide hme
        have HS0 : Hid _ := hide hs0
        have HQ4 : Hid _ := hide q4
        have hlen : (e.ls.length : Int) ≤ 9223372036854775806 := by have := hme.len; omega
        have HC : Hid _ := hide (rcheck_any e.g e.k e.o e.a e.sa e.ls.length e.sc e.ls wr (SRow.bel hs0 HB'.out.bel) hlen hme.ho hme.ha)
        clear hrr hej hs hs0 hme hdrop hRj hlen q0 q1 q2 q3 q4
        go_wp2_with fail
        refine HC.out.mono ?_
        rintro r w3 ⟨rfl, hb3⟩
        have HB3 : Hid _ := hide (HB'.out.below hb3)
        have p4 := cell_bel HQ4.out HB3.out.bel
        clear hb3 HC c0 c1 c2 c3 c4
        obtain ⟨ck, hck⟩ : ∃ ck, ck = chk e.g e.k e.o e.a e.ls := ⟨_, rfl⟩
        rw [← hck]
        by_cases h0 : ck = 0
        · have hne : (ck != 0) = false := by simp [h0]
          have HI : Hid _ := hide (brt_intern HB3.out e HM.out HS0.out (hck.symm.trans h0))
          have HC0 : Hid (e.chk = 0) := hide (hck.symm.trans h0)
          clear h0 hck
          go_wp2_with fail
          refine HI.out.mono ?_
          rintro r w4 ⟨id, hyes, hno⟩
          by_cases hR : Roomy L N.length (left L N e.ls).2.reverse
          · obtain ⟨rfl, hB4⟩ := hyes hR
            have HN : Hid (R = bnd (es.drop (j + 1)) (j + 1) (after L N e.ls).L (after L N e.ls).N) := hide (by rw [HRj.out, if_pos HC0.out, if_pos hR])
            have HB4 : Hid _ := hide hB4
            clear hyes hno hR hB4
            go_wp2
            exact ⟨⟨j + 1, _, _, by omega, by go_num, HB4.out, HN.out⟩, by simp [intOf]; omega⟩
          · obtain ⟨rfl, hb4⟩ := hno hR
            have HN : Hid (R = ((j : Int), 3)) := hide (by rw [HRj.out, if_pos HC0.out, if_neg hR])
            have HB4 : Hid _ := hide hb4
            clear hyes hno hR hb4
            go_wp2
            go_ret2
            exact ⟨by rw [HN.out]; rfl, HB4.out⟩
        · have hne : (ck != 0) = true := by simp [h0]
          have HN : Hid (R = ((j : Int), ck)) := hide (by rw [HRj.out, if_neg (by show ¬ chk e.g e.k e.o e.a e.ls = 0; rw [← hck]; exact h0)]; show ((j : Int), chk e.g e.k e.o e.a e.ls) = _; rw [← hck])
          clear h0 hck
          go_wp2
          go_ret2
          exact ⟨by rw [HN.out]; rfl, HB3.out.bel⟩
      · have HN : Hid (R = (-1, 0)) := hide (by rw [hRj, List.drop_eq_nil_of_le (by rw [HE.out.len]; omega)]; rfl)
        clear hRj
        go_wp2
        go_ret2
        exact ⟨by rw [HN.out]; rfl, HB'.out.bel⟩
  · rw [if_neg hlarge] at hR
    have hl : (1048576 : Int) < n := by omega
    have HN : Hid _ := hide hR
    clear hR hlarge hr hok
    go_enter Tryd.func30, Tryd.ntmps30
    go_wp2
    go_ret2
    exact ⟨by rw [HN.out]; rfl, Below.refl _ _⟩
end Go.Proofs.YtpnacioliccglaaDoor.E6
