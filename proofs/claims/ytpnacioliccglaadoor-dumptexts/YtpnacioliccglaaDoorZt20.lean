import Derived.Test.YtpnacioliccglaaDoorZt19
import Derived.Test.YtpnacioliccglaaDoorZt18
set_option maxRecDepth 8000
set_option maxHeartbeats 8000000
set_option linter.unusedVariables false
/-
  The document's forest: fits, fresh.
-/
namespace Go.Proofs.YtpnacioliccglaaDoor.E6
open Go.RowKit Go.Maps Go.Shelf
attribute [local go_sem] Oper.semAt_some
theorem cell_below {w w' : World} {a : Addr} {x : Value} (h : w.cell? a = some x) (hb : Below w.heap.size w w') : w'.cell? a = some x := cell_block h (hb.block _ (World.block_lt_of_cell? w _ h))
theorem SRow.below {w w' : World} {a : Option Addr} {n : Nat} {L : List ByteArray} (h : SRow w a n L) (hb : Below w.heap.size w w') : SRow w' a n L := h.but (T := fun _ => False) (But.of_below hb) (fun _ _ _ _ e => e)
theorem RTab.below {w w' : World} {tb : Nat} {S : Nat → Prop} {L : List ByteArray} {v : Value} (h : RTab w tb S L v) (hb : Below w.heap.size w w') : RTab w' tb S L v := h.kept (T := fun _ => False) (But.of_below hb) (fun _ _ e => e)
theorem RFr.below {w w' : World} {fb tb : Nat} {S : Nat → Prop} {N : List Nd} {v : Value} (h : RFr w fb tb S N v) (hb : Below w.heap.size w w') : RFr w' fb tb S N v := h.kept (T := fun _ => False) (But.of_below hb) (fun _ _ e => e)
structure Fits (L ls : List ByteArray) : Prop where
  each : ∀ t ∈ newS L ls, t.size ≤ 65536
  count : L.length + (newS L ls).length ≤ 65536
  sum : total L + total (newS L ls) ≤ 4194304
theorem isIn_newS {L l : List ByteArray} {s : ByteArray} (h : s ∉ L) : isIn (newS L l) s = isIn l s := by
  by_cases hm : s ∈ l
  · rw [isIn_iff.2 hm, isIn_iff.2 ((newS_mem L l s).2 ⟨hm, h⟩)]
  · rw [isIn_not.2 hm, isIn_not.2 (fun e => hm ((newS_mem L l s).1 e).1)]
set_option maxRecDepth 4000 in
theorem rfits_any {w : World} {fb tb : Nat} {S T : Nat → Prop} {N : List Nd} {v : Value} {L : List ByteArray} {tv : Value} (hT : RTab w tb T L tv) (hF : RFr w fb tb S N v)
    (a : Option Addr) (n c : Nat) (l : List ByteArray) (hr : SRow w a n l) (hn : n ≤ 16) (hz : ∀ s ∈ l, s.size ≤ maxLen) :
    Calls Tryd.prog 83 #[.pointer (some ⟨fb, 0, none⟩), .slice a n c] w fun e w' => (∃ b : Bool, e = .returned (.bool b) ∧ (b = true ↔ Fits L l)) ∧ Below w.heap.size w w' := by
  have HT : Hid (RTab w tb T L tv) := hT
  have HF : Hid (RFr w fb tb S N v) := hF
  have HR : Hid (SRow w a n l) := hr
  have HZ : Hid (∀ s ∈ l, s.size ≤ maxLen) := hz
  have HL : Hid (l.length = n) := hr.len
  have hn' : (n : Int) ≤ 16 := by omega
  have c0 := hF.cell0
  have t0 := hT.cell0
  have t1 := hT.cell1
  obtain ⟨ta, tc, rfl⟩ := own_form hT.own
  have hsum : (total L : Int) ≤ 4194304 := by have := hT.sum; omega
  have hcnt : (L.length : Int) ≤ 65536 := by have := hT.len; omega
  have HQ2 : Hid (Calls Tryd.prog 107 #[.pointer (some ⟨tb, 0, none⟩)] w fun e w' => e = .returned (.int .i64 (total L : Nat)) ∧ w' = w) := hide (rbytes_any tb _ _ t1)
  have HQ1 : Hid (∀ W : World, Below w.heap.size w W → Calls Tryd.prog 110 #[.pointer (some ⟨tb, 0, none⟩)] W fun e w' => e = .returned (.int .i64 L.length) ∧ w' = W) := hide (fun W hW => rlen_any tb _ tc ta _ (cell_below HT.out.cell0 hW))
  clear hT hF hr hz t0 t1
  go_enter Tryd.func83, Tryd.ntmps83
  go_wp2_with fail
  refine HQ2.out.mono ?_
  rintro e w' ⟨rfl, hw0⟩
  rw [hw0]
  clear hw0 w'
  go_wp2
  go_loopw [5, 6, 7] (fun m z i wr => ∃ (k sz : Nat) (ma : Option Addr) (mc : Nat), k ≤ n ∧ i = .int .i64 k ∧ m = .slice ma (newS L (l.take k)).length mc ∧ wr.ownsRow w.heap.size 9 1 (.slice ma (newS L (l.take k)).length mc) (newS L (l.take k)).length ((newS L (l.take k)).map Value.string) ∧ z = .int .i64 (sz : Int) ∧ Below w.heap.size w wr ∧ sz = total L + total (newS L (l.take k)) ∧ ∀ t ∈ newS L (l.take k), t.size ≤ 65536) (fun _ _ i _ => n - (intOf i).toNat)
  case atStart => exact ⟨0, total L, none, 0, Nat.zero_le _, rfl, rfl, World.ownsRow_nil _ _ _ _, rfl, Below.refl _ _, rfl, by simp [newS, newR]⟩
  case round =>
    obtain ⟨k, sz, ma, mc, hk, rfl, rfl, hown, rfl, hw, hsz, hev⟩ := hrel
    have HW : Hid (Below w.heap.size w wr) := hw
    have HEV : Hid (∀ t ∈ newS L (l.take k), t.size ≤ 65536) := hev
    have HSZ : Hid (sz = total L + total (newS L (l.take k))) := hsz
    have HO : Hid _ := hide hown
    have hkl : (newS L (l.take k)).length ≤ k := by have := newS_len L (l.take k); rw [List.length_take] at this; omega
    have hsz' : (sz : Int) ≤ 5242880 := by have := total_le hev; rw [hsz]; omega
    have c0 := (HF.out.below hw).cell0
    clear hw hsz hev hown
    by_cases hlt : k < n
    · obtain ⟨bo, oo, ha, hco⟩ := HR.out.at (i := k) (by omega)
      subst ha
      have hN := newS_take (L := L) (l := l) (k := k) (by have := HL.out; omega)
      obtain ⟨s, hs⟩ : ∃ s, s = l.getD k ByteArray.empty := ⟨_, rfl⟩
      have HS : Hid (s.size ≤ maxLen) := hide (by rw [hs]; exact HZ.out _ (List.mem_of_getElem? (getD_get (by have := HL.out; omega))))
      rw [← hs] at hco hN
      have HCO : Hid (∀ W : World, Below w.heap.size w W → W.cell? ⟨bo, oo + k, none⟩ = some (.string s)) := hide (fun W hW => cell_below hco hW)
      have hco := HCO.out wr HW.out
      obtain ⟨b, hb⟩ : ∃ b, isIn L s = b := ⟨_, rfl⟩
      obtain ⟨fr, hfr⟩ : ∃ fr : Int, fr = if isIn L s then (place L s : Int) else 0 := ⟨_, rfl⟩
      have HQ : Hid (∀ j, Calls Tryd.prog 108 #[.pointer (some ⟨tb, 0, none⟩), .string s] (wr.drewN j) fun e w' => e = .returned (.tuple #[.int .i64 fr, .bool b]) ∧ w' = wr.drewN j) := hide (fun j => by
        have := rfind_any (HT.out.below (below_drewN HW.out j)) s
        have e : lookV L s = .tuple #[.int .i64 fr, .bool b] := by unfold lookV; rw [hfr, ← hb]
        rwa [e] at this)
      obtain ⟨M, hM⟩ : ∃ M, newS L (l.take k) = M := ⟨_, rfl⟩
      rw [hM] at HO HSZ HEV hN hkl
      obtain ⟨b2, hb2⟩ : ∃ b2, isIn M s = b2 := ⟨_, rfl⟩
      have HC : Hid (∀ W : World, W.ownsRow w.heap.size 9 1 (.slice ma M.length mc) M.length (M.map Value.string) → Calls Tryd.prog 109 #[.slice ma M.length mc, .string s] W fun e w' => e = .returned (.bool b2) ∧ w' = W) := hide (fun W hW => by
        have := within_any ma M.length mc M s W (SRow.of_own hW) (by omega)
        rwa [hb2] at this)
      have HN : Hid (newS L (l.take (k + 1)) = if b || b2 then M else M ++ [s]) := hide (by
        rw [hN, hb]
        cases b
        · rw [← hb2, ← hM, isIn_newS (isIn_not.1 hb)]
        · rfl)
      have HSM : Hid (s ∈ l) := hide (by rw [hs]; exact List.mem_of_getElem? (getD_get (by have := HL.out; omega)))
      have HSN : Hid (b = true ∨ s ∉ L) := hide (by cases b; exact .inr (isIn_not.1 hb); exact .inl rfl)
      have hss : (s.size : Int) ≤ 9223372036854775807 := by have := HS.out; unfold maxLen at this; omega
      have hMl : (M.length : Int) ≤ 16 := by omega
      rw [hM]
      clear hs hb hb2 hfr hN hM hkl
      go_wp2
      go_quiet ((go_at_call 108; exact Calls.quiet_of_same (HQ.out _)))
      have HW1 : Hid (Below w.heap.size w (wr.drewN nq)) := hide (below_drewN HW.out nq)
      have HO1 : Hid ((wr.drewN nq).ownsRow w.heap.size 9 1 (.slice ma M.length mc) M.length (M.map Value.string)) := hide (own_but HO.out (But.of_below (S := fun _ => False) (below_drewN (Below.refl _ _) nq)) (fun _ _ e => e))
      generalize wr.drewN nq = W1 at HW1 HO1 ⊢
      clear HO HQ
      have hco := HCO.out W1 HW1.out
      cases b
      · go_wp2_with fail
        refine (HC.out _ HO1.out).mono ?_
        rintro e w'' ⟨rfl, rfl⟩
        cases b2
        · by_cases hbig : (s.size : Int) > 65536
          · go_wp2
            go_ret
            refine ⟨⟨false, rfl, ?_⟩, HW1.out⟩
            refine ⟨fun e => (by cases e), fun h => ?_⟩
            have := h.each s ((newS_mem L l s).2 ⟨HSM.out, HSN.out.resolve_left (by simp)⟩)
            omega
          · go_wp2_with (first
              | (at_builtin; refine append_str _ rfl _ _ rfl w.heap.size (.slice ma M.length mc) M rfl (HO1.out.alloc _) w''.heap.size s rfl (cell_new _ _ _) (by omega) (Nat.le_trans HW1.out.size (by simp)) ?_
                 intro a2 c2 w2 o2 g2 hloc
                 have k2 : Hid (But (fun k => (Value.slice ma M.length mc).ownBlock = some k) w'' w2) := hide (((But.refl _ w'').alloc _).grown g2 (fun k _ e => e))
                 have HW2 : Hid (Below w.heap.size w w2) := hide (HW1.out.trans (k2.out.below HW1.out.size (by
                   intro k e
                   rcases HO1.out.2 with ⟨hv, _⟩ | ⟨g', cap, cur, hv, hb, _⟩
                   · rw [hv] at e; simp [Value.ownBlock] at e
                   · rw [hv] at e; simp [Value.ownBlock] at e; omega)))
                 have hco2 := HCO.out w2 HW2.out
                 have O2 : Hid _ := hide o2
                 clear o2 g2 hloc hco)
              | go_in)
            refine ⟨⟨k + 1, sz + s.size, a2, c2, by omega, by go_num, ?_, ?_, by go_num, HW2.out, ?_, ?_⟩, by simp [intOf]; omega⟩
            · rw [HN.out]; simp
            · rw [HN.out]; simpa using O2.out
            · rw [HN.out, HSZ.out]; simp [total_snoc]; omega
            · rw [HN.out]
              intro t ht
              simp at ht
              rcases ht with ht | rfl
              · exact HEV.out t ht
              · omega
        · go_wp2
          refine ⟨⟨k + 1, sz, ma, mc, by omega, by go_num, ?_, ?_, rfl, HW1.out, ?_, ?_⟩, by simp [intOf]; omega⟩
          · rw [HN.out]; simp
          · rw [HN.out]; simpa using HO1.out
          · rw [HN.out, HSZ.out]; simp
          · rw [HN.out]; exact HEV.out
      · go_wp2
        refine ⟨⟨k + 1, sz, ma, mc, by omega, by go_num, ?_, ?_, rfl, HW1.out, ?_, ?_⟩, by simp [intOf]; omega⟩
        · rw [HN.out]; simp
        · rw [HN.out]; simpa using HO1.out
        · rw [HN.out, HSZ.out]; simp
        · rw [HN.out]; exact HEV.out
    · have ht : l.take k = l := List.take_of_length_le (by have := HL.out; omega)
      rw [ht] at HSZ HEV hkl ⊢
      have hMl : ((newS L l).length : Int) ≤ 16 := by omega
      obtain ⟨M, hM⟩ : ∃ M, newS L l = M := ⟨_, rfl⟩
      have HX : Hid (Fits L l ↔ (L.length : Int) + M.length ≤ 65536 ∧ (sz : Int) ≤ 4194304) := hide (by
        have h1 := HSZ.out
        constructor
        · intro h; have := h.count; have := h.sum; rw [hM] at *; omega
        · intro h; exact ⟨HEV.out, by rw [hM]; omega, by omega⟩)
      rw [hM] at hMl hkl HSZ ⊢
      clear ht
      by_cases h0 : M.length = 0
      · have h0' : ((M.length : Int) == 0) = true := by rw [beq_iff_eq]; omega
        have HY : Hid (Fits L l) := hide (HX.out.2 ⟨by omega, by have := HSZ.out; have e0 : total M = 0 := (by rw [List.eq_nil_of_length_eq_zero h0]; rfl); omega⟩)
        clear hM h0
        go_wp2
        go_ret
        exact ⟨⟨true, rfl, fun _ => HY.out, fun _ => rfl⟩, HW.out⟩
      · have h0' : ((M.length : Int) == 0) = false := by rw [beq_eq_false_iff_ne]; omega
        clear hM h0
        by_cases h1 : (L.length : Int) + M.length ≤ 65536
        · by_cases h2 : (sz : Int) ≤ 4194304
          · go_wp2_with fail
            refine (HQ1.out _ HW.out).mono ?_
            rintro e w'' ⟨rfl, rfl⟩
            go_wp2
            go_ret
            exact ⟨⟨true, rfl, fun _ => HX.out.2 ⟨h1, h2⟩, fun _ => rfl⟩, HW.out⟩
          · have HY : Hid (¬ Fits L l) := hide (fun h => h2 (HX.out.1 h).2)
            have d2 : decide ((sz : Int) ≤ 4194304) = false := decide_eq_false h2
            clear h2
            go_wp2_with fail
            refine (HQ1.out _ HW.out).mono ?_
            rintro e w'' ⟨rfl, rfl⟩
            go_wp2
            go_ret
            exact ⟨⟨false, by rw [← d2]; rfl, fun e => (by cases e), fun h => absurd h HY.out⟩, HW.out⟩
        · have HY : Hid (¬ Fits L l) := hide (fun h => h1 (HX.out.1 h).1)
          have d2 : decide ((L.length : Int) + M.length ≤ 65536) = false := decide_eq_false h1
          clear h1
          go_wp2_with fail
          refine (HQ1.out _ HW.out).mono ?_
          rintro e w'' ⟨rfl, rfl⟩
          go_wp2
          go_ret
          exact ⟨⟨false, rfl, fun e => (by cases e), fun h => absurd h HY.out⟩, HW.out⟩
set_option maxRecDepth 4000 in
theorem rfresh_any {w : World} {fb tb : Nat} {S T : Nat → Prop} {N : List Nd} {v : Value} {L : List ByteArray} {tv : Value} (hT : RTab w tb T L tv) (hF : RFr w fb tb S N v)
    (a : Option Addr) (n c : Nat) (ls : List ByteArray) (hr : SRow w a n ls) (hn : n ≤ 16) (hz : ∀ s ∈ ls, s.size ≤ maxLen) :
    Calls Tryd.prog 84 #[.pointer (some ⟨fb, 0, none⟩), .slice a n c] w fun e w' => e = .returned (.int .i64 ((kn L N 0 ls.reverse).2.length : Int)) ∧ Below w.heap.size w w' := by
  have HT : Hid (RTab w tb T L tv) := hT
  have HF : Hid (RFr w fb tb S N v) := hF
  have HR : Hid (SRow w a n ls) := hr
  have HZ : Hid (∀ s ∈ ls, s.size ≤ maxLen) := hz
  have HL : Hid (ls.length = n) := hr.len
  have hn' : (n : Int) ≤ 16 := by omega
  clear hT hF hr hz
  go_enter Tryd.func84, Tryd.ntmps84
  go_wp2
  go_loopw [5, 6] (fun d i wr => ∃ k id : Nat, k ≤ n ∧ i = .int .i64 ((k : Int) - 1) ∧ d = .int .i64 id ∧ id ≤ 262144 ∧ Below w.heap.size w wr ∧ (kn L N 0 ls.reverse).2.length = (kn L N id (ls.take k).reverse).2.length) (fun _ i _ => (intOf i + 1).toNat)
  case atStart => exact ⟨n, 0, Nat.le_refl _, rfl, rfl, by omega, Below.refl _ _, by rw [List.take_of_length_le (by have := HL.out; omega)]⟩
  case round =>
    obtain ⟨k, id, hk, rfl, rfl, hid, hw, he⟩ := hrel
    have HW : Hid (Below w.heap.size w wr) := hw
    have HE : Hid _ := hide he
    have c0 := (HF.out.below hw).cell0
    clear hw he
    cases k with
    | zero =>
      have hX : Hid ((kn L N 0 ls.reverse).2.length = 0) := hide (by rw [HE.out]; rfl)
      go_wp2
      go_ret
      exact ⟨by rw [hX.out]; rfl, HW.out⟩
    | succ k =>
      obtain ⟨bo, oo, ha, hco⟩ := HR.out.at (i := k) (by omega)
      subst ha
      obtain ⟨s, hs⟩ : ∃ s, s = ls.getD k ByteArray.empty := ⟨_, rfl⟩
      have HE2 : Hid ((kn L N 0 ls.reverse).2.length = (kn L N id (s :: (ls.take k).reverse)).2.length) := hide (by rw [HE.out, take_rev (by have := HL.out; omega), hs])
      rw [← hs] at hco
      have hco := cell_below hco HW.out
      obtain ⟨fr, hfr⟩ : ∃ fr : Nat, fr = if isIn L s then place L s else 0 := ⟨_, rfl⟩
      have hfr2 : fr ≤ 65536 := by
        have := HT.out.len
        rw [hfr]; split
        · rename_i hin; have := (List.getElem?_eq_some_iff.1 (place_get (isIn_iff.1 hin))).1; omega
        · omega
      obtain ⟨b, hb⟩ : ∃ b, isIn L s = b := ⟨_, rfl⟩
      have HQ : Hid (∀ j, Calls Tryd.prog 108 #[.pointer (some ⟨tb, 0, none⟩), .string s] (wr.drewN j) fun e w' => e = .returned (.tuple #[.int .i64 (fr : Int), .bool b]) ∧ w' = wr.drewN j) := hide (fun j => by
        have := rfind_any (HT.out.below (below_drewN HW.out j)) s
        have e : lookV L s = .tuple #[.int .i64 (fr : Int), .bool b] := by unfold lookV; rw [hfr, ← hb]; split <;> rfl
        rwa [e] at this)
      have HKL : Hid ((ls.take k).length = k) := hide (by have := HL.out; simp; omega)
      have HK : Hid ((kn L N 0 ls.reverse).2.length = if b = true ∧ nid N (id, fr) ≠ 0 then (kn L N (nid N (id, fr)) (ls.take k).reverse).2.length else k + 1) := hide (by
        have e1 := HKL.out
        rw [HE2.out, kn, ← hb, hfr]
        cases h : isIn L s
        · simpa using e1
        · have e2 : k ≤ ls.length := by have := HL.out; omega
          by_cases h0 : nid N (id, place L s) = 0 <;> simp [h0, e2])
      have hi0 : ((k + 1 : Nat) : Int) - 1 = (k : Int) := by omega
      rw [hi0]
      have HNl : Hid (nid N (id, fr) ≤ 262144) := hide (Nat.le_trans (nid_le _ _) HF.out.len)
      clear hs HE HE2 hfr hb HKL hi0
      go_wp2
      go_quiet ((go_at_call 108; exact Calls.quiet_of_same (HQ.out _)))
      have HW1 : Hid (Below w.heap.size w (wr.drewN nq)) := hide (below_drewN HW.out nq)
      generalize wr.drewN nq = W1 at HW1 ⊢
      clear HQ
      have HFd : Hid (Calls Tryd.prog 86 #[.pointer (some ⟨fb, 0, none⟩), nodeV (id, fr)] W1 fun e w' => e = .returned (.int .i64 (nid N (id, fr) : Int)) ∧ Below W1.heap.size W1 w') := hide (find_f (HF.out.below HW1.out) (id, fr))
      unfold nodeV at HFd
      cases b
      · have HX : Hid ((kn L N 0 ls.reverse).2.length = k + 1) := hide (by rw [HK.out, if_neg (by simp)])
        go_wp2
        go_ret
        exact ⟨by rw [HX.out]; simp, HW1.out⟩
      · obtain ⟨q, hq⟩ : ∃ q, nid N (id, fr) = q := ⟨_, rfl⟩
        rw [hq] at HK HNl HFd
        clear hq
        go_wp2_with fail
        refine HFd.out.mono ?_
        rintro e w2 ⟨rfl, hb2⟩
        have HW2 : Hid (Below w.heap.size w w2) := hide (HW1.out.trans (hb2.mono HW1.out.size))
        clear hb2
        by_cases hq0 : q = 0
        · have HX : Hid ((kn L N 0 ls.reverse).2.length = k + 1) := hide (by rw [HK.out, if_neg (by simp [hq0])])
          have e0 : ((q : Int) == 0) = true := by rw [beq_iff_eq]; omega
          clear hq0
          go_wp2
          go_ret
          exact ⟨by rw [HX.out]; simp, HW2.out⟩
        · have HX : Hid ((kn L N 0 ls.reverse).2.length = (kn L N q (ls.take k).reverse).2.length) := hide (by rw [HK.out, if_pos ⟨trivial, hq0⟩])
          have e0 : ((q : Int) == 0) = false := by rw [beq_eq_false_iff_ne]; omega
          clear hq0
          go_wp2
          exact ⟨⟨k, q, by omega, rfl, rfl, HNl.out, HW2.out, HX.out⟩, by simp [intOf]⟩
end Go.Proofs.YtpnacioliccglaaDoor.E6
/-
  The document's forest: Intern as mathematics.
-/
namespace Go.Proofs.YtpnacioliccglaaDoor.E6
open Go.RowKit Go.Maps Go.Shelf
theorem newS_known {L : List ByteArray} : ∀ (q l : List ByteArray), (∀ t ∈ q, t ∈ L) → newS L (l ++ q) = newS L l := by
  intro q
  induction q with
  | nil => intro l _; simp
  | cons x q ih =>
    intro l h
    have e : l ++ x :: q = (l ++ [x]) ++ q := by simp
    rw [e, ih _ (fun t ht => h t (by simp [ht])), newS_snoc, isIn_iff.2 (h x (by simp))]
    simp
theorem kn_split {L : List ByteArray} {N : List Nd} : ∀ (r : List ByteArray) (id : Nat), ∃ q, r = q ++ (kn L N id r).2 ∧ ∀ t ∈ q, t ∈ L := by
  intro r
  induction r with
  | nil => intro id; exact ⟨[], by simp [kn], by simp⟩
  | cons s r ih =>
    intro id
    rw [kn]
    split
    · rename_i h
      obtain ⟨q, h1, h2⟩ := ih (nid N (id, place L s))
      refine ⟨s :: q, by rw [List.cons_append, ← h1], ?_⟩
      intro t ht
      rcases List.mem_cons.1 ht with rfl | ht
      · exact isIn_iff.1 h.1
      · exact h2 t ht
    · exact ⟨[], by simp, by simp⟩
theorem roomy_fits {L : List ByteArray} {N : List Nd} {ls : List ByteArray} : Roomy L N.length (kn L N 0 ls.reverse).2.reverse ↔ Fits L ls ∧ N.length + (kn L N 0 ls.reverse).2.length ≤ 262144 := by
  obtain ⟨q, h1, h2⟩ := kn_split (L := L) (N := N) ls.reverse 0
  have e : ls = (kn L N 0 ls.reverse).2.reverse ++ q.reverse := by
    have := congrArg List.reverse h1
    simpa using this
  have hn : newS L ls = newS L (kn L N 0 ls.reverse).2.reverse := by
    conv => lhs; rw [e]
    exact newS_known _ _ (fun t ht => h2 t (by simpa using ht))
  constructor
  · rintro ⟨a, b, c, d⟩
    exact ⟨⟨by rw [hn]; exact a, by rw [hn]; exact b, by rw [hn]; exact c⟩, by simpa using d⟩
  · rintro ⟨⟨a, b, c⟩, d⟩
    exact ⟨by rw [← hn]; exact a, by rw [← hn]; exact b, by rw [← hn]; exact c, by simpa using d⟩
/-- One frame, as the document takes it. -/
def rstp (s : Stt) (t : ByteArray) : Stt := if nid s.N (s.id, place (internL s.L t) t) = 0 then stp s t else ⟨internL s.L t, s.N, nid s.N (s.id, place (internL s.L t) t)⟩
/-- Between two frames; r is still to come. -/
def Way (L : List ByteArray) (N : List Nd) (ls : List ByteArray) (r : List ByteArray) (s : Stt) : Prop :=
  (s.L = L ∧ s.N = N ∧ s.id ≤ N.length ∧ kn L N 0 ls.reverse = kn L N s.id r) ∨
  (∃ k, Mid L N (kn L N 0 ls.reverse).1 (kn L N 0 ls.reverse).2.reverse k s ∧ (kn L N 0 ls.reverse).2.drop k = r ∧ runs s r = after L N ls)
theorem Way.start (L : List ByteArray) (N : List Nd) (ls : List ByteArray) : Way L N ls ls.reverse ⟨L, N, 0⟩ := .inl ⟨rfl, rfl, Nat.zero_le _, rfl⟩
theorem Way.end {L : List ByteArray} {N : List Nd} {ls : List ByteArray} {s : Stt} (h : Way L N ls [] s) : s = after L N ls := by
  rcases h with ⟨h1, h2, _, h4⟩ | ⟨k, _, _, h⟩
  · unfold after left
    rw [h4, kn, ← h1, ← h2]
    rfl
  · rw [← h]; rfl
structure Takes (s : Stt) (t : ByteArray) : Prop where
  ans : internV s.L t = .tuple #[.int .i64 (place (internL s.L t) t : Int), .int .i64 0]
  mem : t ∈ internL s.L t
  room : nid s.N (s.id, place (internL s.L t) t) = 0 → s.N.length < 262144
  idle : s.id ≤ s.N.length
theorem Way.step {L : List ByteArray} {N : List Nd} {ls r : List ByteArray} {s : Stt} {t : ByteArray} (h : Way L N ls (t :: r) s) (hf : Good L N) (hd : L.Nodup) (hR : Roomy L N.length (kn L N 0 ls.reverse).2.reverse) : Takes s t ∧ Way L N ls r (rstp s t) := by
  have key : ∀ k, Mid L N (kn L N 0 ls.reverse).1 (kn L N 0 ls.reverse).2.reverse k s → (kn L N 0 ls.reverse).2.drop k = t :: r → runs s (t :: r) = after L N ls → Takes s t ∧ Way L N ls r (rstp s t) := by
    intro k hM hk hr
    have hx : (kn L N 0 ls.reverse).2.reverse.reverse[k]? = some t := by
      rw [List.reverse_reverse]
      have := congrArg (fun l => l[0]?) hk
      simpa using this
    have hmem : t ∈ (kn L N 0 ls.reverse).2.reverse := by have := List.mem_of_getElem? hx; simpa using this
    have hA := hM.answers hR hmem
    have hS := hM.step hR hx
    have h0 : nid s.N (s.id, place (internL s.L t) t) = 0 := nid_none (hM.fresh t hx)
    have e : rstp s t = stp s t := by rw [rstp, if_pos h0]
    refine ⟨⟨hA.1, hA.2, fun _ => ?_, hM.idle⟩, .inr ⟨k + 1, by rw [e]; exact hS, by rw [← List.drop_drop, hk]; rfl, by rw [e]; exact hr⟩⟩
    have h1 := hM.nodes
    have h2 := hR.nodes
    have h3 : k < (kn L N 0 ls.reverse).2.length := by rw [List.reverse_reverse] at hx; exact (List.getElem?_eq_some_iff.1 hx).1
    rw [List.length_reverse] at h2
    omega
  rcases h with ⟨h1, h2, h3, h4⟩ | ⟨k, hM, hk, hr⟩
  · rw [kn] at h4
    split at h4
    · rename_i hc
      have hin : t ∈ L := isIn_iff.1 hc.1
      have eL : internL s.L t = L := by rw [h1]; exact internL_old hin
      have hz : ¬ nid s.N (s.id, place (internL s.L t) t) = 0 := by rw [eL, h2]; exact hc.2
      refine ⟨⟨?_, by rw [eL]; exact hin, fun e => absurd e hz, by rw [h2]; exact h3⟩, .inl ?_⟩
      · rw [eL, h1]; unfold internV; rw [isIn_iff.2 hin]; rfl
      · rw [rstp, if_neg hz]
        refine ⟨eL, h2, ?_, ?_⟩
        · show nid s.N _ ≤ _
          rw [h2]; exact nid_le _ _
        · show _ = kn L N (nid s.N (s.id, place (internL s.L t) t)) r
          rw [eL, h2]; exact h4
    · have hM := Mid.start (r0 := ls.reverse) hf hd rfl hR
      have e1 : (kn L N 0 ls.reverse).1 = s.id := by rw [h4]
      have e2 : (kn L N 0 ls.reverse).2 = t :: r := by rw [h4]
      have es : (⟨L, N, (kn L N 0 ls.reverse).1⟩ : Stt) = s := by rw [e1, ← h1, ← h2]
      rw [es] at hM
      refine key 0 hM (by rw [e2]; rfl) ?_
      unfold after left
      rw [es, e2]
  · exact key k hM hk hr
theorem Res.det {L L1 L2 : List ByteArray} {N N1 N2 : List Nd} {P P1 P2 : List Stk} {ls : List ByteArray} {i1 i2 : Nat} {e1 e2 : Int} (h : Res L N P ls i1 e1 L1 N1 P1) (k : Res L N P ls i2 e2 L2 N2 P2) : i1 = i2 ∧ e1 = e2 ∧ L1 = L2 ∧ N1 = N2 ∧ P1 = P2 := by
  cases h <;> cases k <;> first | exact ⟨rfl, rfl, rfl, rfl, rfl⟩ | (exfalso; omega) | (exfalso; contradiction)
/-- The document's table and a forest over it. -/
structure RSt (w : World) (T S : Nat → Prop) (tb fb : Nat) (L : List ByteArray) (N : List Nd) : Prop where
  both : ∃ tv v, RTab w tb T L tv ∧ RFr w fb tb S N v
  dis : ∀ k, T k → ¬ S k
  tlt : ∀ k, T k → k < w.heap.size
  slt : ∀ k, S k → k < w.heap.size
theorem RSt.but {w w' : World} {T S U : Nat → Prop} {tb fb : Nat} {L : List ByteArray} {N : List Nd} (h : RSt w T S tb fb L N) (hb : But U w w') (hT : ∀ k, T k → ¬ U k) (hS : ∀ k, S k → ¬ U k) : RSt w' T S tb fb L N := by
  obtain ⟨tv, v, h1, h2⟩ := h.both
  exact ⟨⟨tv, v, h1.kept hb hT, h2.kept hb hS⟩, h.dis, fun k hk => Nat.lt_of_lt_of_le (h.tlt k hk) hb.size, fun k hk => Nat.lt_of_lt_of_le (h.slt k hk) hb.size⟩
theorem RSt.below {w w' : World} {T S : Nat → Prop} {tb fb : Nat} {L : List ByteArray} {N : List Nd} (h : RSt w T S tb fb L N) (hb : Below w.heap.size w w') : RSt w' T S tb fb L N := h.but (U := fun _ => False) (But.of_below hb) (fun _ _ e => e) (fun _ _ e => e)
theorem Tryd.infoRNode : (Tryd.prog.info? 134).map (fun i => (i.zero, i.size, i.bytes)) = some (some (.agg #[.int .i64 0, .int .i64 0]), 2, 16) := by kernel_rfl
theorem append_rnode (w : World) {ops : Array Oper} {rest : List Oper} {o : Oper} {a : Act} {Q : Exit → Act → World → Prop} (hgd : o.guard = none) (s x : Operand)
    (ho : o.op = .call { callee := .builtin .append, args := #[s, x], argTypes := #[126, 126] })
    (v : Value) (N : List Nd) (hs : a.eval s = v) (hown : w.ownsRow 0 134 2 v N.length (ncells N))
    (X : Nat) (n : Nd) (hx : a.eval x = .slice (some ⟨X, 0, none⟩) 1 1) (c0 : w.cell? ⟨X, 0, none⟩ = some (.int .i64 (n.1 : Int))) (c1 : w.cell? ⟨X, 1, none⟩ = some (.int .i64 (n.2 : Int)))
    (hb : (N.length : Int) ≤ 4294967296)
    (h : ∀ (a' : Option Addr) (c' : Nat) w', w'.ownsRow 0 134 2 (.slice a' (N.length + 1) c') (N.length + 1) (ncells (N ++ [n])) → w.grownBy w' v.ownBlock → ((Value.slice a' (N.length + 1) c').ownBlock = v.ownBlock ∨ (Value.slice a' (N.length + 1) c').ownBlock = some w.heap.size) → wpList Tryd.prog ops Q rest (a.put o.dst (.slice a' (N.length + 1) c')) w') : wpList Tryd.prog ops Q (o :: rest) a w := by
  obtain ⟨i0, hi, hz0, hz1, hz2⟩ := info_parts Tryd.infoRNode
  refine wpList_append_own_at w hgd s x 126 ho 0 134 i0 _ 2 16 Tryd.underlying126 hi hz0 hz1 hz2 rfl (by decide) v N.length _ hs hown ⟨X, 0, none⟩ 1 1 [.int .i64 (n.1 : Int), .int .i64 (n.2 : Int)] hx rfl
    (by intro j u hu
        match j, hu with
        | 0, hu => simp at hu; subst hu; simpa [Addr.add] using c0
        | 1, hu => simp at hu; subst hu; simpa [Addr.add] using c1)
    (by intro u hu; simp at hu; rcases hu with rfl | rfl <;> rfl) (by unfold maxLen; omega) (by omega) (Nat.zero_le _) ?_
  intro v' w' h1 h2 _ h3
  obtain ⟨a', c', rfl⟩ := own_form h1
  exact h a' c' w' (by rw [ncells_snoc]; exact h1) h2 h3
end Go.Proofs.YtpnacioliccglaaDoor.E6
