/-
  held.
-/
import Derived.Test.YtkjmmcpjdjjmlaaDoorRgC
namespace Go.Proofs.YtkjmmcpjdjjmlaaDoor
open Go.RowKit Go.Maps Go.Shelf
theorem mod_up {i q s : Nat} (h1 : s ≤ i + q) (h2 : i + q < s + s) : (i + q) % s = i + q - s := by
  rw [Nat.mod_eq_sub_mod h1, Nat.mod_eq_of_lt (by omega)]
/-- The row, told from the oldest on. -/
theorem Rg.told {w : World} {rb b size : Nat} {es : List Ev} {T : List Ab} (h : Rg w rb b size es T) {k lost i n1 n2 : Nat} (hk : k = min T.length size) (hl : lost = T.length - size) (hi : i = lost % size) (h1 : n1 = min (size - i) k) (h2 : n2 = min size (k - n1)) :
    ((es.drop i).take n1 ++ es.take n2).length = k ∧ ((es.drop i).take n1 ++ es.take n2).map Ev.ab = T.drop lost := by
  have hp := h.pos
  have hil : i < size := by rw [hi]; exact Nat.mod_lt _ hp
  have hes := h.len
  have hl1 : ((es.drop i).take n1).length = n1 := by rw [List.length_take, List.length_drop, hes]; omega
  have hl2 : (es.take n2).length = n2 := by rw [List.length_take, hes]; omega
  have hlen : ((es.drop i).take n1 ++ es.take n2).length = k := by rw [List.length_append, hl1, hl2]; omega
  refine ⟨hlen, ?_⟩
  apply List.ext_getElem?
  intro q
  by_cases hq : q < k
  · rw [List.getElem?_drop]
    have hT : lost + q < T.length := by omega
    obtain ⟨e, he, hx⟩ := h.at_ (lost + q) _ (List.getElem?_eq_getElem hT) (by omega)
    rw [List.getElem?_eq_getElem hT, ← hx, List.getElem?_map]
    have hmod : (lost + q) % size = (i + q) % size := by rw [hi, Nat.mod_add_mod]
    rw [hmod] at he
    by_cases hqn : q < n1
    · rw [List.getElem?_append_left (by rw [hl1]; exact hqn), List.getElem?_take, if_pos hqn, List.getElem?_drop]
      rw [Nat.mod_eq_of_lt (by omega)] at he
      rw [he]; rfl
    · rw [List.getElem?_append_right (by rw [hl1]; omega), hl1, List.getElem?_take, if_pos (by omega)]
      rw [mod_up (by omega) (by omega)] at he
      have e9 : i + q - size = q - n1 := by omega
      rw [e9] at he
      rw [he]; rfl
  · rw [List.getElem?_eq_none (by rw [List.length_map, hlen]; omega), List.getElem?_eq_none (by rw [List.length_drop]; omega)]
theorem told_mem {es : List Ev} {i n1 n2 : Nat} {e : Ev} (h : e ∈ (es.drop i).take n1 ++ es.take n2) : e ∈ es := by
  rcases List.mem_append.1 h with h | h
  · exact List.mem_of_mem_drop (List.mem_of_mem_take h)
  · exact List.mem_of_mem_take h
theorem two_copies {D X Y : List Ev} {n1 n2 k : Nat} (hD : D.length = k) (hX : X.length = n1) (hY : Y.length = n2) (hk : n1 + n2 = k) :
    (D.take 0 ++ (X ++ D.drop (0 + n1))).take n1 ++ (Y ++ (D.take 0 ++ (X ++ D.drop (0 + n1))).drop (n1 + n2)) = X ++ Y := by
  rw [List.take_zero, List.nil_append, Nat.zero_add, List.take_left' hX]
  have e : (X ++ D.drop n1).drop (n1 + n2) = [] := List.drop_eq_nil_of_le (by rw [List.length_append, List.length_drop, hX]; omega)
  rw [e, List.append_nil]
set_option maxRecDepth 8000 in
set_option maxHeartbeats 2000000 in
theorem held_any {w : World} {rb b size : Nat} {es : List Ev} {T : List Ab} (h : Rg w rb b size es T) :
    Calls Tryd.prog 17 #[.pointer (some ⟨rb, 0, .none⟩)] w fun e w' => ∃ v es', e = .returned v ∧ Evs w' w.heap.size v es' ∧ es'.map Ev.ab = T.drop (T.length - size) ∧ Below w.heap.size w w' := by
  obtain ⟨k, hk⟩ : ∃ k, k = min T.length size := ⟨_, rfl⟩
  obtain ⟨lost, hl⟩ : ∃ lost, lost = T.length - size := ⟨_, rfl⟩
  obtain ⟨i, hi⟩ : ∃ i, i = lost % size := ⟨_, rfl⟩
  obtain ⟨n1, h1⟩ : ∃ n1, n1 = min (size - i) k := ⟨_, rfl⟩
  obtain ⟨n2, h2⟩ : ∃ n2, n2 = min size (k - n1) := ⟨_, rfl⟩
  have HT := hide (h.told hk hl hi h1 h2)
  have hil : i < size := by rw [hi]; exact Nat.mod_lt _ h.pos
  have hb := h.big
  have ht := h.top
  have hnum : (k : Int) ≤ 65536 ∧ k ≤ size ∧ n1 + n2 = k ∧ n1 ≤ size - i ∧ n2 ≤ size ∧ (lost : Int) ≤ 4000000000000 := by omega
  have HM := hide (missing_any h)
  have HLn := hide (len_any h)
  rw [← hk] at HLn
  rw [← hl]
  have HLs := hide (fun W (hW : Below w.heap.size w W) => lost_any (h.below hW))
  rw [← hl] at HLs
  have HPl := hide (fun W (hW : Below w.heap.size w W) => place_any (h.below hW) lost hnum.2.2.2.2.2)
  rw [← hi] at HPl
  have HH := hide h
  have HI := hide hil
  have HN := hide hnum
  have HE := hide (And.intro h1 h2)
  obtain ⟨i0, hi0, hz0, hz1, hz2⟩ := info_parts Tryd.infoE
  clear hk hl hi h1 h2 hil hb ht hnum h
  go_enter Tryd.func17, Tryd.ntmps17
  go_wp2_with fail
  refine HM.out.mono ?_
  rintro e w1 ⟨rfl, hw1⟩
  rw [hw1]
  clear hw1 w1 HM
  go_wp2_with fail
  refine HLn.out.mono ?_
  rintro e w1 ⟨rfl, q, hw1⟩
  have hb1 : Below w.heap.size w w1 := by rw [hw1]; exact below_drewN (Below.refl _ _) _
  have hz : w1.heap.size = w.heap.size := by rw [hw1]; rfl
  clear hw1 HLn
  have HB1 := hide hb1
  have HZ := hide hz
  clear hb1 hz
  go_wp2_with (at_make; refine wpList_make_full _ rfl _ _ 22 rfl w.heap.size 32 i0 (.agg #[.int .i64 0, .int .i64 0, .int .u64 0, .int .u64 0, .slice .none 0 0]) 5 Tryd.underlying22 hi0 hz0 hz1 _ _ _ _ k rfl rfl rfl rfl ?b2 ?b3 HB1.out.size ?_)
  case b2 => rw [hz2]; have := HN.out; omega
  case b3 => unfold maxLen; have := HN.out; omega
  intro w2 hown2 hgr2
  have hb2 : Below w.heap.size w w2 := HB1.out.grown hgr2 HB1.out.size (fun k h => by cases h)
  have hE2 : Evs w2 w.heap.size (.slice (some ⟨w1.heap.size, 0, .none⟩) k k) (List.replicate k Ev.none) := evs_made hown2
  clear hown2 hgr2
  rw [HZ.out] at hE2 ⊢
  have HE2 := hide hE2
  have HB2 := hide hb2
  have hr2 := HH.out.below hb2
  have r0 := hr2.c0
  have HR2 := hide hr2
  have hiI : (i : Int) < size := by have := HI.out; omega
  clear hE2 hb2 hr2
  have hrb : ¬ rb = w.heap.size := fun e9 => by have := HH.out.lt; omega
  have HSK : Hid (∀ X, But (fun q => q = w.heap.size) w2 X → X.cell? ⟨rb, 0, .none⟩ = some (.slice (some ⟨b, 0, .none⟩) size size)) := hide (fun X hX => cell_but r0 hX hrb)
  have HRow : Hid (∀ X, But (fun q => q = w.heap.size) w2 X → TRow layE X (some ⟨b, 0, .none⟩) size es) := hide (fun X hX => (HR2.out.row.own.but hX (fun g hg e9 => by
    have e8 : g = w.heap.size := e9
    have e7 : b = g := by simpa [Value.ownBlock] using hg
    have := HH.out.blt
    omega)).row HR2.out.len)
  have HRowD : Hid (∀ X, But (fun q => q = w.heap.size) w2 X → TRow layE X (some ⟨b, i * 5, .none⟩) (size - i) (es.drop i)) := hide (fun X hX => by
    have h9 := (HRow.out X hX).drop i (by have := HI.out; omega)
    have e9 : 0 + i * layE.z = i * 5 := Nat.zero_add _
    rw [e9] at h9
    exact h9)
  have hi0I : (0 : Int) ≤ (i : Int) := by omega
  have hi1I : (i : Int) ≤ (size : Int) := by omega
  have hsi : ¬ size = i := by have := HI.out; omega
  have hsiI : ¬ (size : Int) = (i : Int) := by have := HI.out; omega
  have hns : Hid (NoStr w2 (fun q => q = w.heap.size)) := hide (fun q cur fr hq hc => by
    have hq' : q = w.heap.size := hq
    obtain ⟨cur', hc'⟩ := own_ty HE2.out.own (b := w.heap.size) rfl
    rw [hq', hc'] at hc
    simp at hc)
  go_wp2_with fail
  go_region_held3 (fun X => X.cell? ⟨rb, 0, .none⟩ = some (.slice (some ⟨b, 0, .none⟩) size size))
    (first | with_reducible exact HSK.out _ k5 | with_reducible exact HSK.out _ (But.of_below b3) | with_reducible exact HSK.out _ (But.refl _ _) | with_reducible exact HSK.out _ (But.refl _ _).drew)
    (first
      | (go_at_call 11; go_must (refine (HLs.out _ (HB2.out.drew)).mono ?_; rintro e w3 ⟨rfl, q3, hw3⟩; have b3 : Below w2.heap.size w2 w3 := (by rw [hw3]; exact below_drewN (Below.refl _ _).drew _); clear hw3))
      | (go_at_call 15; go_must (refine (HPl.out w3 (Below.trans HB2.out (b3.mono HB2.out.size))).mono ?_; rintro e w4 ⟨rfl, hw4⟩; rw [hw4]; clear hw4 w4))
      | (refine step_copyE rfl (.tmp 10) (.tmp 19) rfl _ _ _ _ _ _ rfl rfl w.heap.size w.heap.size k (List.replicate k Ev.none) (es.drop i) (HE2.out.own.below b3) List.length_replicate (HRowD.out _ (But.of_below b3)) 0 n1 (by have := HE.out.1; exact this.symm) (fun _ => by rw [Nat.zero_mul]) (by have := HN.out; omega) ?_; intro w5 o5 j5; have k5 : But (fun q => q = w.heap.size) w2 w5 := (But.of_below b3).trans j5 (fun _ _ e9 => e9))
      | (refine wp_copyE (.tmp 10) (.tmp 19) rfl _ _ _ _ _ _ rfl rfl w.heap.size w.heap.size k (List.replicate k Ev.none) (es.drop i) (HE2.out.own.below b3) List.length_replicate (HRowD.out _ (But.of_below b3)) 0 n1 (by have := HE.out.1; exact this.symm) (fun _ => by rw [Nat.zero_mul]) (by have := HN.out; omega) ?_; intro w5 o5 j5; have k5 : But (fun q => q = w.heap.size) w2 w5 := (But.of_below b3).trans j5 (fun _ _ e9 => e9)))
  have HO5 := hide o5
  have HK5 := hide k5
  have hLD : ((List.replicate k Ev.none).take 0 ++ ((es.drop i).take n1 ++ (List.replicate k Ev.none).drop (0 + n1))).length = k := by
    have h9 : ((es.drop i).take n1).length = n1 := by have := HN.out; rw [List.length_take, List.length_drop, HH.out.len]; omega
    rw [List.take_zero, List.nil_append, List.length_append, h9, List.length_drop, List.length_replicate]
    have := HN.out; omega
  have HLD := hide hLD
  have r5 := HSK.out _ k5
  have hj0 : (0 : Int) ≤ (n1 : Int) := by omega
  have hj1 : (n1 : Int) ≤ (k : Int) := by have := HN.out; omega
  have HFin : Hid (∀ W, Own layE 32 W w.heap.size (.slice (some ⟨w.heap.size, 0, .none⟩) k k) (((List.replicate k Ev.none).take 0 ++ ((es.drop i).take n1 ++ (List.replicate k Ev.none).drop (0 + n1))).take n1 ++ (es.take n2 ++ ((List.replicate k Ev.none).take 0 ++ ((es.drop i).take n1 ++ (List.replicate k Ev.none).drop (0 + n1))).drop (n1 + n2))) → But (fun q => q = w.heap.size) w2 W →
      ∃ es', Evs W w.heap.size (.slice (some ⟨w.heap.size, 0, .none⟩) k k) es' ∧ es'.map Ev.ab = T.drop lost ∧ Below w.heap.size w W) := hide (fun W hO hB => by
    rw [two_copies (k := k) List.length_replicate (by have := HN.out; rw [List.length_take, List.length_drop, HH.out.len]; omega) (by have := HN.out; rw [List.length_take, HH.out.len]; omega) (by have := HN.out; omega)] at hO
    exact ⟨_, ⟨hO, fun e he => (HR2.out.row.stk e (told_mem he)).but hB hns.out⟩, HT.out.2, Below.trans HB2.out (hB.below HB2.out.size (fun q e9 => by have e8 : q = w.heap.size := e9; omega))⟩)
  clear o5 k5 j5 b3 hLD r0 HLs HPl
  by_cases hkn : k = n1
  · subst hkn
    have HN2 : Hid (n2 = 0) := hide (by have := HN.out; omega)
    go_wp2_with fail
    go_region_held3 (fun X => X.cell? ⟨rb, 0, .none⟩ = some (.slice (some ⟨b, 0, .none⟩) size size))
      (first | with_reducible exact HSK.out _ k7 | with_reducible exact HSK.out _ HK5.out | with_reducible exact HSK.out _ HK5.out.drew)
      (first
        | (refine step_copyE rfl (.tmp 23) (.tmp 27) rfl _ _ _ _ _ _ rfl rfl w.heap.size w.heap.size k ((List.replicate k Ev.none).take 0 ++ ((es.drop i).take k ++ (List.replicate k Ev.none).drop (0 + k))) es (HO5.out.below (Below.refl _ _).drew) HLD.out (HRow.out _ HK5.out.drew) k n2 (by have := HE.out.2; rw [HN2.out]; simp) (fun h9 => by have := HN2.out; omega) (by have := HN.out; omega) ?_; intro w7 o7 j7; have k7 : But (fun q => q = w.heap.size) w2 w7 := HK5.out.drew.trans j7 (fun _ _ e9 => e9))
        | (refine wp_copyE (.tmp 23) (.tmp 27) rfl _ _ _ _ _ _ rfl rfl w.heap.size w.heap.size k ((List.replicate k Ev.none).take 0 ++ ((es.drop i).take k ++ (List.replicate k Ev.none).drop (0 + k))) es (HO5.out.below (Below.refl _ _).drew) HLD.out (HRow.out _ HK5.out.drew) k n2 (by have := HE.out.2; rw [HN2.out]; simp) (fun h9 => by have := HN2.out; omega) (by have := HN.out; omega) ?_; intro w7 o7 j7; have k7 : But (fun q => q = w.heap.size) w2 w7 := HK5.out.drew.trans j7 (fun _ _ e9 => e9)))
    obtain ⟨es', f1, f2, f3⟩ := HFin.out _ o7 k7
    have HF := hide (And.intro f1 (And.intro f2 f3))
    clear f1 f2 f3 o7 k7 j7
    go_wp2
    go_ret
    exact ⟨_, es', rfl, HF.out.1, HF.out.2.1, HF.out.2.2⟩
  · have hknI : ¬ (k : Int) = (n1 : Int) := by omega
    go_wp2_with fail
    go_region_held3 (fun X => X.cell? ⟨rb, 0, .none⟩ = some (.slice (some ⟨b, 0, .none⟩) size size))
      (first | with_reducible exact HSK.out _ k7 | with_reducible exact HSK.out _ HK5.out | with_reducible exact HSK.out _ HK5.out.drew)
      (first
        | (refine step_copyE rfl (.tmp 23) (.tmp 27) rfl _ _ _ _ _ _ rfl rfl w.heap.size w.heap.size k ((List.replicate k Ev.none).take 0 ++ ((es.drop i).take n1 ++ (List.replicate k Ev.none).drop (0 + n1))) es (HO5.out.below (Below.refl _ _).drew) HLD.out (HRow.out _ HK5.out.drew) n1 n2 (by have := HE.out.2; exact this.symm) (fun _ => rfl) (by have := HN.out; omega) ?_; intro w7 o7 j7; have k7 : But (fun q => q = w.heap.size) w2 w7 := HK5.out.drew.trans j7 (fun _ _ e9 => e9))
        | (refine wp_copyE (.tmp 23) (.tmp 27) rfl _ _ _ _ _ _ rfl rfl w.heap.size w.heap.size k ((List.replicate k Ev.none).take 0 ++ ((es.drop i).take n1 ++ (List.replicate k Ev.none).drop (0 + n1))) es (HO5.out.below (Below.refl _ _).drew) HLD.out (HRow.out _ HK5.out.drew) n1 n2 (by have := HE.out.2; exact this.symm) (fun _ => rfl) (by have := HN.out; omega) ?_; intro w7 o7 j7; have k7 : But (fun q => q = w.heap.size) w2 w7 := HK5.out.drew.trans j7 (fun _ _ e9 => e9)))
    obtain ⟨es', f1, f2, f3⟩ := HFin.out _ o7 k7
    have HF := hide (And.intro f1 (And.intro f2 f3))
    clear f1 f2 f3 o7 k7 j7
    go_wp2
    go_ret
    exact ⟨_, es', rfl, HF.out.1, HF.out.2.1, HF.out.2.2⟩
end Go.Proofs.YtkjmmcpjdjjmlaaDoor
