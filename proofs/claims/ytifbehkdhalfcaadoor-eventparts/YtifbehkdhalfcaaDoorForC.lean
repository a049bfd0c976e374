/-
  hasRoom of a forest.
-/
import Derived.Test.YtifbehkdhalfcaaDoorForB
namespace Go.Proofs.YtifbehkdhalfcaaDoor
open Go.RowKit Go.Maps Go.Shelf
/-- The unlike strings of a list that a table does not have; the list comes with its last one first. -/
def newR (L : List ByteArray) : List ByteArray → List ByteArray
  | [] => []
  | t :: r => if isIn L t || isIn r t then newR L r else newR L r ++ [t]
def newS (L l : List ByteArray) : List ByteArray := newR L l.reverse
theorem isIn_rev (l : List ByteArray) (s : ByteArray) : isIn l.reverse s = isIn l s := by
  rw [Bool.eq_iff_iff, isIn_iff, isIn_iff, List.mem_reverse]
theorem newS_nil (L : List ByteArray) : newS L [] = [] := rfl
theorem newS_snoc (L l : List ByteArray) (t : ByteArray) : newS L (l ++ [t]) = if isIn L t || isIn l t then newS L l else newS L l ++ [t] := by
  unfold newS; rw [List.reverse_append]; show newR L (t :: l.reverse) = _; rw [newR, isIn_rev]
theorem newS_take {L l : List ByteArray} {k : Nat} (h : k < l.length) : newS L (l.take (k + 1)) = if isIn L (l.getD k ByteArray.empty) || isIn (l.take k) (l.getD k ByteArray.empty) then newS L (l.take k) else newS L (l.take k) ++ [l.getD k ByteArray.empty] := by
  rw [← newS_snoc, List.take_add_one, getD_get h]; rfl
theorem newS_len (L l : List ByteArray) : (newS L l).length ≤ l.length := by
  unfold newS
  have e : l.length = l.reverse.length := by simp
  rw [e]
  clear e
  generalize l.reverse = r
  induction r with
  | nil => simp [newR]
  | cons t r ih => unfold newR; split <;> simp <;> omega
theorem newS_mem (L l : List ByteArray) : ∀ t, t ∈ newS L l ↔ t ∈ l ∧ t ∉ L := by
  intro t
  unfold newS
  have e : t ∈ l ↔ t ∈ l.reverse := by simp
  rw [e]
  clear e
  generalize l.reverse = q
  induction q with
  | nil => simp [newR]
  | cons u r ih =>
    unfold newR
    by_cases h : (isIn L u || isIn r u) = true
    · rw [if_pos h]
      refine Iff.trans ih ?_
      rw [Bool.or_eq_true, isIn_iff, isIn_iff] at h
      constructor
      · rintro ⟨h1, h2⟩; exact ⟨by simp [h1], h2⟩
      · rintro ⟨h1, h2⟩
        rcases List.mem_cons.1 h1 with rfl | h1
        · rcases h with h | h
          · exact absurd h h2
          · exact ⟨h, h2⟩
        · exact ⟨h1, h2⟩
    · rw [if_neg h, List.mem_append]
      rw [Bool.or_eq_true, isIn_iff, isIn_iff] at h
      constructor
      · rintro (h1 | h1)
        · exact ⟨by simp [(ih.1 h1).1], (ih.1 h1).2⟩
        · simp at h1; subst h1; exact ⟨by simp, fun e => h (.inl e)⟩
      · rintro ⟨h1, h2⟩
        rcases List.mem_cons.1 h1 with rfl | h1
        · exact .inr (by simp)
        · exact .inl (ih.2 ⟨h1, h2⟩)
structure Roomy (L : List ByteArray) (n : Nat) (l : List ByteArray) : Prop where
  each : ∀ t ∈ newS L l, t.size ≤ 65536
  count : L.length + (newS L l).length ≤ 65536
  sum : total L + total (newS L l) ≤ 4194304
  nodes : n + l.length ≤ 262144
theorem total_le {l : List ByteArray} (h : ∀ t ∈ l, t.size ≤ 65536) : total l ≤ l.length * 65536 := by
  induction l with
  | nil => simp [total]
  | cons t r ih =>
    have h1 := h t (by simp)
    have h2 := ih (fun x hx => h x (by simp [hx]))
    simp only [total, List.map_cons, List.sum_cons, List.length_cons] at h2 ⊢
    omega
def RoomE (L : List ByteArray) (n : Nat) (l : List ByteArray) (e : Ending) : Prop := ∃ b : Bool, e = .returned (.bool b) ∧ (b = true ↔ Roomy L n l)
set_option maxRecDepth 4000 in
theorem hasRoom_any {w : World} {fb tb : Nat} {S T : Nat → Prop} {N : List Nd} {v : Value} {mb : Nat} {L : List ByteArray} {tv tm : Value} (hT : Tab w tb T L tv tm) (hF : Frs w fb tb S N v mb)
    (a : Option Addr) (n c : Nat) (l : List ByteArray) (hr : SRow w a n l) (hn : n ≤ 16) (hc : n ≤ c) (hz : ∀ s ∈ l, s.size ≤ maxLen) :
    Calls Tryd.prog 41 #[.pointer (some ⟨fb, 0, none⟩), .slice a n c] w fun e w' => RoomE L N.length l e ∧ ∃ k, w' = w.drewN k := by
  have HT : Hid (Tab w tb T L tv tm) := hT
  have HF : Hid (Frs w fb tb S N v mb) := hF
  have HR : Hid (SRow w a n l) := hr
  have HZ : Hid (∀ s ∈ l, s.size ≤ maxLen) := hz
  have HL : Hid (l.length = n) := hr.len
  have hn' : (n : Int) ≤ 16 := by omega
  have c0 := hF.cell0
  have t0 := hT.cell0
  have t2 := hT.cell2
  obtain ⟨ta, tc, rfl⟩ := own_form hT.own
  have hsum : (total L : Int) ≤ 4194304 := by have := hT.sum; omega
  have hcnt : (L.length : Int) ≤ 65536 := by have := hT.len; omega
  have HQ1 : Hid (∀ j, Calls Tryd.prog 50 #[.pointer (some ⟨tb, 0, none⟩)] (w.drewN j) fun e w' => e = .returned (.int .i64 L.length) ∧ w' = w.drewN j) := hide (fun j => len_any tb _ tc ta _ (cell_drewN t0 j))
  have HQ2 : Hid (∀ j, Calls Tryd.prog 51 #[.pointer (some ⟨tb, 0, none⟩)] (w.drewN j) fun e w' => e = .returned (.int .i64 (total L : Nat)) ∧ w' = w.drewN j) := hide (fun j => bytes_any tb _ _ (cell_drewN t2 j))
  clear hT hF hr hz t0 t2
  go_enter Tryd.func41, Tryd.ntmps41
  go_wp2
  go_quiet ((first | (go_at_call 50; exact Calls.quiet_of_same (HQ1.out _)) | (go_at_call 51; exact Calls.quiet_of_same (HQ2.out _))))
  go_wp2
  go_loopw [5, 6, 23] (fun d z i wr => ∃ k q cn sz : Nat, k ≤ n ∧ i = .int .i64 k ∧ d = .int .i64 (cn : Int) ∧ z = .int .i64 (sz : Int) ∧ wr = w.drewN q ∧ cn = L.length + (newS L (l.take k)).length ∧ sz = total L + total (newS L (l.take k)) ∧ ∀ t ∈ newS L (l.take k), t.size ≤ 65536) (fun _ _ i _ => n - (intOf i).toNat)
  case atStart => exact ⟨0, nq, L.length, total L, Nat.zero_le _, rfl, rfl, rfl, rfl, rfl, rfl, by simp [newS, newR]⟩
  case round =>
    obtain ⟨k, q, cn, sz, hk, rfl, rfl, rfl, hw, hcn, hsz, hev⟩ := hrel
    have HW : Hid (wr = w.drewN q) := hw
    have HEV : Hid (∀ t ∈ newS L (l.take k), t.size ≤ 65536) := hev
    have HCN : Hid (cn = L.length + (newS L (l.take k)).length) := hcn
    have HSZ : Hid (sz = total L + total (newS L (l.take k))) := hsz
    have hTr : Hid (Tab wr tb T L (.slice ta L.length tc) tm) := hide (by rw [hw]; exact HT.out.drewN q)
    have hFr : Hid (Frs wr fb tb S N v mb) := hide (by rw [hw]; exact HF.out.drewN q)
    have hRr : Hid (SRow wr a n l) := hide (by rw [hw]; exact HR.out.drewN q)
    have hkl : (newS L (l.take k)).length ≤ k := by have := newS_len L (l.take k); rw [List.length_take] at this; omega
    have hcn' : (cn : Int) ≤ 65552 := by rw [hcn]; omega
    have hsz' : (sz : Int) ≤ 5242880 := by have := total_le hev; rw [hsz]; omega
    have c0 := hFr.out.cell0
    have c1 := hFr.out.cell1
    have hNl := hFr.out.len
    obtain ⟨va, vc, rfl⟩ := own_form hFr.out.own
    clear hw hcn hsz hev hkl
    by_cases hlt : k < n
    · obtain ⟨bo, oo, ha, hco⟩ := hRr.out.at (i := k) (by omega)
      subst ha
      have hN := newS_take (L := L) (l := l) (k := k) (by have := HL.out; omega)
      obtain ⟨s, hs⟩ : ∃ s, s = l.getD k ByteArray.empty := ⟨_, rfl⟩
      have HS : Hid (s.size ≤ maxLen) := hide (by rw [hs]; exact HZ.out _ (List.mem_of_getElem? (getD_get (by have := HL.out; omega))))
      rw [← hs] at hco hN
      obtain ⟨b, hb⟩ : ∃ b, isIn L s = b := ⟨_, rfl⟩
      obtain ⟨fr, hfr⟩ : ∃ fr : Int, fr = if isIn L s then (place L s : Int) else 0 := ⟨_, rfl⟩
      have HQ : Hid (Calls Tryd.prog 49 #[.pointer (some ⟨tb, 0, none⟩), .string s] wr fun e w' => e = .returned (.tuple #[.int .i64 fr, .bool b]) ∧ w' = wr) := hide (by
        have := find_any hTr.out s HS.out
        have e : lookV L s = .tuple #[.int .i64 fr, .bool b] := by unfold lookV; rw [hfr, ← hb]
        rwa [e] at this)
      obtain ⟨b2, hb2⟩ : ∃ b2, isIn (l.take k) s = b2 := ⟨_, rfl⟩
      have HC : Hid (Calls Tryd.prog 52 #[.slice (some ⟨bo, oo, none⟩) k c, .string s] wr fun e w' => e = .returned (.bool b2) ∧ w' = wr) := hide (by
        have := contains_any (some ⟨bo, oo, none⟩) k c (l.take k) s wr (hRr.out.take hk) (by omega)
        rwa [hb2] at this)
      rw [hb, hb2] at hN
      have HN : Hid _ := hide hN
      have HSM : Hid (s ∈ l) := hide (by rw [hs]; exact List.mem_of_getElem? (getD_get (by have := HL.out; omega)))
      have HSN : Hid (b = true ∨ s ∉ L) := hide (by cases b; exact .inr (isIn_not.1 hb); exact .inl rfl)
      have hss : (s.size : Int) ≤ 9223372036854775807 := by have := HS.out; unfold maxLen at this; omega
      clear hs hb hb2 hfr hN
      go_wp2_with fail
      refine HQ.out.mono ?_
      rintro e w' ⟨rfl, rfl⟩
      have hkc : (k : Int) ≤ c := by omega
      cases b
      · go_wp2_with fail
        refine HC.out.mono ?_
        rintro e w'' ⟨rfl, rfl⟩
        cases b2
        · by_cases hbig : (s.size : Int) > 65536
          · go_wp2
            go_ret
            refine ⟨⟨false, rfl, ?_⟩, q, HW.out⟩
            refine ⟨fun e => (by cases e), fun h => ?_⟩
            have := h.each s ((newS_mem L l s).2 ⟨HSM.out, HSN.out.resolve_left (by simp)⟩)
            omega
          · go_wp2
            refine ⟨⟨k + 1, q, cn + 1, sz + s.size, by omega, by go_num, by go_num, by go_num, HW.out, ?_, ?_, ?_⟩, by simp [intOf]; omega⟩
            · rw [HN.out, HCN.out]; simp; omega
            · rw [HN.out, HSZ.out]; simp [total_snoc]; omega
            · rw [HN.out]
              intro t ht
              simp at ht
              rcases ht with ht | rfl
              · exact HEV.out t ht
              · omega
        · go_wp2
          refine ⟨⟨k + 1, q, cn, sz, by omega, by go_num, rfl, rfl, HW.out, ?_, ?_, ?_⟩, by simp [intOf]; omega⟩
          · rw [HN.out, HCN.out]; simp
          · rw [HN.out, HSZ.out]; simp
          · rw [HN.out]; exact HEV.out
      · go_wp2
        refine ⟨⟨k + 1, q, cn, sz, by omega, by go_num, rfl, rfl, HW.out, ?_, ?_, ?_⟩, by simp [intOf]; omega⟩
        · rw [HN.out, HCN.out]; simp
        · rw [HN.out, HSZ.out]; simp
        · rw [HN.out]; exact HEV.out
    · have ht : l.take k = l := List.take_of_length_le (by have := HL.out; omega)
      rw [ht] at HCN HSZ HEV
      have hkn : k = n := by omega
      subst hkn
      by_cases h1 : (cn : Int) ≤ 65536
      · by_cases h2 : (sz : Int) ≤ 4194304
        · by_cases h3 : (N.length : Int) + k ≤ 262144
          · have HX : Hid (Roomy L N.length l) := ⟨HEV.out, by have := HCN.out; omega, by have := HSZ.out; omega, by have := HL.out; omega⟩
            clear ht
            go_wp2
            go_ret
            exact ⟨⟨true, rfl, fun _ => HX.out, fun _ => rfl⟩, q, HW.out⟩
          · have HX : Hid (¬ Roomy L N.length l) := fun h => h3 (by have := h.nodes; have := HL.out; omega)
            clear ht
            go_wp2
            go_ret
            exact ⟨⟨false, rfl, fun e => (by cases e), fun h => absurd h HX.out⟩, q, HW.out⟩
        · have HX : Hid (¬ Roomy L N.length l) := fun h => h2 (by have := h.sum; have := HSZ.out; omega)
          clear ht
          go_wp2
          go_ret
          exact ⟨⟨false, rfl, fun e => (by cases e), fun h => absurd h HX.out⟩, q, HW.out⟩
      · have HX : Hid (¬ Roomy L N.length l) := fun h => h1 (by have := h.count; have := HCN.out; omega)
        clear ht
        go_wp2
        go_ret
        exact ⟨⟨false, rfl, fun e => (by cases e), fun h => absurd h HX.out⟩, q, HW.out⟩
end Go.Proofs.YtifbehkdhalfcaaDoor
