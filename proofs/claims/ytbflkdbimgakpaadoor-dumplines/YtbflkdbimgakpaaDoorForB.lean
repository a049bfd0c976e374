/-
  slices.Contains of strings; known.
-/
import Derived.Test.YtbflkdbimgakpaaDoorForA
namespace Go.Proofs.YtbflkdbimgakpaaDoor.E6
open Go.RowKit Go.Maps Go.Shelf
theorem str_eq {a b : ByteArray} (h : (a.toList == b.toList) = true) : a = b := by
  have e := eq_of_beq h
  rw [ByteArray.toList_eq, ByteArray.toList_eq] at e
  exact skey_inj (by unfold skey; rw [e])
theorem str_ne {a b : ByteArray} (h : (a.toList == b.toList) = false) : a ≠ b := by
  intro e; subst e; simp at h
theorem isIn_take_succ {L : List ByteArray} {s : ByteArray} {k : Nat} (hk : k < L.length) (hne : L.getD k ByteArray.empty ≠ s) (h : isIn (L.take k) s = false) : isIn (L.take (k + 1)) s = false := by
  rw [isIn_not] at h ⊢
  intro hm
  rw [List.take_add_one, List.mem_append] at hm
  rcases hm with hm | hm
  · exact h hm
  · rw [List.getElem?_eq_getElem hk] at hm
    simp at hm
    exact hne (by rw [List.getD_eq_getElem?_getD, List.getElem?_eq_getElem hk]; simp [hm])
theorem getD_get {L : List ByteArray} {k : Nat} (h : k < L.length) : L[k]? = some (L.getD k ByteArray.empty) := by
  rw [List.getD_eq_getElem?_getD]; simp [h]
theorem SRow.take {w : World} {a : Option Addr} {n : Nat} {L : List ByteArray} (h : SRow w a n L) {k : Nat} (hk : k ≤ n) : SRow w a k (L.take k) := by
  refine ⟨by have := h.len; simp; omega, ?_⟩
  rcases h.cells with h0 | ⟨b, off, ha, hc⟩
  · exact .inl (by omega)
  · refine .inr ⟨b, off, ha, fun i hi => ?_⟩
    rw [hc i (by omega)]
    simp [List.getD_eq_getElem?_getD, hi]
theorem SRow.but {T : Nat → Prop} {w w' : World} {a : Option Addr} {n : Nat} {L : List ByteArray} (h : SRow w a n L) (hb : But T w w') (hT : ∀ b off, a = some ⟨b, off, none⟩ → n ≠ 0 → ¬ T b) : SRow w' a n L := by
  refine ⟨h.len, ?_⟩
  by_cases hn : n = 0
  · exact .inl hn
  · rcases h.cells with h0 | ⟨b, off, ha, hc⟩
    · exact absurd h0 hn
    · refine .inr ⟨b, off, ha, fun i hi => ?_⟩
      rw [← hc i hi]
      have hlt : b < w.heap.size := by
        have := hc i hi
        unfold World.cell? at this
        cases hh : w.heap[b]? with
        | none => simp [hh] at this
        | some o => exact (Array.getElem?_eq_some_iff.1 hh).1
      have := hb.block b hlt (hT b off ha hn)
      unfold World.cell?
      rw [this]
theorem SRow.drewN {w : World} {a : Option Addr} {n : Nat} {L : List ByteArray} (h : SRow w a n L) (j : Nat) : SRow (w.drewN j) a n L :=
  h.but (T := fun _ => False) (But.of_below (below_drewN (Below.refl _ _) j)) (fun _ _ _ _ e => e)
theorem Tab.drewN {w : World} {tb : Nat} {S : Nat → Prop} {L : List ByteArray} {v mv : Value} (h : Tab w tb S L v mv) (j : Nat) : Tab (w.drewN j) tb S L v mv :=
  h.kept (T := fun _ => False) (But.of_below (below_drewN (Below.refl _ _) j)) (fun _ _ e => e)
theorem Frs.drewN {w : World} {fb tb : Nat} {S : Nat → Prop} {N : List Nd} {v : Value} {mb : Nat} (h : Frs w fb tb S N v mb) (j : Nat) : Frs (w.drewN j) fb tb S N v mb :=
  h.kept (T := fun _ => False) (But.of_below (below_drewN (Below.refl _ _) j)) (fun _ _ e => e)
theorem cell_drewN {w : World} {a : Addr} {x : Value} (h : w.cell? a = some x) (j : Nat) : (w.drewN j).cell? a = some x := by
  have := (below_drewN (Below.refl (a.block + 1) w) j).cell (p := a) (by omega)
  rw [this]; exact h
def indexV (L : List ByteArray) (s : ByteArray) : Int := if isIn L s then (place L s : Int) else -1
theorem place_take {L : List ByteArray} {s : ByteArray} {k : Nat} (hk : L[k]? = some s) (h : isIn (L.take k) s = false) : place L s = k := by
  induction L generalizing k with
  | nil => simp at hk
  | cons x l ih =>
    cases k with
    | zero => simp at hk; subst hk; simp [place]
    | succ k =>
      have hne : x.data ≠ s.data := by
        intro e
        have : x = s := by cases x; cases s; subst e; rfl
        subst this
        rw [isIn_not] at h
        exact h (by simp)
      unfold place
      rw [if_neg hne, ih (by simpa using hk)]
      rw [isIn_not] at h ⊢
      intro hm; exact h (by simp [hm])
theorem index_any (a : Option Addr) (n c : Nat) (L : List ByteArray) (s : ByteArray) (w : World) (hr : SRow w a n L) (hn : (n : Int) ≤ 9223372036854775806) :
    Calls Tryd.prog 116 #[.slice a n c, .string s] w fun e w' => e = .returned (.int .i64 (indexV L s)) ∧ w' = w := by
  have HR : Hid (SRow w a n L) := hr
  have hl := hr.len
  clear hr
  go_enter Tryd.func116, Tryd.ntmps116
  go_wp2
  go_loopw [8] (fun i wr => ∃ k : Nat, k ≤ n ∧ i = .int .i64 k ∧ wr = w ∧ isIn (L.take k) s = false) (fun i _ => n - (intOf i).toNat)
  case atStart => exact ⟨0, Nat.zero_le _, rfl, rfl, rfl⟩
  case round =>
    obtain ⟨k, hk, rfl, rfl, he⟩ := hrel
    have HE : Hid (isIn (L.take k) s = false) := he
    clear he
    by_cases hlt : k < n
    · obtain ⟨bo, oo, rfl, hco⟩ := HR.out.at hlt
      have HX : Hid (if s.toList == (L.getD k ByteArray.empty).toList then indexV L s = (k : Int) else isIn (L.take (k + 1)) s = false) := hide (by
        cases hq : s.toList == (L.getD k ByteArray.empty).toList
        · exact isIn_take_succ (by omega) (fun e => str_ne hq e.symm) HE.out
        · have es := str_eq hq
          have hg : L[k]? = some s := by rw [es]; exact getD_get (by omega)
          show indexV L s = _
          unfold indexV
          rw [isIn_iff.2 (List.mem_of_getElem? hg), place_take hg HE.out]; rfl)
      generalize L.getD k ByteArray.empty = x at hco HX
      go_wp2
      · go_ret
        have := HX.out
        rw [if_pos ‹_›] at this
        exact ⟨by rw [this]; rfl, rfl⟩
      · have := HX.out
        rw [if_neg (by simp only [‹_ = false›]; decide)] at this
        exact ⟨⟨k + 1, by omega, by go_num, trivial, this⟩, by simp [intOf]; omega⟩
    · have HX : Hid (indexV L s = -1) := hide (by
        have e := HE.out
        rw [List.take_of_length_le (by omega)] at e
        unfold indexV; rw [e]; rfl)
      go_wp2
      go_ret
      exact ⟨by rw [HX.out]; rfl, rfl⟩
theorem contains_any (a : Option Addr) (n c : Nat) (L : List ByteArray) (s : ByteArray) (w : World) (hr : SRow w a n L) (hn : (n : Int) ≤ 9223372036854775806) :
    Calls Tryd.prog 95 #[.slice a n c, .string s] w fun e w' => e = .returned (.bool (isIn L s)) ∧ w' = w := by
  have HI : Hid _ := hide (index_any a n c L s w hr hn)
  have HX : Hid (decide (0 ≤ indexV L s) = isIn L s) := hide (by
    unfold indexV
    cases isIn L s <;> simp)
  have hb : -1 ≤ indexV L s := by unfold indexV; split <;> omega
  clear hr
  generalize indexV L s = i at HI HX hb
  generalize isIn L s = r at HX ⊢
  go_enter Tryd.func95, Tryd.ntmps95
  go_wp2_with fail
  refine HI.out.mono ?_
  rintro e w' ⟨rfl, rfl⟩
  go_wp2
  go_ret
  exact ⟨ret_bool (by rw [← HX.out]), rfl⟩
/-! ### known -/
/-- The number of the longest outer part that has one, and what is left, the outermost first. -/
def kn (L : List ByteArray) (N : List Nd) : Nat → List ByteArray → Nat × List ByteArray
  | id, [] => (id, [])
  | id, s :: r => if isIn L s = true ∧ nid N (id, place L s) ≠ 0 then kn L N (nid N (id, place L s)) r else (id, s :: r)
def restV (a : Option Addr) (c m : Nat) : Value := if m = 0 then .slice none 0 0 else .slice a m c
theorem take_rev {L : List ByteArray} {k : Nat} (h : k < L.length) : (L.take (k + 1)).reverse = L.getD k ByteArray.empty :: (L.take k).reverse := by
  rw [List.take_add_one, getD_get h]; simp
theorem known_any {w : World} {fb tb : Nat} {S T : Nat → Prop} {N : List Nd} {v : Value} {mb : Nat} {L : List ByteArray} {tv tm : Value} (hT : Tab w tb T L tv tm) (hF : Frs w fb tb S N v mb)
    (a : Option Addr) (n c : Nat) (ls : List ByteArray) (hr : SRow w a n ls) (hn : n ≤ 16) (hc : n ≤ c) (hz : ∀ s ∈ ls, s.size ≤ maxLen) :
    Calls Tryd.prog 68 #[.pointer (some ⟨fb, 0, none⟩), .slice a n c] w fun e w' => e = .returned (.tuple #[.int .i64 ((kn L N 0 ls.reverse).1 : Int), restV a c (kn L N 0 ls.reverse).2.length]) ∧ ∃ k, w' = w.drewN k := by
  have HT : Hid (Tab w tb T L tv tm) := hT
  have HF : Hid (Frs w fb tb S N v mb) := hF
  have HR : Hid (SRow w a n ls) := hr
  have HZ : Hid (∀ s ∈ ls, s.size ≤ maxLen) := hz
  have HL : Hid (ls.length = n) := hr.len
  have hn' : (n : Int) ≤ 16 := by omega
  clear hT hF hr hz
  go_enter Tryd.func68, Tryd.ntmps68
  go_wp2
  go_loopw [6, 7] (fun d i wr => ∃ k q id : Nat, k ≤ n ∧ i = .int .i64 k ∧ d = .int .i64 id ∧ id ≤ 262144 ∧ wr = w.drewN q ∧ kn L N 0 ls.reverse = kn L N id (ls.take k).reverse) (fun _ i _ => (intOf i).toNat)
  case atStart => exact ⟨n, 0, 0, Nat.le_refl _, rfl, rfl, by omega, rfl, by rw [List.take_of_length_le (by have := HL.out; omega)]⟩
  case round =>
    obtain ⟨k, q, id, hk, rfl, rfl, hid, hw, he⟩ := hrel
    have HW : Hid (wr = w.drewN q) := hw
    have HE : Hid _ := hide he
    have hTr : Hid (Tab wr tb T L tv tm) := hide (by rw [hw]; exact HT.out.drewN q)
    have hFr : Hid (Frs wr fb tb S N v mb) := hide (by rw [hw]; exact HF.out.drewN q)
    have hRr : Hid (SRow wr a n ls) := hide (by rw [hw]; exact HR.out.drewN q)
    have c0 := hFr.out.cell0
    have c2 := hFr.out.cell2
    clear hw he
    cases k with
    | zero =>
      have hX : Hid (kn L N 0 ls.reverse = (id, [])) := hide (by rw [HE.out]; rfl)
      go_wp2
      go_ret2
      exact ⟨by rw [hX.out]; rfl, q, HW.out⟩
    | succ k =>
      obtain ⟨bo, oo, ha, hco⟩ := hRr.out.at (i := k) (by omega)
      subst ha
      obtain ⟨s, hs⟩ : ∃ s, s = ls.getD k ByteArray.empty := ⟨_, rfl⟩
      have HS : Hid (s.size ≤ maxLen) := hide (by rw [hs]; exact HZ.out _ (List.mem_of_getElem? (getD_get (by have := HL.out; omega))))
      have HE2 : Hid (kn L N 0 ls.reverse = kn L N id (s :: (ls.take k).reverse)) := hide (by rw [HE.out, take_rev (by have := HL.out; omega), hs])
      rw [← hs] at hco
      have HD : Hid _ := hFr.out.ids
      obtain ⟨D, hm, hi⟩ := HD.out
      have HM : Hid (wr.ownsMap Tryd.prog 107 (plainElem Tryd.prog 3) mb N.length D) := hm
      have HI : Hid (Fids D N) := hi
      obtain ⟨fr, hfr⟩ : ∃ fr : Nat, fr = if isIn L s then place L s else 0 := ⟨_, rfl⟩
      have hfr' : Hid (fr ≤ 65536) := hide (by
        have := hTr.out.len
        rw [hfr]; split
        · rename_i hin; have := (List.getElem?_eq_some_iff.1 (place_get (isIn_iff.1 hin))).1; omega
        · omega)
      obtain ⟨b, hb⟩ : ∃ b, isIn L s = b := ⟨_, rfl⟩
      have HQ : Hid (∀ j, Calls Tryd.prog 92 #[.pointer (some ⟨tb, 0, none⟩), .string s] (wr.drewN j) fun e w' => e = .returned (.tuple #[.int .i64 (fr : Int), .bool b]) ∧ w' = wr.drewN j) := hide (fun j => by
        have := find_any (hTr.out.drewN j) s HS.out
        have e : lookV L s = .tuple #[.int .i64 (fr : Int), .bool b] := by unfold lookV; rw [hfr, ← hb]; split <;> rfl
        rwa [e] at this)
      have HK : Hid (kn L N 0 ls.reverse = if b = true ∧ nid N (id, fr) ≠ 0 then kn L N (nid N (id, fr)) (ls.take k).reverse else (id, s :: (ls.take k).reverse)) := hide (by
        rw [HE2.out, kn, ← hb, hfr]
        cases h : isIn L s <;> simp)
      have HKL : Hid ((ls.take k).length = k) := hide (by have := HL.out; simp; omega)
      have hfr2 : fr ≤ 65536 := hfr'.out
      clear hs hm hi HD HE HE2 hfr hb
      generalize hrest : (ls.take k).reverse = rest at HK
      have HRL : Hid (rest.length = k) := hide (by rw [← hrest, List.length_reverse]; exact HKL.out)
      have HRT : Hid ((ls.take k).reverse = rest) := hrest
      clear hrest HKL
      go_wp2
      go_quiet ((go_at_call 92; exact Calls.quiet_of_same (HQ.out _)))
      have c2' := cell_drewN c2 nq
      have HM' : Hid ((wr.drewN nq).ownsMap Tryd.prog 107 (plainElem Tryd.prog 3) mb N.length D) := hide (map_but HM.out (But.of_below (S := fun _ => False) (below_drewN (Below.refl _ _) nq)) (fun e => e))
      have HW' : Hid (∃ m, wr.drewN nq = w.drewN m) := hide ⟨q + nq, by rw [HW.out]; exact World.drewN_drewN _ _ _⟩
      generalize wr.drewN nq = W1 at HM' HW' c2' ⊢
      go_wp2_with (first | (at_lookup; refine wpList_lookup_own_int _ rfl _ _ 91 rfl 107 3 .i64 lawNode Tryd.underlying91 Tryd.underlying3 (zero3 _) mb N.length D rfl HM'.out _ _ rfl (keyNode (n := (id, fr)) (by dsimp only; omega) (by dsimp only; omega)) ?_; intro cc hat hwc; have hcc : cc = (nid N (id, fr) : Int) := by (rw [HI.out.num _ (by dsimp only; omega) (by dsimp only; omega)] at hat; simpa using hat.symm)) | go_in)
      · have HX : Hid (kn L N 0 ls.reverse = (id, s :: rest)) := hide (by rw [HK.out, if_neg]; rintro ⟨_, h⟩; simp_all)
        have hck : ((k : Int) + 1) ≤ c := by omega
        have hnk : ((k : Int) + 1).toNat = k + 1 := by omega
        go_quiet (fail)
        go_wp2
        go_ret2
        obtain ⟨m, hm⟩ := HW'.out
        exact ⟨by rw [HX.out]; simp [restV, HRL.out], m + nq, by rw [hm]; exact World.drewN_drewN _ _ _⟩
      · have hz : nid N (id, fr) ≠ 0 := by intro e; simp_all
        obtain ⟨m, hm⟩ := HW'.out
        refine ⟨⟨k, m, nid N (id, fr), by omega, rfl, rfl, Nat.le_trans (nid_le _ _) hFr.out.len, hm, ?_⟩, by simp [intOf]⟩
        rw [HK.out, if_pos ⟨‹b = true›, hz⟩, HRT.out]
      · have HX : Hid (kn L N 0 ls.reverse = (id, s :: rest)) := hide (by rw [HK.out, if_neg]; rintro ⟨h, _⟩; simp_all)
        have hck : ((k : Int) + 1) ≤ c := by omega
        have hnk : ((k : Int) + 1).toNat = k + 1 := by omega
        go_quiet (fail)
        go_wp2
        go_ret2
        obtain ⟨m, hm⟩ := HW'.out
        exact ⟨by rw [HX.out]; simp [restV, HRL.out], m + nq, by rw [hm]; exact World.drewN_drewN _ _ _⟩
end Go.Proofs.YtbflkdbimgakpaaDoor.E6
