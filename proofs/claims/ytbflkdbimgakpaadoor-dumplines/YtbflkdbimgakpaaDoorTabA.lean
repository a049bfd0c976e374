/-
  The table's calls that only ask; what Clone answers.
-/
import Derived.Test.YtbflkdbimgakpaaDoorTab
import Derived.Shelf.Strconv.Clone
namespace Go.Proofs.YtbflkdbimgakpaaDoor.E6
open Go.RowKit Go.Maps Go.Shelf
def cloneLays_ren : Go.Shelf.Ren := ⟨fun | 316 => 80 | n => n, fun | 37 => 41 | 127 => 154 | n => n, fun | n => n⟩
theorem cloneLays : Go.Proofs.LaysM.n316 Tryd.prog cloneLays_ren := {
  mixed := by kernel_rfl
  f316 := Tryd.func80.trans (congrArg some (by kernel_rfl))
  t5 := Tryd.underlying5
  a5 := Tryd.isAgg5
  z5 := Tryd.sizeOf5
  v5 := Tryd.zeroValue5
  t9 := Tryd.underlying9
  a9 := Tryd.isAgg9
  z9 := Tryd.sizeOf9
  v9 := Tryd.zeroValue9
  t3 := Tryd.underlying3
  a3 := Tryd.isAgg3
  z3 := Tryd.sizeOf3
  v3 := Tryd.zeroValue3
  t4 := Tryd.underlying4
  a4 := Tryd.isAgg4
  z4 := Tryd.sizeOf4
  v4 := Tryd.zeroValue4
  t37 := Tryd.underlying41
  a37 := Tryd.isAgg41
  z37 := Tryd.sizeOf41
  v37 := Tryd.zeroValue41
  t0 := Tryd.underlying0
  a0 := Tryd.isAgg0
  z0 := Tryd.sizeOf0
  v0 := Tryd.zeroValue0
  t127 := Tryd.underlying154
  a127 := Tryd.isAgg154
  z127 := Tryd.sizeOf154
  v127 := Tryd.zeroValue154
  i0 := by kernel_rfl
  i3 := by kernel_rfl
  i4 := by kernel_rfl
  i5 := by kernel_rfl
  i9 := by kernel_rfl
  i37 := by kernel_rfl
  i127 := by kernel_rfl }
theorem clone_any (s : ByteArray) (w : World) (hs : s.size ≤ 65536) :
    Calls Tryd.prog 58 #[.string s] w fun e w' => e = .returned (.string s) ∧ Below w.heap.size w w' := by
  go_enter Tryd.func58, Tryd.ntmps58
  go_wp2_with fail
  refine (Any.stringslite_Clone cloneLays s w (by omega)).mono ?_
  rintro e w' ⟨rfl, hb⟩
  go_wp2
  go_ret
  exact ⟨rfl, hb⟩
theorem new_any (w : World) :
    Calls Tryd.prog 46 #[] w fun e w' => e = .returned (.pointer (some ⟨w.heap.size, 0, none⟩)) ∧ w' = w.alloc (.cells #[.slice none 0 0, .map none, .int .i64 0] 97) := by
  go_enter Tryd.func46, Tryd.ntmps46
  go_wp2
  go_ret
  exact ⟨rfl, rfl⟩
theorem len_any (tb n c : Nat) (a : Option Addr) (w : World) (h0 : w.cell? ⟨tb, 0, none⟩ = some (.slice a n c)) :
    Calls Tryd.prog 93 #[.pointer (some ⟨tb, 0, none⟩)] w fun e w' => e = .returned (.int .i64 n) ∧ w' = w := by
  go_enter Tryd.func93, Tryd.ntmps93
  go_wp2
  go_ret
  exact ⟨rfl, rfl⟩
theorem bytes_any (tb : Nat) (z : Int) (w : World) (h0 : w.cell? ⟨tb, 2, none⟩ = some (.int .i64 z)) :
    Calls Tryd.prog 94 #[.pointer (some ⟨tb, 0, none⟩)] w fun e w' => e = .returned (.int .i64 z) ∧ w' = w := by
  go_enter Tryd.func94, Tryd.ntmps94
  go_wp2
  go_ret
  exact ⟨rfl, rfl⟩
def roomy (n t k : Nat) : Bool := decide ((k : Int) ≤ 65536 ∧ (n : Int) < 65536 ∧ (t : Int) + k ≤ 4194304)
theorem ret_bool {a b : Bool} (h : a = b) : Ending.returned (.bool a) = .returned (.bool b) := by rw [h]
theorem room_any (tb n c : Nat) (a : Option Addr) (t : Nat) (k : Nat) (w : World) (h0 : w.cell? ⟨tb, 0, none⟩ = some (.slice a n c)) (h2 : w.cell? ⟨tb, 2, none⟩ = some (.int .i64 (t : Int))) (ht : (t : Int) ≤ 4194304) :
    Calls Tryd.prog 97 #[.pointer (some ⟨tb, 0, none⟩), .int .i64 (k : Int)] w fun e w' => e = .returned (.bool (roomy n t k)) ∧ w' = w := by
  by_cases h1 : (k : Int) ≤ 65536
  · by_cases h3 : (n : Int) < 65536
    · by_cases h4 : (t : Int) + k ≤ 4194304
      · have H : Hid (roomy n t k = true) := by unfold roomy; exact decide_eq_true ⟨h1, h3, h4⟩
        generalize roomy n t k = r at H ⊢
        go_enter Tryd.func97, Tryd.ntmps97
        go_wp2
        go_ret
        exact ⟨ret_bool H.out.symm, rfl⟩
      · have H : Hid (roomy n t k = false) := by unfold roomy; exact decide_eq_false (fun h => h4 h.2.2)
        generalize roomy n t k = r at H ⊢
        go_enter Tryd.func97, Tryd.ntmps97
        go_wp2
        go_ret
        exact ⟨ret_bool H.out.symm, rfl⟩
    · have H : Hid (roomy n t k = false) := by unfold roomy; exact decide_eq_false (fun h => h3 h.2.1)
      generalize roomy n t k = r at H ⊢
      go_enter Tryd.func97, Tryd.ntmps97
      go_wp2
      go_ret
      exact ⟨ret_bool H.out.symm, rfl⟩
  · have H : Hid (roomy n t k = false) := by unfold roomy; exact decide_eq_false (fun h => h1 h.1)
    generalize roomy n t k = r at H ⊢
    go_enter Tryd.func97, Tryd.ntmps97
    go_wp2
    go_ret
    exact ⟨ret_bool H.out.symm, rfl⟩
/-! ### Text, Find -/
/-- The list at 'a' of 'n' strings holds L. -/
structure SRow (w : World) (a : Option Addr) (n : Nat) (L : List ByteArray) : Prop where
  len : L.length = n
  cells : n = 0 ∨ ∃ b off, a = some ⟨b, off, none⟩ ∧ ∀ i, i < n → w.cell? ⟨b, off + i, none⟩ = some (.string (L.getD i ByteArray.empty))
theorem SRow.of_own {w : World} {base n c : Nat} {a : Option Addr} {L : List ByteArray} (h : w.ownsRow base 9 1 (.slice a n c) n (L.map Value.string)) : SRow w a n L := by
  have hl : L.length = n := by have := h.1; simpa using this
  rcases h.2 with ⟨hv, h0⟩ | ⟨g, cap, cur, hv, hb, hg, hn, hm, hs, ht⟩
  · exact ⟨hl, .inl h0⟩
  · cases hv
    refine ⟨hl, .inr ⟨g, 0, rfl, fun i hi => ?_⟩⟩
    have := h.cells (g := g) rfl i (.string (L.getD i ByteArray.empty)) (by simp [hl, hi])
    have ha : (⟨g, 0, none⟩ : Addr).add i = ⟨g, 0 + i, none⟩ := by unfold Addr.add; split <;> simp_all
    rwa [ha] at this
theorem SRow.at {w : World} {a : Option Addr} {n : Nat} {L : List ByteArray} (h : SRow w a n L) {i : Nat} (hi : i < n) : ∃ b off, a = some ⟨b, off, none⟩ ∧ w.cell? ⟨b, off + i, none⟩ = some (.string (L.getD i ByteArray.empty)) := by
  rcases h.cells with h0 | ⟨b, off, ha, hc⟩
  · omega
  · exact ⟨b, off, ha, hc i hi⟩
/-- The number of a string. -/
def place : List ByteArray → ByteArray → Nat
  | [], _ => 0
  | x :: l, s => if x.data = s.data then 0 else place l s + 1
theorem place_get {L : List ByteArray} {s : ByteArray} (h : s ∈ L) : L[place L s]? = some s := by
  induction L with
  | nil => cases h
  | cons x l ih =>
    unfold place
    by_cases e : x.data = s.data
    · rw [if_pos e]; cases x; cases s; subst e; rfl
    · rw [if_neg e]
      rcases List.mem_cons.1 h with h | h
      · exact absurd (by rw [h]) e
      · simpa using ih h
theorem place_of_get {L : List ByteArray} {s : ByteArray} (hd : L.Nodup) {i : Nat} (h : L[i]? = some s) : place L s = i := by
  have hs := place_get (List.mem_of_getElem? h)
  have h1 := (List.getElem?_eq_some_iff.1 hs).1
  have h2 := (List.getElem?_eq_some_iff.1 h).1
  exact (List.getElem_inj hd (h₀ := h1) (h₁ := h2)).1 (by rw [(List.getElem?_eq_some_iff.1 hs).2, (List.getElem?_eq_some_iff.1 h).2])
/-- What a look-up in the table's map answers. -/
def lookV (L : List ByteArray) (s : ByteArray) : Value := .tuple #[.int .i64 (if isIn L s then (place L s : Int) else 0), .bool (isIn L s)]
theorem atKey_ids {D : DataW Unit} {L : List ByteArray} (h : Ids D L) (s : ByteArray) {c : Int} (hc : D.atKey (skey s) (.lit (.int .i64 0)) = .lit (.int .i64 c)) : c = (if isIn L s then (place L s : Int) else 0) := by
  cases hi : isIn L s
  · rw [Maps.atKey_of_not_has (by rw [h.has, hi])] at hc
    simp at hc; simp [← hc]
  · rw [h.place _ _ (place_get (isIn_iff.1 hi))] at hc
    simp at hc; simp [← hc]
theorem find_any {w : World} {tb : Nat} {S : Nat → Prop} {L : List ByteArray} {v mv : Value} (h : Tab w tb S L v mv) (s : ByteArray) (hs : s.size ≤ maxLen) :
    Calls Tryd.prog 92 #[.pointer (some ⟨tb, 0, none⟩), .string s] w fun e w' => e = .returned (lookV L s) ∧ w' = w := by
  have h1 := h.cell1
  rcases h.ids with ⟨rfl, rfl⟩ | ⟨mb, D, rfl, _, hm, hi⟩
  · clear h
    have hl := fun W : World => Maps.look_nil (w := W) true law9 Tryd.underlying95 (zero3 W) (key9 hs)
    go_enter Tryd.func92, Tryd.ntmps92
    go_wp2
    go_ret2
    exact ⟨rfl, rfl⟩
  · clear h
    have H : Hid (Ids D L) := hi
    have HM : Hid (w.ownsMap Tryd.prog 9 (plainElem Tryd.prog 3) mb L.length D) := hm
    clear hi hm
    go_enter Tryd.func92, Tryd.ntmps92
    go_wp2_with (first | (at_lookup; refine wpList_lookup_own_ok_int _ rfl _ _ 95 rfl 9 3 .i64 law9 Tryd.underlying95 Tryd.underlying3 (zero3 _) mb L.length D rfl HM.out _ _ rfl (key9 hs) ?_; intro c hat hwc) | go_in)
    go_ret2
    exact ⟨by rw [lookV, ← atKey_ids H.out s hat, ← H.out.has s]; rfl, rfl⟩
end Go.Proofs.YtbflkdbimgakpaaDoor.E6
