import Derived.Test.YtpnacioliccglaaDoorRows
import Derived.WalkKit
import Derived.WalkLawsBesides
import Derived.BigQuiet
import Derived.Deep.QuietTactic
import Derived.WalkSpells
import Derived.WalkSmall
import Derived.Maps.OwnSet
import Derived.Maps.OwnOps
import Derived.Maps.AppendAt
import Derived.Laws.AppendOwnNone
import Derived.KernelRfl
import Derived.Shelf.Strconv.Clone
set_option maxRecDepth 8000
set_option maxHeartbeats 8000000
set_option linter.unusedVariables false
/-
  A table of strings in memory; what a call leaves alone.
-/
namespace Go.Proofs.YtpnacioliccglaaDoor.E6
open Go.RowKit Go.Maps
theorem hide {p : Prop} (h : p) : Hid p := h

/-- What is not of S stays as it was. -/
structure But (S : Nat → Prop) (w w' : World) : Prop where
  os : w'.os = w.os
  tape : w'.tape = w.tape
  output : w'.output = w.output
  size : w.heap.size ≤ w'.heap.size
  block : ∀ k, k < w.heap.size → ¬ S k → w'.heap[k]? = w.heap[k]?
theorem But.refl (S : Nat → Prop) (w : World) : But S w w := ⟨rfl, rfl, rfl, Nat.le_refl _, fun _ _ _ => rfl⟩
theorem But.trans {S T : Nat → Prop} {a b c : World} (h : But S a b) (k : But T b c) (hT : ∀ i, i < a.heap.size → T i → S i) : But S a c :=
  ⟨k.os.trans h.os, k.tape.trans h.tape, k.output.trans h.output, Nat.le_trans h.size k.size,
    fun i hi hs => (k.block i (Nat.lt_of_lt_of_le hi h.size) (fun e => hs (hT i hi e))).trans (h.block i hi hs)⟩
theorem But.of_grown {S : Nat → Prop} {w w' : World} {row : Option Nat} (hg : w.grownBy w' row) (hS : ∀ k, row = some k → S k) : But S w w' :=
  ⟨hg.os, hg.tape, hg.output, hg.size, fun k hk hs => hg.block k hk (fun e => hs (hS k e.symm))⟩
theorem But.grown {S : Nat → Prop} {w : World} {a w' : World} {row : Option Nat} (h : But S a w) (hg : w.grownBy w' row) (hS : ∀ k, k < a.heap.size → row = some k → S k) : But S a w' :=
  h.trans (T := fun k => row = some k) (But.of_grown hg fun _ e => e) hS
theorem But.alloc {S : Nat → Prop} {a w : World} (h : But S a w) (o : Obj) : But S a (w.alloc o) :=
  h.trans (T := fun _ => False) ⟨rfl, rfl, rfl, by simp, fun k hk _ => Below.heap_alloc _ _ _ hk⟩ (fun _ _ e => e.elim)
theorem But.drew {S : Nat → Prop} {a w : World} (h : But S a w) : But S a w.drew := ⟨h.os, h.tape, h.output, h.size, h.block⟩
theorem But.setCell {S : Nat → Prop} {a w : World} (h : But S a w) (p : Addr) (hp : p.block < a.heap.size → S p.block) (u : Value) : But S a (w.setCell p u) :=
  h.trans (T := fun k => k = p.block) ⟨rfl, rfl, rfl, by simp [World.setCell], fun k _ hs => Below.heap_setCell _ _ _ _ hs⟩ (fun i hi e => by subst e; exact hp hi)
theorem But.below {S : Nat → Prop} {w w' : World} {B : Nat} (h : But S w w') (hB : B ≤ w.heap.size) (hS : ∀ k, S k → B ≤ k) : Below B w w' :=
  ⟨h.os, h.tape, h.output, h.size, fun k hk => h.block k (by omega) (fun e => by have := hS k e; omega)⟩
theorem But.of_below {S : Nat → Prop} {w w' : World} (h : Below w.heap.size w w') : But S w w' := ⟨h.os, h.tape, h.output, h.size, fun k hk _ => h.block k hk⟩
theorem But.mono {S T : Nat → Prop} {w w' : World} (h : But S w w') (hT : ∀ k, S k → T k) : But T w w' := ⟨h.os, h.tape, h.output, h.size, fun k hk hs => h.block k hk fun e => hs (hT k e)⟩
theorem own_but {S : Nat → Prop} {w w' : World} {base : Nat} {e : TypeId} {size n : Nat} {v : Value} {xs : List Value} (h : w.ownsRow base e size v n xs) (hb : But S w w') (hv : ∀ g, v.ownBlock = some g → ¬ S g) : w'.ownsRow base e size v n xs := by
  obtain ⟨h1, h2⟩ := h
  refine ⟨h1, h2.imp id ?_⟩
  rintro ⟨g, cap, cur, rfl, hg, hh, r⟩
  exact ⟨g, cap, cur, rfl, hg, (hb.block g (Array.getElem?_eq_some_iff.1 hh).1 (hv g rfl)).trans hh, r⟩
theorem map_but {S : Nat → Prop} {w w' : World} {H : Type} {P : Program} {k : TypeId} {R : Value → Option (DataW H × List MemPlace)} {b n : Nat} {D : DataW H} (h : w.ownsMap P k R b n D) (hb : But S w w') (hv : ¬ S b) : w'.ownsMap P k R b n D := by
  obtain ⟨es, cl, hh, r⟩ := h
  exact ⟨es, cl, (hb.block b (Array.getElem?_eq_some_iff.1 hh).1 hv).trans hh, r⟩

/-! ### the places of strings -/
def skey (s : ByteArray) : Lit := .string s.data.toList
theorem skey_inj {a b : ByteArray} (h : skey a = skey b) : a = b := by
  simp only [skey, Lit.string.injEq] at h
  cases a; cases b; simp only [ByteArray.mk.injEq]; exact Array.toList_inj.1 h
theorem skey_key (s : ByteArray) : WideAt.IsKeyLit (skey s) := by simp [skey, WideAt.IsKeyLit]
def isIn (L : List ByteArray) (s : ByteArray) : Bool := (L.map ByteArray.data).contains s.data
theorem isIn_iff {L : List ByteArray} {s : ByteArray} : isIn L s = true ↔ s ∈ L := by
  unfold isIn
  rw [List.contains_iff_mem, List.mem_map]
  constructor
  · rintro ⟨t, ht, e⟩
    cases t; cases s; subst e; exact ht
  · exact fun h => ⟨s, h, rfl⟩
theorem isIn_not {L : List ByteArray} {s : ByteArray} : isIn L s = false ↔ s ∉ L := by rw [← isIn_iff]; simp
theorem isIn_snoc (L : List ByteArray) (s : ByteArray) : isIn (L ++ [s]) s = true := isIn_iff.2 (by simp)
theorem isIn_snoc_ne (L : List ByteArray) {s t : ByteArray} (h : t ≠ s) : isIn (L ++ [s]) t = isIn L t := by
  rw [Bool.eq_iff_iff, isIn_iff, isIn_iff]; simp [h]
structure Ids (D : DataW Unit) (L : List ByteArray) : Prop where
  isMap : Maps.IsMap D
  has : ∀ s, Maps.has D (skey s) = isIn L s
  place : ∀ (i : Nat) s, L[i]? = some s → D.atKey (skey s) (.lit (.int .i64 0)) = .lit (.int .i64 (i : Int))
theorem Ids.nil : Ids (.map []) [] := ⟨Maps.isMap_empty, fun s => rfl, fun i s h => by simp at h⟩
theorem Ids.put {D : DataW Unit} {L : List ByteArray} (h : Ids D L) {s : ByteArray} (hs : s ∉ L) : Ids (D.put (skey s) (.lit (.int .i64 (L.length : Int)))) (L ++ [s]) := by
  refine ⟨h.isMap.put _ _, fun t => ?_, fun i t ht => ?_⟩
  · by_cases e : t = s
    · subst e; rw [Maps.has_put_same h.isMap (skey_key _), isIn_snoc]
    · rw [Maps.has_put_other (fun c => e (skey_inj c)), h.has t, isIn_snoc_ne L e]
  · by_cases e : t = s
    · subst e
      rw [Maps.atKey_put_same h.isMap (skey_key _)]
      by_cases hi : i < L.length
      · rw [List.getElem?_append_left hi] at ht
        exact absurd (List.mem_of_getElem? ht) hs
      · have : i < (L ++ [t]).length := (List.getElem?_eq_some_iff.1 ht).1
        simp at this
        have : i = L.length := by omega
        rw [this]
    · rw [Maps.atKey_put_other (fun c => e (skey_inj c))]
      refine h.place i t ?_
      by_cases hi : i < L.length
      · rwa [List.getElem?_append_left hi] at ht
      · rw [List.getElem?_append_right (by omega)] at ht
        have := List.mem_of_getElem? ht
        simp at this
        exact absurd this e

/-! ### the table -/
def total (L : List ByteArray) : Nat := (L.map ByteArray.size).sum
theorem total_snoc (L : List ByteArray) (s : ByteArray) : total (L ++ [s]) = total L + s.size := by simp [total]
theorem total_nil : total [] = 0 := rfl
structure Tab (w : World) (tb : Nat) (S : Nat → Prop) (L : List ByteArray) (v mv : Value) : Prop where
  blk : w.heap[tb]? = some (.cells #[v, mv, .int .i64 (total L : Nat)] 116 (0, 0))
  own : w.ownsRow 0 9 1 v L.length (L.map Value.string)
  ids : (mv = .map none ∧ L = []) ∨ ∃ mb D, mv = .map (some mb) ∧ S mb ∧ w.ownsMap Tryd.prog 9 (plainElem Tryd.prog 3) mb L.length D ∧ Ids D L
  inS : S tb
  rowS : ∀ g, v.ownBlock = some g → S g
  nodup : L.Nodup
  small : ∀ s ∈ L, s.size ≤ 65536
  len : L.length ≤ 65536
  sum : total L ≤ 4194304
section
variable {w : World} {tb : Nat} {S : Nat → Prop} {L : List ByteArray} {v mv : Value}
theorem Tab.kept {T : Nat → Prop} {w' : World} (h : Tab w tb S L v mv) (hb : But T w w') (hd : ∀ k, S k → ¬ T k) : Tab w' tb S L v mv :=
  ⟨(hb.block tb (Array.getElem?_eq_some_iff.1 h.blk).1 (hd _ h.inS)).trans h.blk, own_but h.own hb fun g e => hd g (h.rowS g e),
    h.ids.imp id fun ⟨mb, D, e, hs, hm, hi⟩ => ⟨mb, D, e, hs, map_but hm hb (hd _ hs), hi⟩, h.inS, h.rowS, h.nodup, h.small, h.len, h.sum⟩
theorem Tab.cell0 (h : Tab w tb S L v mv) : w.cell? ⟨tb, 0, none⟩ = some v := by rw [cell_of_row w tb 0 _ 116 (0, 0) h.blk]; rfl
theorem Tab.cell1 (h : Tab w tb S L v mv) : w.cell? ⟨tb, 1, none⟩ = some mv := by rw [cell_of_row w tb 1 _ 116 (0, 0) h.blk]; rfl
theorem Tab.cell2 (h : Tab w tb S L v mv) : w.cell? ⟨tb, 2, none⟩ = some (.int .i64 (total L : Nat)) := by rw [cell_of_row w tb 2 _ 116 (0, 0) h.blk]; rfl
theorem Tab.free (h : Tab w tb S L v mv) (j : Nat) : w.frozen? ⟨tb, j, none⟩ = false := frozen_of_row w tb j _ 116 h.blk
theorem Tab.lt (h : Tab w tb S L v mv) : tb < w.heap.size := (Array.getElem?_eq_some_iff.1 h.blk).1
end
theorem own_form {w : World} {base n : Nat} {e : TypeId} {size : Nat} {v : Value} {xs : List Value} (h : w.ownsRow base e size v n xs) : ∃ a c, v = .slice a n c := by
  rcases h.2 with ⟨rfl, rfl⟩ | ⟨g, cap, cur, rfl, _⟩
  · exact ⟨none, 0, rfl⟩
  · exact ⟨_, cap, rfl⟩
theorem law9 : Keyed Tryd.prog 9 := string_keyed Tryd.underlying9
theorem zero3 (w : World) : (zeroValue 3).run Tryd.prog w = .ok (.int .i64 0) w := by kernel_rfl
theorem key9 {s : ByteArray} (h : s.size ≤ maxLen) : keyOf Tryd.prog 9 (.string s) = some (skey s) := Go.WideMaps.keyOf_string_mk Tryd.underlying9 h
end Go.Proofs.YtpnacioliccglaaDoor.E6
/-
  The table's calls that only ask; what Clone answers.
-/
namespace Go.Proofs.YtpnacioliccglaaDoor.E6
open Go.RowKit Go.Maps Go.Shelf
def cloneLays_ren : Go.Shelf.Ren := ⟨fun | 316 => 70 | n => n, fun | 37 => 41 | 127 => 148 | n => n, fun | n => n⟩
theorem cloneLays : Go.Proofs.LaysM.n316 Tryd.prog cloneLays_ren := {
  mixed := by kernel_rfl
  f316 := Tryd.func70.trans (congrArg some (by kernel_rfl))
  t5 := Tryd.underlying5
  a5 := Tryd.isAgg5
  z5 := Tryd.sizeOf5
  v5 := Tryd.zeroValue5
  t9 := Tryd.underlying9
  a9 := Tryd.isAgg9
  z9 := Tryd.sizeOf9
  v9 := Tryd.zeroValue9
  t3 := Tryd.underlying3
  a3 := Tryd.isAgg3
  z3 := Tryd.sizeOf3
  v3 := Tryd.zeroValue3
  t4 := Tryd.underlying4
  a4 := Tryd.isAgg4
  z4 := Tryd.sizeOf4
  v4 := Tryd.zeroValue4
  t37 := Tryd.underlying41
  a37 := Tryd.isAgg41
  z37 := Tryd.sizeOf41
  v37 := Tryd.zeroValue41
  t0 := Tryd.underlying0
  a0 := Tryd.isAgg0
  z0 := Tryd.sizeOf0
  v0 := Tryd.zeroValue0
  t127 := Tryd.underlying148
  a127 := Tryd.isAgg148
  z127 := Tryd.sizeOf148
  v127 := Tryd.zeroValue148
  i0 := by kernel_rfl
  i3 := by kernel_rfl
  i4 := by kernel_rfl
  i5 := by kernel_rfl
  i9 := by kernel_rfl
  i37 := by kernel_rfl
  i127 := by kernel_rfl }
theorem clone_any (s : ByteArray) (w : World) (hs : s.size ≤ 65536) :
    Calls Tryd.prog 52 #[.string s] w fun e w' => e = .returned (.string s) ∧ Below w.heap.size w w' := by
  go_enter Tryd.func52, Tryd.ntmps52
  go_wp2_with fail
  refine (Any.stringslite_Clone cloneLays s w (by omega)).mono ?_
  rintro e w' ⟨rfl, hb⟩
  go_wp2
  go_ret
  exact ⟨rfl, hb⟩
theorem new_any (w : World) :
    Calls Tryd.prog 57 #[] w fun e w' => e = .returned (.pointer (some ⟨w.heap.size, 0, none⟩)) ∧ w' = w.alloc (.cells #[.slice none 0 0, .map none, .int .i64 0] 116) := by
  go_enter Tryd.func57, Tryd.ntmps57
  go_wp2
  go_ret
  exact ⟨rfl, rfl⟩
theorem len_any (tb n c : Nat) (a : Option Addr) (w : World) (h0 : w.cell? ⟨tb, 0, none⟩ = some (.slice a n c)) :
    Calls Tryd.prog 101 #[.pointer (some ⟨tb, 0, none⟩)] w fun e w' => e = .returned (.int .i64 n) ∧ w' = w := by
  go_enter Tryd.func101, Tryd.ntmps101
  go_wp2
  go_ret
  exact ⟨rfl, rfl⟩
theorem bytes_any (tb : Nat) (z : Int) (w : World) (h0 : w.cell? ⟨tb, 2, none⟩ = some (.int .i64 z)) :
    Calls Tryd.prog 102 #[.pointer (some ⟨tb, 0, none⟩)] w fun e w' => e = .returned (.int .i64 z) ∧ w' = w := by
  go_enter Tryd.func102, Tryd.ntmps102
  go_wp2
  go_ret
  exact ⟨rfl, rfl⟩
def roomy (n t k : Nat) : Bool := decide ((k : Int) ≤ 65536 ∧ (n : Int) < 65536 ∧ (t : Int) + k ≤ 4194304)
theorem ret_bool {a b : Bool} (h : a = b) : Ending.returned (.bool a) = .returned (.bool b) := by rw [h]
theorem room_any (tb n c : Nat) (a : Option Addr) (t : Nat) (k : Nat) (w : World) (h0 : w.cell? ⟨tb, 0, none⟩ = some (.slice a n c)) (h2 : w.cell? ⟨tb, 2, none⟩ = some (.int .i64 (t : Int))) (ht : (t : Int) ≤ 4194304) :
    Calls Tryd.prog 105 #[.pointer (some ⟨tb, 0, none⟩), .int .i64 (k : Int)] w fun e w' => e = .returned (.bool (roomy n t k)) ∧ w' = w := by
  by_cases h1 : (k : Int) ≤ 65536
  · by_cases h3 : (n : Int) < 65536
    · by_cases h4 : (t : Int) + k ≤ 4194304
      · have H : Hid (roomy n t k = true) := by unfold roomy; exact decide_eq_true ⟨h1, h3, h4⟩
        generalize roomy n t k = r at H ⊢
        go_enter Tryd.func105, Tryd.ntmps105
        go_wp2
        go_ret
        exact ⟨ret_bool H.out.symm, rfl⟩
      · have H : Hid (roomy n t k = false) := by unfold roomy; exact decide_eq_false (fun h => h4 h.2.2)
        generalize roomy n t k = r at H ⊢
        go_enter Tryd.func105, Tryd.ntmps105
        go_wp2
        go_ret
        exact ⟨ret_bool H.out.symm, rfl⟩
    · have H : Hid (roomy n t k = false) := by unfold roomy; exact decide_eq_false (fun h => h3 h.2.1)
      generalize roomy n t k = r at H ⊢
      go_enter Tryd.func105, Tryd.ntmps105
      go_wp2
      go_ret
      exact ⟨ret_bool H.out.symm, rfl⟩
  · have H : Hid (roomy n t k = false) := by unfold roomy; exact decide_eq_false (fun h => h1 h.1)
    generalize roomy n t k = r at H ⊢
    go_enter Tryd.func105, Tryd.ntmps105
    go_wp2
    go_ret
    exact ⟨ret_bool H.out.symm, rfl⟩
/-! ### Text, Find -/
/-- The list at 'a' of 'n' strings holds L. -/
structure SRow (w : World) (a : Option Addr) (n : Nat) (L : List ByteArray) : Prop where
  len : L.length = n
  cells : n = 0 ∨ ∃ b off, a = some ⟨b, off, none⟩ ∧ ∀ i, i < n → w.cell? ⟨b, off + i, none⟩ = some (.string (L.getD i ByteArray.empty))
theorem SRow.of_own {w : World} {base n c : Nat} {a : Option Addr} {L : List ByteArray} (h : w.ownsRow base 9 1 (.slice a n c) n (L.map Value.string)) : SRow w a n L := by
  have hl : L.length = n := by have := h.1; simpa using this
  rcases h.2 with ⟨hv, h0⟩ | ⟨g, cap, cur, hv, hb, hg, hn, hm, hs, ht⟩
  · exact ⟨hl, .inl h0⟩
  · cases hv
    refine ⟨hl, .inr ⟨g, 0, rfl, fun i hi => ?_⟩⟩
    have := h.cells (g := g) rfl i (.string (L.getD i ByteArray.empty)) (by simp [hl, hi])
    have ha : (⟨g, 0, none⟩ : Addr).add i = ⟨g, 0 + i, none⟩ := by unfold Addr.add; split <;> simp_all
    rwa [ha] at this
theorem SRow.at {w : World} {a : Option Addr} {n : Nat} {L : List ByteArray} (h : SRow w a n L) {i : Nat} (hi : i < n) : ∃ b off, a = some ⟨b, off, none⟩ ∧ w.cell? ⟨b, off + i, none⟩ = some (.string (L.getD i ByteArray.empty)) := by
  rcases h.cells with h0 | ⟨b, off, ha, hc⟩
  · omega
  · exact ⟨b, off, ha, hc i hi⟩
/-- The number of a string. -/
def place : List ByteArray → ByteArray → Nat
  | [], _ => 0
  | x :: l, s => if x.data = s.data then 0 else place l s + 1
theorem place_get {L : List ByteArray} {s : ByteArray} (h : s ∈ L) : L[place L s]? = some s := by
  induction L with
  | nil => cases h
  | cons x l ih =>
    unfold place
    by_cases e : x.data = s.data
    · rw [if_pos e]; cases x; cases s; subst e; rfl
    · rw [if_neg e]
      rcases List.mem_cons.1 h with h | h
      · exact absurd (by rw [h]) e
      · simpa using ih h
theorem place_of_get {L : List ByteArray} {s : ByteArray} (hd : L.Nodup) {i : Nat} (h : L[i]? = some s) : place L s = i := by
  have hs := place_get (List.mem_of_getElem? h)
  have h1 := (List.getElem?_eq_some_iff.1 hs).1
  have h2 := (List.getElem?_eq_some_iff.1 h).1
  exact (List.getElem_inj hd (h₀ := h1) (h₁ := h2)).1 (by rw [(List.getElem?_eq_some_iff.1 hs).2, (List.getElem?_eq_some_iff.1 h).2])
/-- What a look-up in the table's map answers. -/
def lookV (L : List ByteArray) (s : ByteArray) : Value := .tuple #[.int .i64 (if isIn L s then (place L s : Int) else 0), .bool (isIn L s)]
theorem atKey_ids {D : DataW Unit} {L : List ByteArray} (h : Ids D L) (s : ByteArray) {c : Int} (hc : D.atKey (skey s) (.lit (.int .i64 0)) = .lit (.int .i64 c)) : c = (if isIn L s then (place L s : Int) else 0) := by
  cases hi : isIn L s
  · rw [Maps.atKey_of_not_has (by rw [h.has, hi])] at hc
    simp at hc; simp [← hc]
  · rw [h.place _ _ (place_get (isIn_iff.1 hi))] at hc
    simp at hc; simp [← hc]
theorem find_any {w : World} {tb : Nat} {S : Nat → Prop} {L : List ByteArray} {v mv : Value} (h : Tab w tb S L v mv) (s : ByteArray) (hs : s.size ≤ maxLen) :
    Calls Tryd.prog 100 #[.pointer (some ⟨tb, 0, none⟩), .string s] w fun e w' => e = .returned (lookV L s) ∧ w' = w := by
  have h1 := h.cell1
  rcases h.ids with ⟨rfl, rfl⟩ | ⟨mb, D, rfl, _, hm, hi⟩
  · clear h
    have hl := fun W : World => Maps.look_nil (w := W) true law9 Tryd.underlying114 (zero3 W) (key9 hs)
    go_enter Tryd.func100, Tryd.ntmps100
    go_wp2
    go_ret2
    exact ⟨rfl, rfl⟩
  · clear h
    have H : Hid (Ids D L) := hi
    have HM : Hid (w.ownsMap Tryd.prog 9 (plainElem Tryd.prog 3) mb L.length D) := hm
    clear hi hm
    go_enter Tryd.func100, Tryd.ntmps100
    go_wp2_with (first | (at_lookup; refine wpList_lookup_own_ok_int _ rfl _ _ 114 rfl 9 3 .i64 law9 Tryd.underlying114 Tryd.underlying3 (zero3 _) mb L.length D rfl HM.out _ _ rfl (key9 hs) ?_; intro c hat hwc) | go_in)
    go_ret2
    exact ⟨by rw [lookV, ← atKey_ids H.out s hat, ← H.out.has s]; rfl, rfl⟩
end Go.Proofs.YtpnacioliccglaaDoor.E6
