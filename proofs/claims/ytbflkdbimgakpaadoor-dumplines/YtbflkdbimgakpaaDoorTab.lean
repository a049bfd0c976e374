/-
  A table of strings in memory; what a call leaves alone.
-/
import Derived.Test.YtbflkdbimgakpaaDoorRows
import Derived.WalkKit
import Derived.WalkLawsBesides
import Derived.BigQuiet
import Derived.Deep.QuietTactic
import Derived.WalkSpells
import Derived.WalkSmall
import Derived.Maps.OwnSet
import Derived.Maps.OwnOps
import Derived.Maps.AppendAt
import Derived.Laws.AppendOwnNone
import Derived.KernelRfl
namespace Go.Proofs.YtbflkdbimgakpaaDoor.E6
open Go.RowKit Go.Maps
theorem hide {p : Prop} (h : p) : Hid p := h

/-- What is not of S stays as it was. -/
structure But (S : Nat → Prop) (w w' : World) : Prop where
  os : w'.os = w.os
  tape : w'.tape = w.tape
  output : w'.output = w.output
  size : w.heap.size ≤ w'.heap.size
  block : ∀ k, k < w.heap.size → ¬ S k → w'.heap[k]? = w.heap[k]?
theorem But.refl (S : Nat → Prop) (w : World) : But S w w := ⟨rfl, rfl, rfl, Nat.le_refl _, fun _ _ _ => rfl⟩
theorem But.trans {S T : Nat → Prop} {a b c : World} (h : But S a b) (k : But T b c) (hT : ∀ i, i < a.heap.size → T i → S i) : But S a c :=
  ⟨k.os.trans h.os, k.tape.trans h.tape, k.output.trans h.output, Nat.le_trans h.size k.size,
    fun i hi hs => (k.block i (Nat.lt_of_lt_of_le hi h.size) (fun e => hs (hT i hi e))).trans (h.block i hi hs)⟩
theorem But.of_grown {S : Nat → Prop} {w w' : World} {row : Option Nat} (hg : w.grownBy w' row) (hS : ∀ k, row = some k → S k) : But S w w' :=
  ⟨hg.os, hg.tape, hg.output, hg.size, fun k hk hs => hg.block k hk (fun e => hs (hS k e.symm))⟩
theorem But.grown {S : Nat → Prop} {w : World} {a w' : World} {row : Option Nat} (h : But S a w) (hg : w.grownBy w' row) (hS : ∀ k, k < a.heap.size → row = some k → S k) : But S a w' :=
  h.trans (T := fun k => row = some k) (But.of_grown hg fun _ e => e) hS
theorem But.alloc {S : Nat → Prop} {a w : World} (h : But S a w) (o : Obj) : But S a (w.alloc o) :=
  h.trans (T := fun _ => False) ⟨rfl, rfl, rfl, by simp, fun k hk _ => Below.heap_alloc _ _ _ hk⟩ (fun _ _ e => e.elim)
theorem But.drew {S : Nat → Prop} {a w : World} (h : But S a w) : But S a w.drew := ⟨h.os, h.tape, h.output, h.size, h.block⟩
theorem But.setCell {S : Nat → Prop} {a w : World} (h : But S a w) (p : Addr) (hp : p.block < a.heap.size → S p.block) (u : Value) : But S a (w.setCell p u) :=
  h.trans (T := fun k => k = p.block) ⟨rfl, rfl, rfl, by simp [World.setCell], fun k _ hs => Below.heap_setCell _ _ _ _ hs⟩ (fun i hi e => by subst e; exact hp hi)
theorem But.below {S : Nat → Prop} {w w' : World} {B : Nat} (h : But S w w') (hB : B ≤ w.heap.size) (hS : ∀ k, S k → B ≤ k) : Below B w w' :=
  ⟨h.os, h.tape, h.output, h.size, fun k hk => h.block k (by omega) (fun e => by have := hS k e; omega)⟩
theorem But.of_below {S : Nat → Prop} {w w' : World} (h : Below w.heap.size w w') : But S w w' := ⟨h.os, h.tape, h.output, h.size, fun k hk _ => h.block k hk⟩
theorem But.mono {S T : Nat → Prop} {w w' : World} (h : But S w w') (hT : ∀ k, S k → T k) : But T w w' := ⟨h.os, h.tape, h.output, h.size, fun k hk hs => h.block k hk fun e => hs (hT k e)⟩
theorem own_but {S : Nat → Prop} {w w' : World} {base : Nat} {e : TypeId} {size n : Nat} {v : Value} {xs : List Value} (h : w.ownsRow base e size v n xs) (hb : But S w w') (hv : ∀ g, v.ownBlock = some g → ¬ S g) : w'.ownsRow base e size v n xs := by
  obtain ⟨h1, h2⟩ := h
  refine ⟨h1, h2.imp id ?_⟩
  rintro ⟨g, cap, cur, rfl, hg, hh, r⟩
  exact ⟨g, cap, cur, rfl, hg, (hb.block g (Array.getElem?_eq_some_iff.1 hh).1 (hv g rfl)).trans hh, r⟩
theorem map_but {S : Nat → Prop} {w w' : World} {H : Type} {P : Program} {k : TypeId} {R : Value → Option (DataW H × List MemPlace)} {b n : Nat} {D : DataW H} (h : w.ownsMap P k R b n D) (hb : But S w w') (hv : ¬ S b) : w'.ownsMap P k R b n D := by
  obtain ⟨es, cl, hh, r⟩ := h
  exact ⟨es, cl, (hb.block b (Array.getElem?_eq_some_iff.1 hh).1 hv).trans hh, r⟩

/-! ### the places of strings -/
def skey (s : ByteArray) : Lit := .string s.data.toList
theorem skey_inj {a b : ByteArray} (h : skey a = skey b) : a = b := by
  simp only [skey, Lit.string.injEq] at h
  cases a; cases b; simp only [ByteArray.mk.injEq]; exact Array.toList_inj.1 h
theorem skey_key (s : ByteArray) : WideAt.IsKeyLit (skey s) := by simp [skey, WideAt.IsKeyLit]
def isIn (L : List ByteArray) (s : ByteArray) : Bool := (L.map ByteArray.data).contains s.data
theorem isIn_iff {L : List ByteArray} {s : ByteArray} : isIn L s = true ↔ s ∈ L := by
  unfold isIn
  rw [List.contains_iff_mem, List.mem_map]
  constructor
  · rintro ⟨t, ht, e⟩
    cases t; cases s; subst e; exact ht
  · exact fun h => ⟨s, h, rfl⟩
theorem isIn_not {L : List ByteArray} {s : ByteArray} : isIn L s = false ↔ s ∉ L := by rw [← isIn_iff]; simp
theorem isIn_snoc (L : List ByteArray) (s : ByteArray) : isIn (L ++ [s]) s = true := isIn_iff.2 (by simp)
theorem isIn_snoc_ne (L : List ByteArray) {s t : ByteArray} (h : t ≠ s) : isIn (L ++ [s]) t = isIn L t := by
  rw [Bool.eq_iff_iff, isIn_iff, isIn_iff]; simp [h]
structure Ids (D : DataW Unit) (L : List ByteArray) : Prop where
  isMap : Maps.IsMap D
  has : ∀ s, Maps.has D (skey s) = isIn L s
  place : ∀ (i : Nat) s, L[i]? = some s → D.atKey (skey s) (.lit (.int .i64 0)) = .lit (.int .i64 (i : Int))
theorem Ids.nil : Ids (.map []) [] := ⟨Maps.isMap_empty, fun s => rfl, fun i s h => by simp at h⟩
theorem Ids.put {D : DataW Unit} {L : List ByteArray} (h : Ids D L) {s : ByteArray} (hs : s ∉ L) : Ids (D.put (skey s) (.lit (.int .i64 (L.length : Int)))) (L ++ [s]) := by
  refine ⟨h.isMap.put _ _, fun t => ?_, fun i t ht => ?_⟩
  · by_cases e : t = s
    · subst e; rw [Maps.has_put_same h.isMap (skey_key _), isIn_snoc]
    · rw [Maps.has_put_other (fun c => e (skey_inj c)), h.has t, isIn_snoc_ne L e]
  · by_cases e : t = s
    · subst e
      rw [Maps.atKey_put_same h.isMap (skey_key _)]
      by_cases hi : i < L.length
      · rw [List.getElem?_append_left hi] at ht
        exact absurd (List.mem_of_getElem? ht) hs
      · have : i < (L ++ [t]).length := (List.getElem?_eq_some_iff.1 ht).1
        simp at this
        have : i = L.length := by omega
        rw [this]
    · rw [Maps.atKey_put_other (fun c => e (skey_inj c))]
      refine h.place i t ?_
      by_cases hi : i < L.length
      · rwa [List.getElem?_append_left hi] at ht
      · rw [List.getElem?_append_right (by omega)] at ht
        have := List.mem_of_getElem? ht
        simp at this
        exact absurd this e

/-! ### the table -/
def total (L : List ByteArray) : Nat := (L.map ByteArray.size).sum
theorem total_snoc (L : List ByteArray) (s : ByteArray) : total (L ++ [s]) = total L + s.size := by simp [total]
theorem total_nil : total [] = 0 := rfl
structure Tab (w : World) (tb : Nat) (S : Nat → Prop) (L : List ByteArray) (v mv : Value) : Prop where
  blk : w.heap[tb]? = some (.cells #[v, mv, .int .i64 (total L : Nat)] 97 (0, 0))
  own : w.ownsRow 0 9 1 v L.length (L.map Value.string)
  ids : (mv = .map none ∧ L = []) ∨ ∃ mb D, mv = .map (some mb) ∧ S mb ∧ w.ownsMap Tryd.prog 9 (plainElem Tryd.prog 3) mb L.length D ∧ Ids D L
  inS : S tb
  rowS : ∀ g, v.ownBlock = some g → S g
  nodup : L.Nodup
  small : ∀ s ∈ L, s.size ≤ 65536
  len : L.length ≤ 65536
  sum : total L ≤ 4194304
section
variable {w : World} {tb : Nat} {S : Nat → Prop} {L : List ByteArray} {v mv : Value}
theorem Tab.kept {T : Nat → Prop} {w' : World} (h : Tab w tb S L v mv) (hb : But T w w') (hd : ∀ k, S k → ¬ T k) : Tab w' tb S L v mv :=
  ⟨(hb.block tb (Array.getElem?_eq_some_iff.1 h.blk).1 (hd _ h.inS)).trans h.blk, own_but h.own hb fun g e => hd g (h.rowS g e),
    h.ids.imp id fun ⟨mb, D, e, hs, hm, hi⟩ => ⟨mb, D, e, hs, map_but hm hb (hd _ hs), hi⟩, h.inS, h.rowS, h.nodup, h.small, h.len, h.sum⟩
theorem Tab.cell0 (h : Tab w tb S L v mv) : w.cell? ⟨tb, 0, none⟩ = some v := by rw [cell_of_row w tb 0 _ 97 (0, 0) h.blk]; rfl
theorem Tab.cell1 (h : Tab w tb S L v mv) : w.cell? ⟨tb, 1, none⟩ = some mv := by rw [cell_of_row w tb 1 _ 97 (0, 0) h.blk]; rfl
theorem Tab.cell2 (h : Tab w tb S L v mv) : w.cell? ⟨tb, 2, none⟩ = some (.int .i64 (total L : Nat)) := by rw [cell_of_row w tb 2 _ 97 (0, 0) h.blk]; rfl
theorem Tab.free (h : Tab w tb S L v mv) (j : Nat) : w.frozen? ⟨tb, j, none⟩ = false := frozen_of_row w tb j _ 97 h.blk
theorem Tab.lt (h : Tab w tb S L v mv) : tb < w.heap.size := (Array.getElem?_eq_some_iff.1 h.blk).1
end
theorem own_form {w : World} {base n : Nat} {e : TypeId} {size : Nat} {v : Value} {xs : List Value} (h : w.ownsRow base e size v n xs) : ∃ a c, v = .slice a n c := by
  rcases h.2 with ⟨rfl, rfl⟩ | ⟨g, cap, cur, rfl, _⟩
  · exact ⟨none, 0, rfl⟩
  · exact ⟨_, cap, rfl⟩
theorem law9 : Keyed Tryd.prog 9 := string_keyed Tryd.underlying9
theorem zero3 (w : World) : (zeroValue 3).run Tryd.prog w = .ok (.int .i64 0) w := by kernel_rfl
theorem key9 {s : ByteArray} (h : s.size ≤ maxLen) : keyOf Tryd.prog 9 (.string s) = some (skey s) := Go.WideMaps.keyOf_string_mk Tryd.underlying9 h
end Go.Proofs.YtbflkdbimgakpaaDoor.E6
