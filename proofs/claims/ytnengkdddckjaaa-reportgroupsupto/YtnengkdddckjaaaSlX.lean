/-
  What a call leaves alone; rows of strings; an event in a block.
-/
import Derived.Test.YtnengkdddckjaaaRows
import Derived.WalkKit
import Derived.WalkLawsBesides
import Derived.BigQuiet
import Derived.Deep.QuietTactic
import Derived.WalkSpells
import Derived.WalkSmall
import Derived.Maps.OwnSet
import Derived.Maps.OwnOps
import Derived.Maps.AppendAt
import Derived.Laws.AppendOwnNone
import Derived.KernelRfl
namespace Go.Proofs.Ytnengkdddckjaaa.E6
open Go.RowKit Go.Maps
theorem hide {p : Prop} (h : p) : Hid p := h

/-- What is not of S stays as it was. -/
structure But (S : Nat → Prop) (w w' : World) : Prop where
  os : w'.os = w.os
  tape : w'.tape = w.tape
  output : w'.output = w.output
  size : w.heap.size ≤ w'.heap.size
  block : ∀ k, k < w.heap.size → ¬ S k → w'.heap[k]? = w.heap[k]?
theorem But.refl (S : Nat → Prop) (w : World) : But S w w := ⟨rfl, rfl, rfl, Nat.le_refl _, fun _ _ _ => rfl⟩
theorem But.trans {S T : Nat → Prop} {a b c : World} (h : But S a b) (k : But T b c) (hT : ∀ i, i < a.heap.size → T i → S i) : But S a c :=
  ⟨k.os.trans h.os, k.tape.trans h.tape, k.output.trans h.output, Nat.le_trans h.size k.size,
    fun i hi hs => (k.block i (Nat.lt_of_lt_of_le hi h.size) (fun e => hs (hT i hi e))).trans (h.block i hi hs)⟩
theorem But.of_grown {S : Nat → Prop} {w w' : World} {row : Option Nat} (hg : w.grownBy w' row) (hS : ∀ k, row = some k → S k) : But S w w' :=
  ⟨hg.os, hg.tape, hg.output, hg.size, fun k hk hs => hg.block k hk (fun e => hs (hS k e.symm))⟩
theorem But.grown {S : Nat → Prop} {w : World} {a w' : World} {row : Option Nat} (h : But S a w) (hg : w.grownBy w' row) (hS : ∀ k, k < a.heap.size → row = some k → S k) : But S a w' :=
  h.trans (T := fun k => row = some k) (But.of_grown hg fun _ e => e) hS
theorem But.alloc {S : Nat → Prop} {a w : World} (h : But S a w) (o : Obj) : But S a (w.alloc o) :=
  h.trans (T := fun _ => False) ⟨rfl, rfl, rfl, by simp, fun k hk _ => Below.heap_alloc _ _ _ hk⟩ (fun _ _ e => e.elim)
theorem But.drew {S : Nat → Prop} {a w : World} (h : But S a w) : But S a w.drew := ⟨h.os, h.tape, h.output, h.size, h.block⟩
theorem But.setCell {S : Nat → Prop} {a w : World} (h : But S a w) (p : Addr) (hp : p.block < a.heap.size → S p.block) (u : Value) : But S a (w.setCell p u) :=
  h.trans (T := fun k => k = p.block) ⟨rfl, rfl, rfl, by simp [World.setCell], fun k _ hs => Below.heap_setCell _ _ _ _ hs⟩ (fun i hi e => by subst e; exact hp hi)
theorem But.below {S : Nat → Prop} {w w' : World} {B : Nat} (h : But S w w') (hB : B ≤ w.heap.size) (hS : ∀ k, S k → B ≤ k) : Below B w w' :=
  ⟨h.os, h.tape, h.output, h.size, fun k hk => h.block k (by omega) (fun e => by have := hS k e; omega)⟩
theorem But.of_below {S : Nat → Prop} {w w' : World} (h : Below w.heap.size w w') : But S w w' := ⟨h.os, h.tape, h.output, h.size, fun k hk _ => h.block k hk⟩
theorem But.mono {S T : Nat → Prop} {w w' : World} (h : But S w w') (hT : ∀ k, S k → T k) : But T w w' := ⟨h.os, h.tape, h.output, h.size, fun k hk hs => h.block k hk fun e => hs (hT k e)⟩
theorem own_but {S : Nat → Prop} {w w' : World} {base : Nat} {e : TypeId} {size n : Nat} {v : Value} {xs : List Value} (h : w.ownsRow base e size v n xs) (hb : But S w w') (hv : ∀ g, v.ownBlock = some g → ¬ S g) : w'.ownsRow base e size v n xs := by
  obtain ⟨h1, h2⟩ := h
  refine ⟨h1, h2.imp id ?_⟩
  rintro ⟨g, cap, cur, rfl, hg, hh, r⟩
  exact ⟨g, cap, cur, rfl, hg, (hb.block g (Array.getElem?_eq_some_iff.1 hh).1 (hv g rfl)).trans hh, r⟩
theorem own_form {w : World} {base n : Nat} {e : TypeId} {size : Nat} {v : Value} {xs : List Value} (h : w.ownsRow base e size v n xs) : ∃ a c, v = .slice a n c := by
  rcases h.2 with ⟨rfl, rfl⟩ | ⟨g, cap, cur, rfl, _⟩
  · exact ⟨none, 0, rfl⟩
  · exact ⟨_, cap, rfl⟩
theorem Try.info9 : (Try.prog.info? 9).map (fun i => (i.zero, i.size, i.bytes)) = some (some (.string ⟨#[]⟩), 1, 16) := by kernel_rfl
/-- The list at 'a' of 'n' strings holds L. -/
structure SRow (w : World) (a : Option Addr) (n : Nat) (L : List ByteArray) : Prop where
  len : L.length = n
  cells : n = 0 ∨ ∃ b off, a = some ⟨b, off, none⟩ ∧ ∀ i, i < n → w.cell? ⟨b, off + i, none⟩ = some (.string (L.getD i ByteArray.empty))
theorem SRow.of_own {w : World} {base n c : Nat} {a : Option Addr} {L : List ByteArray} (h : w.ownsRow base 9 1 (.slice a n c) n (L.map Value.string)) : SRow w a n L := by
  have hl : L.length = n := by have := h.1; simpa using this
  rcases h.2 with ⟨hv, h0⟩ | ⟨g, cap, cur, hv, hb, hg, hn, hm, hs, ht⟩
  · exact ⟨hl, .inl h0⟩
  · cases hv
    refine ⟨hl, .inr ⟨g, 0, rfl, fun i hi => ?_⟩⟩
    have := h.cells (g := g) rfl i (.string (L.getD i ByteArray.empty)) (by simp [hl, hi])
    have ha : (⟨g, 0, none⟩ : Addr).add i = ⟨g, 0 + i, none⟩ := by unfold Addr.add; split <;> simp_all
    rwa [ha] at this
theorem SRow.at {w : World} {a : Option Addr} {n : Nat} {L : List ByteArray} (h : SRow w a n L) {i : Nat} (hi : i < n) : ∃ b off, a = some ⟨b, off, none⟩ ∧ w.cell? ⟨b, off + i, none⟩ = some (.string (L.getD i ByteArray.empty)) := by
  rcases h.cells with h0 | ⟨b, off, ha, hc⟩
  · omega
  · exact ⟨b, off, ha, hc i hi⟩
theorem SRow.but {T : Nat → Prop} {w w' : World} {a : Option Addr} {n : Nat} {L : List ByteArray} (h : SRow w a n L) (hb : But T w w') (hT : ∀ b off, a = some ⟨b, off, none⟩ → n ≠ 0 → ¬ T b) : SRow w' a n L := by
  refine ⟨h.len, ?_⟩
  by_cases hn : n = 0
  · exact .inl hn
  · rcases h.cells with h0 | ⟨b, off, ha, hc⟩
    · exact absurd h0 hn
    · refine .inr ⟨b, off, ha, fun i hi => ?_⟩
      rw [← hc i hi]
      have hlt : b < w.heap.size := by
        have := hc i hi
        unfold World.cell? at this
        cases hh : w.heap[b]? with
        | none => simp [hh] at this
        | some o => exact (Array.getElem?_eq_some_iff.1 hh).1
      have := hb.block b hlt (hT b off ha hn)
      unfold World.cell?
      rw [this]
theorem getD_get {L : List ByteArray} {k : Nat} (h : k < L.length) : L[k]? = some (L.getD k ByteArray.empty) := by
  rw [List.getD_eq_getElem?_getD]; simp [h]
theorem SRow.bel {w w' : World} {a : Option Addr} {n : Nat} {L : List ByteArray} (h : SRow w a n L) (hb : Below w.heap.size w w') : SRow w' a n L := h.but (T := fun _ => False) (But.of_below hb) (fun _ _ _ _ e => e)
/-- An event lies in block b. -/
def EvB (w : World) (b : Nat) (g k o a : Int) (sa : Option Addr) (sn sc : Nat) : Prop := w.heap[b]? = some (.cells #[.int .i64 g, .int .i64 k, .int .u64 o, .int .u64 a, .slice sa sn sc] 38 (0, 0))
section
variable {w w' : World} {b B : Nat} {g k o a : Int} {sa : Option Addr} {sn sc : Nat}
theorem EvB.new : EvB (w.alloc (.cells #[.int .i64 g, .int .i64 k, .int .u64 o, .int .u64 a, .slice sa sn sc] 38)) w.heap.size g k o a sa sn sc := heap_alloc_new w _
theorem EvB.lt (h : EvB w b g k o a sa sn sc) : b < w.heap.size := (Array.getElem?_eq_some_iff.1 h).1
theorem EvB.below (h : EvB w b g k o a sa sn sc) (hb : Below w.heap.size w w') : EvB w' b g k o a sa sn sc := (hb.block b h.lt).trans h
theorem EvB.c0 (h : EvB w b g k o a sa sn sc) : w.cell? ⟨b, 0, none⟩ = some (.int .i64 g) := by rw [cell_of_row w b 0 _ 38 (0, 0) h]; rfl
theorem EvB.c1 (h : EvB w b g k o a sa sn sc) : w.cell? ⟨b, 1, none⟩ = some (.int .i64 k) := by rw [cell_of_row w b 1 _ 38 (0, 0) h]; rfl
theorem EvB.c2 (h : EvB w b g k o a sa sn sc) : w.cell? ⟨b, 2, none⟩ = some (.int .u64 o) := by rw [cell_of_row w b 2 _ 38 (0, 0) h]; rfl
theorem EvB.c3 (h : EvB w b g k o a sa sn sc) : w.cell? ⟨b, 3, none⟩ = some (.int .u64 a) := by rw [cell_of_row w b 3 _ 38 (0, 0) h]; rfl
theorem EvB.c4 (h : EvB w b g k o a sa sn sc) : w.cell? ⟨b, 4, none⟩ = some (.slice sa sn sc) := by rw [cell_of_row w b 4 _ 38 (0, 0) h]; rfl
end
theorem below_new (w : World) (ob : Obj) : Below w.heap.size w (w.alloc ob) := (Below.refl _ w).alloc (Nat.le_refl _) _
end Go.Proofs.Ytnengkdddckjaaa.E6
