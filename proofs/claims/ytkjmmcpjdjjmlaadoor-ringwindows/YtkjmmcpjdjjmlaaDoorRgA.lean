/-
  Events in memory, a ring in memory; missing, place, Len, Lost.
-/
import Derived.Test.YtkjmmcpjdjjmlaaDoorEvtC
import Derived.Lib.MinMax
namespace Go.Proofs.YtkjmmcpjdjjmlaaDoor
open Go.RowKit Go.Maps Go.Shelf
/-- An event, wherever it lies. -/
structure Ab where
  g : Int
  k : Int
  o : Int
  a : Int
  ls : List ByteArray
/-- An event in memory. -/
structure Ev where
  g : Int
  k : Int
  o : Int
  a : Int
  sa : Option Addr
  sc : Nat
  ls : List ByteArray
def Ev.ab (e : Ev) : Ab := ⟨e.g, e.k, e.o, e.a, e.ls⟩
def Ev.none : Ev := ⟨0, 0, 0, 0, Option.none, 0, []⟩
def layE : Lay Ev := ⟨fun e => [.int .i64 e.g, .int .i64 e.k, .int .u64 e.o, .int .u64 e.a, .slice e.sa e.ls.length e.sc], 5, by decide, fun _ => rfl, by intro a u hu; simp at hu; rcases hu with rfl | rfl | rfl | rfl | rfl <;> rfl⟩
theorem Tryd.infoE : (Tryd.prog.info? 32).map (fun i => (i.zero, i.size, i.bytes)) = some (some (.agg #[.int .i64 0, .int .i64 0, .int .u64 0, .int .u64 0, .slice .none 0 0]), 5, 56) := by kernel_rfl
/-- Its stack is a row of strings of its own. -/
structure Stk (w : World) (e : Ev) : Prop where
  own : Own layB 9 w 0 (.slice e.sa e.ls.length e.sc) e.ls
  few : e.ls.length ≤ 16
theorem Stk.row {w : World} {e : Ev} (h : Stk w e) : SRow w e.sa e.ls.length e.ls := SRow.own h.own rfl
theorem Stk.nil {w : World} {e : Ev} (h : Stk w e) : e.sa = .none → e.ls.length = 0 ∧ e.sc = 0 := by
  obtain ⟨a, c, hv, h0, _⟩ := own_form h.own
  injection hv with e1 e2 e3
  intro h9
  rw [e3]
  exact h0 (by rw [← e1]; exact h9)
theorem Stk.below {w w' : World} {e : Ev} (h : Stk w e) (hb : Below w.heap.size w w') : Stk w' e := ⟨h.own.below hb, h.few⟩
/-- Blocks that hold no strings. -/
def NoStr (w : World) (S : Nat → Prop) : Prop := ∀ k cur fr, S k → w.heap[k]? ≠ some (.cells cur 9 fr)
theorem Stk.but {S : Nat → Prop} {w w' : World} {e : Ev} (h : Stk w e) (hb : But S w w') (hS : NoStr w S) : Stk w' e :=
  ⟨h.own.but hb (fun g hg hs => by obtain ⟨cur, hc⟩ := own_ty h.own hg; exact hS g cur _ hs hc), h.few⟩
theorem Stk.none (w : World) : Stk w Ev.none := ⟨Own.nil _ _ _ _, by decide⟩
/-- Events in a row of the call's own. -/
structure Evs (w : World) (base : Nat) (v : Value) (es : List Ev) : Prop where
  own : Own layE 32 w base v es
  stk : ∀ e ∈ es, Stk w e
theorem Evs.below {w w' : World} {base : Nat} {v : Value} {es : List Ev} (h : Evs w base v es) (hb : Below w.heap.size w w') : Evs w' base v es := ⟨h.own.below hb, fun e he => (h.stk e he).below hb⟩
theorem Evs.but {S : Nat → Prop} {w w' : World} {base : Nat} {v : Value} {es : List Ev} (h : Evs w base v es) (hb : But S w w') (hS : NoStr w S) (hv : ∀ g, v.ownBlock = some g → ¬ S g) : Evs w' base v es := ⟨h.own.but hb hv, fun e he => (h.stk e he).but hb hS⟩
theorem Evs.mono {w : World} {base base' : Nat} {v : Value} {es : List Ev} (h : Evs w base v es) (hb : base' ≤ base) : Evs w base' v es := ⟨h.own.mono hb, h.stk⟩
theorem Evs.nil (w : World) (base : Nat) : Evs w base (.slice .none 0 0) [] := ⟨Own.nil _ _ _ _, fun e he => by cases he⟩
theorem Evs.form {w : World} {base : Nat} {v : Value} {es : List Ev} (h : Evs w base v es) : ∃ a c, v = .slice a es.length c ∧ (a = .none → es.length = 0 ∧ c = 0) ∧ es.length ≤ c := own_form h.own
/-- A ring at rb, its row in the block b; T was taken. -/
structure Rg (w : World) (rb b size : Nat) (es : List Ev) (T : List Ab) : Prop where
  blk : w.heap[rb]? = some (.cells #[.slice (some ⟨b, 0, .none⟩) size size, .int .i64 (T.length : Int)] 39 (0, 0))
  row : Evs w 0 (.slice (some ⟨b, 0, .none⟩) size size) es
  len : es.length = size
  pos : 0 < size
  big : (size : Int) ≤ 65536
  top : (T.length : Int) ≤ 4000000000000
  at_ : ∀ (j : Nat) (x : Ab), T[j]? = some x → T.length ≤ j + size → ∃ e, es[j % size]? = some e ∧ e.ab = x
section
variable {w w' : World} {rb b size : Nat} {es : List Ev} {T : List Ab}
theorem Rg.c0 (h : Rg w rb b size es T) : w.cell? ⟨rb, 0, .none⟩ = some (.slice (some ⟨b, 0, .none⟩) size size) := cell_at h.blk rfl
theorem Rg.c1 (h : Rg w rb b size es T) : w.cell? ⟨rb, 1, .none⟩ = some (.int .i64 (T.length : Int)) := cell_at h.blk rfl
theorem Rg.lt (h : Rg w rb b size es T) : rb < w.heap.size := (Array.getElem?_eq_some_iff.1 h.blk).1
theorem Rg.rty (h : Rg w rb b size es T) : ∃ cur, w.heap[b]? = some (.cells cur 32 (0, 0)) := own_ty h.row.own rfl
theorem Rg.blt (h : Rg w rb b size es T) : b < w.heap.size := by obtain ⟨cur, hc⟩ := h.rty; exact (Array.getElem?_eq_some_iff.1 hc).1
theorem Rg.ne (h : Rg w rb b size es T) : rb ≠ b := by
  intro e
  obtain ⟨cur, hc⟩ := h.rty
  rw [← e, h.blk] at hc
  simp at hc
/-- The blocks that an Emit writes. -/
def Mine (rb b : Nat) (k : Nat) : Prop := k = rb ∨ k = b
theorem Rg.noStr (h : Rg w rb b size es T) : NoStr w (Mine rb b) := by
  intro k cur fr hk hc
  rcases hk with rfl | rfl
  · rw [h.blk] at hc; simp at hc
  · obtain ⟨cur', hc'⟩ := h.rty
    rw [hc'] at hc; simp at hc
theorem Rg.below (h : Rg w rb b size es T) (hb : Below w.heap.size w w') : Rg w' rb b size es T :=
  ⟨(hb.block rb h.lt).trans h.blk, h.row.below hb, h.len, h.pos, h.big, h.top, h.at_⟩
end
theorem tmod_nat (a s : Nat) : Int.tmod (a : Int) (s : Int) = ((a % s : Nat) : Int) := by
  rw [Int.tmod_eq_emod_of_nonneg (by omega)]; simp
theorem missing_any {w : World} {rb b size : Nat} {es : List Ev} {T : List Ab} (h : Rg w rb b size es T) :
    Calls Tryd.prog 12 #[.pointer (some ⟨rb, 0, .none⟩)] w fun e w' => e = .returned (.bool false) ∧ w' = w := by
  have c0 := h.c0
  have hz : ((size : Int) == 0) = false := by have := h.pos; rw [beq_eq_false_iff_ne]; omega
  clear h
  go_enter Tryd.func12, Tryd.ntmps12
  go_wp2
  go_ret
  exact ⟨rfl, rfl⟩
theorem place_any {w : World} {rb b size : Nat} {es : List Ev} {T : List Ab} (h : Rg w rb b size es T) (j : Nat) (hj : (j : Int) ≤ 4000000000000) :
    Calls Tryd.prog 15 #[.pointer (some ⟨rb, 0, .none⟩), .int .i64 (j : Int)] w fun e w' => e = .returned (.int .i64 ((j % size : Nat) : Int)) ∧ w' = w := by
  have c0 := h.c0
  have hz : ((size : Int) == 0) = false := by have := h.pos; rw [beq_eq_false_iff_ne]; omega
  have hz0 : ¬ (size : Int) = 0 := by have := h.pos; omega
  have hzN : ¬ size = 0 := by have := h.pos; omega
  have HB : Hid _ := hide h.big
  have HT := hide (tmod_nat j size)
  clear h
  go_enter Tryd.func15, Tryd.ntmps15
  go_wp2
  go_ret
  exact ⟨rfl, rfl⟩
end Go.Proofs.YtkjmmcpjdjjmlaaDoor
