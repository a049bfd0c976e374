/-
  One body of a table.
-/
import Derived.Test.YtbcmheilgilipaaCut
import Derived.Test.YtbcmheilgilipaaTabD
import Derived.Lib.AppendStr
namespace Go.Proofs.Ytbcmheilgilipaa
open Go.RowKit Go.Maps
theorem strCells_eq (s : ByteArray) : Lib.strCells s = (sbytes s).map (Value.int .u8) := by
  unfold sbytes; rw [List.map_map]; rfl
/-- 'append(b, s...)' of a string's bytes, b the call's own. -/
theorem append_bytes (w : World) {ops : Array Oper} {rest : List Oper} {o : Oper} {a : Act} {Q : Exit → Act → World → Prop} (hgd : o.guard = none) (sl x : Operand)
    (ho : o.op = .call { callee := .builtin .append, args := #[sl, x], argTypes := #[31, 9] }) (base : Nat)
    (v : Value) (n : Nat) (xs : List Int) (hs : a.eval sl = v) (hown : w.ownsRow base 5 1 v n (xs.map (Value.int .u8)))
    (s : ByteArray) (hx : a.eval x = .string s) (hb : ((n + s.size : Nat) : Int) ≤ 100000000) (hbase : base ≤ w.heap.size)
    (h : ∀ (a' : Option Addr) (c' : Nat) w', w'.ownsRow base 5 1 (.slice a' (n + s.size) c') (n + s.size) ((xs ++ sbytes s).map (Value.int .u8)) → w.grownBy w' v.ownBlock → wpList Try.prog ops Q rest (a.put o.dst (.slice a' (n + s.size) c')) w') : wpList Try.prog ops Q (o :: rest) a w := by
  obtain ⟨i0, hi, hz0, hz1, hz2⟩ := info_parts Try.info5
  refine Lib.wpList_append_own_string w hgd sl x 31 9 ho base 5 i0 Try.underlying31 Try.underlying9 hi hz0 hz1 hz2 v n _ hs hown s hx (by unfold maxLen; omega) (by omega) hbase ?_
  intro v' w' h1 h2 _
  obtain ⟨a', c', rfl⟩ := own_form h1
  exact h a' c' w' (by rw [List.map_append, ← strCells_eq]; exact h1) h2


end Go.Proofs.Ytbcmheilgilipaa
