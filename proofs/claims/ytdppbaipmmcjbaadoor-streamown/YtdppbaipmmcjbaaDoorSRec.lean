/-
  Records in rows; a record that is put.
-/
import Derived.Test.YtdppbaipmmcjbaaDoorStM
import Derived.Test.YtdppbaipmmcjbaaDoorDelC
import Derived.Test.YtdppbaipmmcjbaaDoorLists
import Derived.Test.YtdppbaipmmcjbaaDoorGetC
namespace Go.Proofs.YtdppbaipmmcjbaaDoor
open Go.RowKit
def rcs (r : Rc) : List Value := [.int .i64 r.stamp, .int .i64 r.kind, .int .u64 r.obj, .int .u64 r.arg, .int .i64 r.stack]
def flat (L : List Rc) : List Value := L.flatMap rcs
theorem flat_len (L : List Rc) : (flat L).length = L.length * 5 := by
  induction L with
  | nil => rfl
  | cons r l ih => unfold flat at *; rw [List.flatMap_cons, List.length_append, ih]; simp [rcs]; omega
theorem flat_snoc (L : List Rc) (r : Rc) : flat (L ++ [r]) = flat L ++ rcs r := by unfold flat; simp
theorem flat_get {L : List Rc} {i t : Nat} {r : Rc} (h : L[i]? = some r) (ht : t < 5) : (flat L)[i * 5 + t]? = (rcs r)[t]? := by
  induction L generalizing i with
  | nil => simp at h
  | cons x l ih =>
    unfold flat at *
    rw [List.flatMap_cons]
    cases i with
    | zero => simp at h; subst h; rw [List.getElem?_append_left (by simp [rcs]; omega)]; simp
    | succ i =>
      simp at h
      rw [List.getElem?_append_right (by simp [rcs]; omega)]
      have := ih h
      rw [← this]; congr 1; simp [rcs]; omega
/-- A list of records that came in. -/
structure RRow (w : World) (a : Option Addr) (n : Nat) (rs : List Rc) : Prop where
  len : rs.length = n
  cells : n = 0 ∨ ∃ b off, a = some ⟨b, off, none⟩ ∧ ∀ i r, rs[i]? = some r → w.cell? ⟨b, off + i * 5, none⟩ = some (.int .i64 r.stamp) ∧ w.cell? ⟨b, off + i * 5 + 1, none⟩ = some (.int .i64 r.kind) ∧ w.cell? ⟨b, off + i * 5 + 2, none⟩ = some (.int .u64 r.obj) ∧ w.cell? ⟨b, off + i * 5 + 3, none⟩ = some (.int .u64 r.arg) ∧ w.cell? ⟨b, off + i * 5 + 4, none⟩ = some (.int .i64 r.stack)
theorem RRow.below {w w' : World} {a : Option Addr} {n : Nat} {rs : List Rc} (h : RRow w a n rs) (hb : Below w.heap.size w w') : RRow w' a n rs := by
  refine ⟨h.len, h.cells.imp id ?_⟩
  rintro ⟨b, off, ha, hc⟩
  refine ⟨b, off, ha, fun i r hr => ?_⟩
  obtain ⟨c0, c1, c2, c3, c4⟩ := hc i r hr
  have hlt : b < w.heap.size := World.block_lt_of_cell? w _ c0
  exact ⟨(hb.cell (p := ⟨b, off + i * 5, none⟩) hlt).trans c0, (hb.cell (p := ⟨b, off + i * 5 + 1, none⟩) hlt).trans c1, (hb.cell (p := ⟨b, off + i * 5 + 2, none⟩) hlt).trans c2, (hb.cell (p := ⟨b, off + i * 5 + 3, none⟩) hlt).trans c3, (hb.cell (p := ⟨b, off + i * 5 + 4, none⟩) hlt).trans c4⟩
theorem Tryd.infoR : (Tryd.prog.info? 48).map (fun i => (i.zero, i.size, i.bytes)) = some (some (.agg #[.int .i64 0, .int .i64 0, .int .u64 0, .int .u64 0, .int .i64 0]), 5, 40) := by kernel_rfl
/-- 'append(l, r)' of one record in a new block, l the call's own; where it lies then. -/
theorem rec_lies (w : World) {ops : Array Oper} {rest : List Oper} {oo : Oper} {aa : Act} {Q : Exit → Act → World → Prop} (hgd : oo.guard = none) (s x : Operand)
    (ho : oo.op = .call { callee := .builtin .append, args := #[s, x], argTypes := #[22, 22] }) (base : Nat)
    (v : Value) (n : Nat) (L : List Rc) (hs : aa.eval s = v) (hown : w.ownsRow base 48 5 v n (flat L))
    (X : Nat) (r : Rc) (hx : aa.eval x = .slice (some ⟨X, 0, none⟩) 1 1) (hX : w.heap[X]? = some (.cells #[.int .i64 r.stamp, .int .i64 r.kind, .int .u64 r.obj, .int .u64 r.arg, .int .i64 r.stack] 48 (0, 0)))
    (hb : n ≤ 1048576) (hbase : base ≤ w.heap.size)
    (h : ∀ g cap w', w'.ownsRow base 48 5 (.slice (some ⟨g, 0, none⟩) (n + 1) cap) (n + 1) (flat (L ++ [r])) → w.grownBy w' v.ownBlock → (v.ownBlock = some g ∨ g = w.heap.size) → wpList Tryd.prog ops Q rest (aa.put oo.dst (.slice (some ⟨g, 0, none⟩) (n + 1) cap)) w') : wpList Tryd.prog ops Q (oo :: rest) aa w := by
  obtain ⟨i0, hi, hz0, hz1, hz2⟩ := info_parts Tryd.infoR
  refine wpList_append_lies w hgd s x 22 ho base 48 i0 _ 5 40 Tryd.underlying22 hi hz0 hz1 hz2 rfl (by decide) v n _ hs hown ⟨X, 0, none⟩ 1 1 (rcs r) hx rfl (World.news_of_block hX) (by intro u hu; simp [rcs] at hu; rcases hu with rfl | rfl | rfl | rfl | rfl <;> rfl) (by decide) (by unfold maxLen; omega) (by omega) hbase _ rfl ?_
  intro g cap w' h1 h2 h3 _
  exact h g cap w' (by rw [flat_snoc]; exact h1) h2 h3
theorem own_formR {w : World} {base n : Nat} {v : Value} {xs : List Value} {e : TypeId} {z : Nat} (h : w.ownsRow base e z v n xs) : ∃ a c, v = .slice a n c := by
  rcases h.2 with ⟨rfl, rfl⟩ | ⟨g, cap, cur, rfl, _⟩
  · exact ⟨none, 0, rfl⟩
  · exact ⟨_, _, rfl⟩
theorem own_rec {w : World} {base g n c k : Nat} {L : List Rc} {r : Rc} (h : w.ownsRow base 48 5 (.slice (some ⟨g, 0, none⟩) n c) n (flat L)) (hk : L[k]? = some r) :
    w.cell? ⟨g, k * 5, none⟩ = some (.int .i64 r.stamp) ∧ w.cell? ⟨g, k * 5 + 1, none⟩ = some (.int .i64 r.kind) ∧ w.cell? ⟨g, k * 5 + 2, none⟩ = some (.int .u64 r.obj) ∧ w.cell? ⟨g, k * 5 + 3, none⟩ = some (.int .u64 r.arg) ∧ w.cell? ⟨g, k * 5 + 4, none⟩ = some (.int .i64 r.stack) := by
  have key : ∀ t, t < 5 → ∀ u, (rcs r)[t]? = some u → w.cell? ⟨g, k * 5 + t, none⟩ = some u := by
    intro t ht u hu
    have := h.cells (g := g) rfl (k * 5 + t) u (by rw [flat_get hk ht]; exact hu)
    have ha : (⟨g, 0, none⟩ : Addr).add (k * 5 + t) = ⟨g, k * 5 + t, none⟩ := by unfold Addr.add; split <;> simp_all
    rw [ha] at this; exact this
  exact ⟨key 0 (by omega) _ rfl, key 1 (by omega) _ rfl, key 2 (by omega) _ rfl, key 3 (by omega) _ rfl, key 4 (by omega) _ rfl⟩
theorem own_rowR {w : World} {base n : Nat} {v : Value} {xs : List Value} (h : w.ownsRow base 48 5 v n xs) (hn : 0 < n) : ∃ g c, v = .slice (some ⟨g, 0, none⟩) n c ∧ base ≤ g ∧ g < w.heap.size := by
  rcases h.2 with ⟨_, e⟩ | ⟨g, cap, cur, e, hb, hh, _⟩
  · omega
  · exact ⟨g, cap, e, hb, (Array.getElem?_eq_some_iff.1 hh).1⟩
/-- Put of a record that may be: what it answers. -/
theorem put_n (S O K t k o a q : Int) (w : World) (hK : Kn w) (hw : 0 < w.heap.size) (h : putE ⟨S, O, K⟩ ⟨t, k, o, a, q⟩ = 0) (hr : (⟨t, k, o, a, q⟩ : Rc).ok) :
    Calls Tryd.prog 48 #[.agg #[.int .i64 S, .int .u64 O, .int .i64 K], .agg #[.int .i64 t, .int .i64 k, .int .u64 o, .int .u64 a, .int .i64 q]] w fun e w' =>
      ∃ g c, e = .returned (.tuple #[.slice (some ⟨g, 0, none⟩) (text ⟨S, O, K⟩ ⟨t, k, o, a, q⟩).length c, .agg #[.int .i64 (t + 1), .int .u64 o, .int .i64 q], .int .i64 0]) ∧ w.heap.size ≤ g ∧ w'.ownsRow w.heap.size 5 1 (.slice (some ⟨g, 0, none⟩) (text ⟨S, O, K⟩ ⟨t, k, o, a, q⟩).length c) (text ⟨S, O, K⟩ ⟨t, k, o, a, q⟩).length ((text ⟨S, O, K⟩ ⟨t, k, o, a, q⟩).map (Value.int .u8)) ∧ Below w.heap.size w w' := by
  have hl := text_len h hr
  refine (put_ok S O K t k o a q w hK hw h hr.a0 hr.a1).mono ?_
  rintro e w' ⟨v, n, rfl, rfl, hown, hb⟩
  obtain ⟨g, c, rfl, hg, _⟩ := own_some hown (by omega)
  exact ⟨g, c, rfl, hg, hown, hb⟩
theorem neq_st (w : World) (a b c : Int) : (binOp .neq 69 (.agg #[.int .i64 a, .int .u64 b, .int .i64 c]) (.agg #[.int .i64 a, .int .u64 b, .int .i64 c])).run Tryd.prog w = .ok (.bool false) w := by
  have hu : Tryd.prog.underlying 69 = some (.struct (Tryd.prog.fieldsOf 69)) := by simp [Program.fieldsOf, Tryd.underlying69]
  have hp : Tryd.prog.stoodInHeld 69 = false := by kernel_rfl
  rw [run_neq_struct, show (10000 : Nat) = 9998 + 1 + 1 from rfl, run_equalIn_struct w _ _ _ _ hu hp]
  simp only [Program.fieldsOf, Tryd.underlying69]
  simp [Op.eqFields, go_sem, Tryd.underlying3, Tryd.underlying46]
theorem neq_rc (w : World) (a b c d e : Int) : (binOp .neq 48 (.agg #[.int .i64 a, .int .i64 b, .int .u64 c, .int .u64 d, .int .i64 e]) (.agg #[.int .i64 a, .int .i64 b, .int .u64 c, .int .u64 d, .int .i64 e])).run Tryd.prog w = .ok (.bool false) w := by
  have hu : Tryd.prog.underlying 48 = some (.struct (Tryd.prog.fieldsOf 48)) := by simp [Program.fieldsOf, Tryd.underlying48]
  have hp : Tryd.prog.stoodInHeld 48 = false := by kernel_rfl
  rw [run_neq_struct, show (10000 : Nat) = 9998 + 1 + 1 from rfl, run_equalIn_struct w _ _ _ _ hu hp]
  simp only [Program.fieldsOf, Tryd.underlying48]
  simp [Op.eqFields, go_sem, Tryd.underlying3, Tryd.underlying46]
end Go.Proofs.YtdppbaipmmcjbaaDoor
