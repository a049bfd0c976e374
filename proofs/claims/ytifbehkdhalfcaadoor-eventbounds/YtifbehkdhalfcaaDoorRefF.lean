/-
  The document's forest in memory: New, Len, find, within.
-/
import Derived.Test.YtifbehkdhalfcaaDoorRefA
import Derived.Test.YtifbehkdhalfcaaDoorForP
import Derived.Laws.StructEq
namespace Go.Proofs.YtifbehkdhalfcaaDoor
open Go.RowKit Go.Maps Go.Shelf
structure RFr (w : World) (fb tb : Nat) (S : Nat → Prop) (N : List Nd) (v : Value) : Prop where
  blk : w.heap[fb]? = some (.cells #[.pointer (some ⟨tb, 0, none⟩), v] 77 (0, 0))
  own : w.ownsRow 0 83 2 v N.length (ncells N)
  inS : S fb
  rowS : ∀ g, v.ownBlock = some g → S g
  len : N.length ≤ 262144
  small : ∀ n ∈ N, n.1 ≤ 262144 ∧ n.2 ≤ 65536
section
variable {w : World} {fb tb : Nat} {S : Nat → Prop} {N : List Nd} {v : Value}
theorem RFr.kept {T : Nat → Prop} {w' : World} (h : RFr w fb tb S N v) (hb : But T w w') (hd : ∀ k, S k → ¬ T k) : RFr w' fb tb S N v :=
  ⟨(hb.block fb (Array.getElem?_eq_some_iff.1 h.blk).1 (hd _ h.inS)).trans h.blk, own_but h.own hb fun g e => hd g (h.rowS g e), h.inS, h.rowS, h.len, h.small⟩
theorem RFr.mono {T : Nat → Prop} (h : RFr w fb tb S N v) (hT : ∀ k, S k → T k) : RFr w fb tb T N v := ⟨h.blk, h.own, hT _ h.inS, fun g e => hT _ (h.rowS g e), h.len, h.small⟩
theorem RFr.drewN (h : RFr w fb tb S N v) (j : Nat) : RFr (w.drewN j) fb tb S N v := h.kept (T := fun _ => False) (But.of_below (below_drewN (Below.refl _ _) j)) (fun _ _ e => e)
theorem RFr.cell0 (h : RFr w fb tb S N v) : w.cell? ⟨fb, 0, none⟩ = some (.pointer (some ⟨tb, 0, none⟩)) := by rw [cell_of_row w fb 0 _ 77 (0, 0) h.blk]; rfl
theorem RFr.cell1 (h : RFr w fb tb S N v) : w.cell? ⟨fb, 1, none⟩ = some v := by rw [cell_of_row w fb 1 _ 77 (0, 0) h.blk]; rfl
theorem RFr.free (h : RFr w fb tb S N v) (j : Nat) : w.frozen? ⟨fb, j, none⟩ = false := frozen_of_row w fb j _ 77 h.blk
theorem RFr.lt (h : RFr w fb tb S N v) : fb < w.heap.size := (Array.getElem?_eq_some_iff.1 h.blk).1
theorem RFr.row_fb (h : RFr w fb tb S N v) : ∀ g, v.ownBlock = some g → g ≠ fb := by
  intro g hg e
  rcases h.own.2 with ⟨hv, _⟩ | ⟨g', cap, cur, hv, hb, hh, _⟩
  · rw [hv] at hg; simp [Value.ownBlock] at hg
  · rw [hv] at hg; simp [Value.ownBlock] at hg; subst hg; subst e
    rw [h.blk] at hh; simp at hh
theorem RFr.node_at (h : RFr w fb tb S N v) {i : Nat} {n : Nd} (hn : N[i]? = some n) : ∃ g c, v = .slice (some ⟨g, 0, none⟩) N.length c ∧ w.cell? ⟨g, i * 2, none⟩ = some (.int .i64 (n.1 : Int)) ∧ w.cell? ⟨g, i * 2 + 1, none⟩ = some (.int .i64 (n.2 : Int)) := by
  have hi := (List.getElem?_eq_some_iff.1 hn).1
  rcases h.own.2 with ⟨hv, h0⟩ | ⟨g, cap, cur, hv, hb, hg, _⟩
  · omega
  · have hc := ncells_at N i n hn
    have c1 := h.own.cells (g := g) (by rw [hv]; rfl) (i * 2) _ hc.1
    have c2 := h.own.cells (g := g) (by rw [hv]; rfl) (i * 2 + 1) _ hc.2
    have ha : ∀ j, (⟨g, 0, none⟩ : Addr).add j = ⟨g, j, none⟩ := fun j => by unfold Addr.add; split <;> simp_all
    rw [ha] at c1 c2
    exact ⟨g, cap, hv, c1, c2⟩
end
theorem rnew_f (tb : Nat) (w : World) :
    Calls Tryd.prog 28 #[.pointer (some ⟨tb, 0, none⟩)] w fun e w' => e = .returned (.pointer (some ⟨w.heap.size, 0, none⟩)) ∧ RFr w' w.heap.size tb (fun k => k = w.heap.size) [] (.slice none 0 0) ∧ w' = w.alloc (.cells #[.pointer (some ⟨tb, 0, none⟩), .slice none 0 0] 77) := by
  go_enter Tryd.func28, Tryd.ntmps28
  go_wp2
  go_ret
  exact ⟨rfl, ⟨heap_alloc_new w _, World.ownsRow_nil _ _ _ _, rfl, by simp [Value.ownBlock], by simp, by simp⟩, rfl⟩
theorem within_any (a : Option Addr) (n c : Nat) (L : List ByteArray) (s : ByteArray) (w : World) (hr : SRow w a n L) (hn : (n : Int) ≤ 9223372036854775806) :
    Calls Tryd.prog 59 #[.slice a n c, .string s] w fun e w' => e = .returned (.bool (isIn L s)) ∧ w' = w := by
  have HR : Hid (SRow w a n L) := hr
  have hl := hr.len
  clear hr
  go_enter Tryd.func59, Tryd.ntmps59
  go_wp2
  go_loopw [5] (fun i wr => ∃ k : Nat, k ≤ n ∧ i = .int .i64 k ∧ wr = w ∧ isIn (L.take k) s = false) (fun i _ => n - (intOf i).toNat)
  case atStart => exact ⟨0, Nat.zero_le _, rfl, rfl, rfl⟩
  case round =>
    obtain ⟨k, hk, rfl, rfl, he⟩ := hrel
    have HE : Hid (isIn (L.take k) s = false) := he
    clear he
    by_cases hlt : k < n
    · obtain ⟨bo, oo, rfl, hco⟩ := HR.out.at hlt
      have HX : Hid (if (L.getD k ByteArray.empty).toList == s.toList then isIn L s = true else isIn (L.take (k + 1)) s = false) := hide (by
        cases hq : (L.getD k ByteArray.empty).toList == s.toList
        · exact isIn_take_succ (by omega) (str_ne hq) HE.out
        · have es := str_eq hq
          have hg : L[k]? = some s := by rw [← es]; exact getD_get (by omega)
          exact isIn_iff.2 (List.mem_of_getElem? hg))
      generalize L.getD k ByteArray.empty = x at hco HX
      go_wp2
      · go_ret
        have := HX.out
        rw [if_pos ‹_›] at this
        exact ⟨by rw [this]; rfl, rfl⟩
      · have := HX.out
        rw [if_neg (by simp only [‹_ = false›]; decide)] at this
        exact ⟨⟨k + 1, by omega, by go_num, trivial, this⟩, by simp [intOf]; omega⟩
    · have HX : Hid (isIn L s = false) := hide (by
        have e := HE.out
        rwa [List.take_of_length_le (by omega)] at e)
      go_wp2
      go_ret
      exact ⟨by rw [HX.out]; rfl, rfl⟩
theorem nid_take {N : List Nd} {n : Nd} {k : Nat} (hk : N[k]? = some n) (h : n ∉ N.take k) : nid N n = k + 1 := by
  have hm := List.mem_of_getElem? hk
  have hl := (List.getElem?_eq_some_iff.1 hk).1
  rw [nid, if_pos hm]
  have e : N = N.take k ++ N.drop k := (List.take_append_drop k N).symm
  have hd : N.drop k = n :: N.drop (k + 1) := by
    rw [List.drop_eq_getElem_cons hl, (List.getElem?_eq_some_iff.1 hk).2]
  rw [e, List.idxOf_append, if_neg h, hd]
  simp
  omega
theorem guardNode : Tryd.prog.eqGuardType Tryd.prog.depth 83 = false := by kernel_rfl
theorem eql_node (w : World) (a b c d : Int) : (binOp .eql 83 (.agg #[.int .i64 a, .int .i64 b]) (.agg #[.int .i64 c, .int .i64 d])).run Tryd.prog w = .ok (.bool (a == c && b == d)) w := by
  have hu : Tryd.prog.underlying 83 = some (.struct (Tryd.prog.fieldsOf 83)) := by simp [Program.fieldsOf, Tryd.underlying83]
  have hp : Tryd.prog.stoodInHeld 83 = false := by kernel_rfl
  rw [run_eql_struct, show (10000 : Nat) = 9998 + 1 + 1 from rfl, run_equalIn_struct w _ _ _ _ hu hp]
  simp only [Program.fieldsOf, Tryd.underlying83]
  cases h : (a == c) <;> simp [Op.eqFields, go_sem, Tryd.underlying3, h]
  by_cases e : b = d <;> simp [e]
theorem find_f {w : World} {fb tb : Nat} {S : Nat → Prop} {N : List Nd} {v : Value} (hF : RFr w fb tb S N v) (n : Nd) :
    Calls Tryd.prog 48 #[.pointer (some ⟨fb, 0, none⟩), nodeV n] w fun e w' => e = .returned (.int .i64 (nid N n : Int)) ∧ Below w.heap.size w w' := by
  obtain ⟨W1, hW1⟩ : ∃ W1, W1 = w.alloc (.cells #[.int .i64 (n.1 : Int), .int .i64 (n.2 : Int)] 83) := ⟨_, rfl⟩
  have b1 : Below w.heap.size w W1 := by rw [hW1]; exact (Below.refl _ w).alloc (Nat.le_refl _) _
  have hF1 := hF.kept (T := fun _ => False) (But.of_below b1) (fun _ _ e => e)
  have r1 : W1.heap[w.heap.size]? = some (.cells #[.int .i64 (n.1 : Int), .int .i64 (n.2 : Int)] 83 (0, 0)) := by rw [hW1]; exact heap_alloc_new w _
  have q0 : W1.cell? ⟨w.heap.size, 0, none⟩ = some (.int .i64 (n.1 : Int)) := by rw [cell_of_row W1 w.heap.size 0 _ 83 (0, 0) r1]; rfl
  have q1 : W1.cell? ⟨w.heap.size, 1, none⟩ = some (.int .i64 (n.2 : Int)) := by rw [cell_of_row W1 w.heap.size 1 _ 83 (0, 0) r1]; rfl
  have HF : Hid (RFr W1 fb tb S N v) := hF1
  have HB : Hid _ := hide b1
  have HQ : Hid _ := hide (And.intro q0 q1)
  have c1 := hF1.cell1
  obtain ⟨va, vc, rfl⟩ := own_form hF1.own
  have hNl : (N.length : Int) ≤ 262144 := by have := hF.len; omega
  unfold nodeV
  clear hF hF1 b1 r1 q0 q1
  go_enter Tryd.func48, Tryd.ntmps48
  go_wp2
  rw [← hW1]
  clear hW1
  go_loopw [5] (fun i wr => ∃ k q : Nat, k ≤ N.length ∧ i = .int .i64 k ∧ wr = W1.drewN q ∧ n ∉ N.take k) (fun i _ => N.length - (intOf i).toNat)
  case atStart => exact ⟨0, 0, Nat.zero_le _, rfl, rfl, by simp⟩
  case round =>
    obtain ⟨k, q, hk, rfl, hw, he⟩ := hrel
    have HE : Hid (n ∉ N.take k) := he
    have HW : Hid (Below w.heap.size w wr) := hide (by rw [hw]; exact below_drewN HB.out q)
    have HWq : Hid (wr = W1.drewN q) := hw
    have hFr : RFr wr fb tb S N (.slice va N.length vc) := by rw [hw]; exact HF.out.drewN q
    have q0 : wr.cell? ⟨w.heap.size, 0, none⟩ = some (.int .i64 (n.1 : Int)) := by rw [hw]; exact cell_drewN HQ.out.1 q
    have q1 : wr.cell? ⟨w.heap.size, 1, none⟩ = some (.int .i64 (n.2 : Int)) := by rw [hw]; exact cell_drewN HQ.out.2 q
    have k1 := hFr.cell1
    clear hw he c1
    by_cases hlt : k < N.length
    · obtain ⟨g, gc, hv, n0, n1⟩ := hFr.node_at (List.getElem?_eq_getElem hlt)
      cases hv
      have hkI : (k : Int) < N.length := by omega
      obtain ⟨m, hm⟩ : ∃ m, m = N[k] := ⟨_, rfl⟩
      have hmg : N[k]? = some m := by rw [hm]; exact List.getElem?_eq_getElem hlt
      rw [← hm] at n0 n1
      obtain ⟨b, hb⟩ : ∃ b, b = ((m.1 : Int) == n.1 && (m.2 : Int) == n.2) := ⟨_, rfl⟩
      have hq : ∀ W : World, (binOp .eql 83 (.agg #[.int .i64 (m.1 : Int), .int .i64 (m.2 : Int)]) (.agg #[.int .i64 (n.1 : Int), .int .i64 (n.2 : Int)])).run Tryd.prog W = .ok (.bool b) W := fun W => by rw [hb]; exact eql_node W _ _ _ _
      have hgn := guardNode
      have HX : Hid (if b = true then nid N n = k + 1 else n ∉ N.take (k + 1)) := hide (by
        cases b with
        | true =>
          have h1 := hb.symm
          simp at h1
          have e : m = n := Prod.ext (by omega) (by omega)
          subst e
          exact nid_take hmg HE.out
        | false =>
          show n ∉ N.take (k + 1)
          have ne : m ≠ n := by rintro rfl; simp at hb
          rw [List.take_add_one, hmg]
          simp only [Option.toList_some, List.mem_append, List.mem_singleton, not_or]
          exact ⟨HE.out, fun e => ne e.symm⟩)
      clear hFr hm hmg hb
      go_wp2
      go_quiet (fail)
      clear hq hgn
      go_wp2
      · go_ret
        have := HX.out
        rw [if_pos ‹_›] at this
        exact ⟨by rw [this]; simp, below_drewN HW.out nq⟩
      · have := HX.out
        rw [if_neg (by simp only [‹_ = false›]; decide)] at this
        exact ⟨⟨k + 1, q + nq, by omega, by go_num, by rw [HWq.out]; exact World.drewN_drewN _ _ _, this⟩, by simp [intOf]; omega⟩
    · have HX : Hid (nid N n = 0) := hide (nid_none (by have e := HE.out; rwa [List.take_of_length_le (by omega)] at e))
      clear hFr
      go_wp2
      go_ret
      exact ⟨by rw [HX.out]; rfl, HW.out⟩
end Go.Proofs.YtifbehkdhalfcaaDoor
