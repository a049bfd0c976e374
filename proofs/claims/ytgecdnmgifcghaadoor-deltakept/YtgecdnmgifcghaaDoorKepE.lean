/-
  DeltaKept: lists whose state is stored anew.
-/
import Derived.Test.YtgecdnmgifcghaaDoorKepD
namespace Go.Proofs.YtgecdnmgifcghaaDoor
open Go.RowKit
theorem cell_newK (w : World) (z : Value) (T : TypeId) : (w.alloc (.cells #[z] T)).cell? ⟨w.heap.size, 0, none⟩ = some z := by
  rw [cell_of_row _ w.heap.size 0 #[z] T (0, 0) (heap_new _ _)]; rfl
theorem Lists.set3 {w : World} {base b : Nat} {v : Value} {bs : List (List Int)} {vals : List Value} {ds : Array Value} {T : TypeId} {fr : Nat × Nat} (h : Lists w base v bs vals) (hb : w.heap[b]? = some (.cells ds T fr)) (h5 : (5 : Nat) ≠ T) (hB : 27 ≠ T) (x y z : Value) : Lists (((w.setCell ⟨b, 0, none⟩ x).setCell ⟨b, 1, none⟩ y).setCell ⟨b, 2, none⟩ z) base v bs vals := by
  refine h.but (S := fun k => k = b) ((((But.refl (fun k => k = b) w).setCell ⟨b, 0, none⟩ (fun _ => rfl) x).setCell ⟨b, 1, none⟩ (fun _ => rfl) y).setCell ⟨b, 2, none⟩ (fun _ => rfl) z) (fun g hg e => ?_) (fun u hu g hg e => ?_)
  · subst e; exact own_ne_cells h.own hb hB hg
  · subst e
    obtain ⟨b', _, a', c', rfl, ho⟩ := h.row hu
    exact own_ne_cells ho hb h5 hg
/-- Put of the first record of all. -/
theorem put_one (w : World) (hK : Kn w) (hw : 0 < w.heap.size) :
    Calls Tryd.prog 9 #[.agg #[.int .i64 0, .int .u64 0, .int .i64 0], .agg #[.int .i64 0, .int .i64 1, .int .u64 7, .int .u64 0, .int .i64 0]] w fun e w' =>
      ∃ g c, e = .returned (.tuple #[.slice (some ⟨g, 0, none⟩) 3 c, .agg #[.int .i64 1, .int .u64 7, .int .i64 0], .int .i64 0]) ∧ Below w.heap.size w w' := by
  refine (put_n 0 0 0 0 1 7 0 0 w hK hw (putE_of (by decide)) ⟨by decide, by decide, by decide, by decide⟩).mono ?_
  rintro e w' ⟨g, c, rfl, _, _, hb⟩
  rw [text_one]
  exact ⟨g, c, rfl, hb⟩
/-- What apart asks of lists that share nothing. -/
theorem apart_lists {w : World} {base : Nat} {a : Option Addr} {c : Nat} {bs : List (List Int)} {vals : List Value} (h : Lists w base (.slice a bs.length c) bs vals) (hm : bs.length ≤ 4000000) (hn : ∀ b ∈ bs, b.length ≤ 27) (hbase : base ≤ w.heap.size) :
    Calls Tryd.prog 16 #[.slice a bs.length c] w fun e w' => e = .returned (.bool true) ∧ Below base w w' := by
  rcases h.own.2 with ⟨e, _⟩ | ⟨A, cap, cur, e, hh⟩
  · injection e with e1 e2 e3
    rw [e1, e2, e3]
    exact (apart_none w).mono (fun e w' hb => ⟨hb.1, hb.2.mono hbase⟩)
  · have hM := h
    injection e with e1 e2 e3
    rw [e1] at hM ⊢
    refine (apart_walk base A c bs.length _ _ _ w hM.many hm (fun i => ?_) hbase).mono ?_
    · show (bs.getD i []).length ≤ 10000000
      rw [List.getD_eq_getElem?_getD]
      cases hb : bs[i]? with
      | none => simp
      | some b => have := hn b (List.mem_of_getElem? hb); simp; omega
    · rintro e w' ⟨rfl, hA⟩
      refine ⟨rfl, ⟨hA.os, hA.tape, hA.output, hA.size, fun k hk => hA.block k (by omega) ?_⟩⟩
      rintro ⟨i, hi, hv⟩
      have := (hM.many.own i hi).lt k hv
      omega
end Go.Proofs.YtgecdnmgifcghaaDoor
