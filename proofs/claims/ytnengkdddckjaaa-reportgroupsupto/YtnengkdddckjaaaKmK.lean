/-
  The program's Group.
-/
import Derived.Test.YtnengkdddckjaaaKmJ
namespace Go.Proofs.Ytnengkdddckjaaa
open Go.RowKit Go.Maps
set_option linter.unusedVariables false
/-- What Group answers. -/
def GpR (es : List E6.Ev) (n : Nat) (rs : List (Int × Int)) (w : World) (e : Ending) (w' : World) : Prop :=
  (rs.all (vdB n) = true ∧ ∃ fv cv, e = .returned (.tuple #[fv, cv, .int .i64 0]) ∧ Own sR 33 w' w.heap.size fv (grp es rs).1 ∧ Own sI 3 w' w.heap.size cv (grp es rs).2 ∧ (∀ q, fv.ownBlock = some q → cv.ownBlock ≠ some q) ∧ Below w.heap.size w w') ∨
  (rs.all (vdB n) = false ∧ e = .returned (.tuple #[.slice none 0 0, .slice none 0 0, .int .i64 180]) ∧ Below w.heap.size w w')
set_option maxRecDepth 8000 in
set_option maxHeartbeats 4000000 in
theorem group_any (es : List E6.Ev) (a : Option Addr) (n c : Nat) (ra : Option Addr) (m rc : Nat) (rs : List (Int × Int)) (M : Nat) (w : World) (h : E6.ERow w a n es) (hr : TRow sR w ra m rs) (hn : n ≤ 1048576) (hm : m ≤ 1048576) (hM : M ≤ 2097152)
    (hok : ∀ f ∈ es, f.ok) (hMs : ∀ f ∈ es, f.ls.length + 1 ≤ M) :
    Calls Try.prog 5 #[.slice a n c, .slice ra m rc] w (GpR es n rs w) := by
  have HN := hide hn
  have HR := hide hr
  have hrl : rs.length = m := hr.len
  have hmI : (m : Int) ≤ 1048576 := by omega
  have HG : Hid (∀ X : World, Below w.heap.size w X → rs.all (vdB n) = true → Calls Try.prog 11 #[.slice a n c, .slice ra m rc] X (GdR (grp es rs) X)) := hide (fun X hX hv =>
    grouped_any es a n c ra m rc rs M X (h.bel hX) (hr.below hX) hn hm hM hok hMs (fun r h9 => by
      have := List.all_eq_true.1 hv r h9
      unfold vdB at this
      exact of_decide_eq_true this))
  clear h hr hn hm hM hok hMs
  go_enter Try.func5, Try.ntmps5
  go_wp2
  go_loopw [13] (fun iv wr => ∃ i : Nat, i ≤ m ∧ iv = .int .i64 i ∧ Hid ((rs.take i).all (vdB n) = true) ∧ Hid (Below w.heap.size w wr)) (fun iv _ => m - (intOf iv).toNat)
  case atStart => exact ⟨0, Nat.zero_le _, rfl, hide rfl, hide (Below.refl _ _)⟩
  case round =>
    obtain ⟨i, hi, rfl, HA, HB⟩ := hrel
    by_cases hlt : i < m
    · have hiI : (i : Int) < (m : Int) := by omega
      have hi0 : (0 : Int) ≤ (i : Int) := by omega
      obtain ⟨x, hx⟩ : ∃ x, rs[i]? = some x := ⟨_, List.getElem?_eq_getElem (by omega)⟩
      obtain ⟨rb, off, hra, _, hc⟩ := (HR.out.below HB.out).at (by omega)
      have d0 : wr.cell? ⟨rb, off + i * 2, none⟩ = some (.int .i64 x.1) := by have := hc i x hx 0 _ rfl; exact this
      have d1 : wr.cell? ⟨rb, off + i * 2 + 1, none⟩ = some (.int .i64 x.2) := by have := hc i x hx 1 _ rfl; exact this
      obtain ⟨W, hW⟩ : ∃ W, W = wr.alloc (.cells #[.int .i64 x.1, .int .i64 x.2] 33) := ⟨_, rfl⟩
      have hbW : Below wr.heap.size wr W := by rw [hW]; exact below_alloc1 _ _
      have cr : W.heap[wr.heap.size]? = some (.cells #[.int .i64 x.1, .int .i64 x.2] 33 (0, 0)) := by rw [hW]; exact heap_new _ _
      have cr0 := cell_at cr (i := 0) rfl
      have cr1 := cell_at cr (i := 1) rfl
      rw [hW] at cr0 cr1
      have HW := hide hW
      have HC := hide (stands_any a n c x.1 x.2 W HN.out)
      have HBW := hide (Below.on HB.out hbW)
      have HX : Hid ((rs.take (i + 1)).all (vdB n) = vdB n x) := hide (by
        obtain ⟨h1, h2⟩ := List.getElem?_eq_some_iff.1 hx
        rw [← List.take_append_getElem h1, h2, List.all_append, HA.out]
        simp)
      have HX2 : Hid (vdB n x = false → rs.all (vdB n) = false) := hide (fun h9 => by
        rw [List.all_eq_false]
        exact ⟨x, List.mem_of_getElem? hx, by rw [h9]; decide⟩)
      clear hW hbW cr hc hx
      subst hra
      have HLt := hide hlt
      go_wp2_with fail
      rw [← HW.out]
      refine HC.out.mono ?_
      rintro e9 X1 ⟨rfl, hb1⟩
      have HB1 := hide (Below.on HBW.out hb1)
      clear hb1 HC
      cases hvd : vdB n (x.1, x.2) with
      | true =>
        have HX3 : Hid ((rs.take (i + 1)).all (vdB n) = true) := hide (by rw [HX.out]; exact hvd)
        clear hvd
        go_wp2
        have hlt := HLt.out
        exact ⟨⟨i + 1, by omega, by go_num, HX3, HB1⟩, by simp [intOf]; omega⟩
      | false =>
        have HX3 : Hid (rs.all (vdB n) = false) := hide (HX2.out hvd)
        clear hvd
        go_wp2
        go_ret3
        exact .inr ⟨HX3.out, rfl, HB1.out⟩
    · have hi9 : i = m := by omega
      have hiI : ¬ (i : Int) < (m : Int) := by omega
      have hall : rs.all (vdB n) = true := by
        have := HA.out
        rwa [hi9, ← hrl, List.take_length] at this
      have HC := hide (HG.out wr HB.out hall)
      have HAll := hide hall
      clear hlt hi hall
      go_wp2_with fail
      refine HC.out.mono ?_
      rintro e9 X1 ⟨fv, cv, rfl, h1, h2, h3, h4⟩
      have HF := hide (And.intro h1 (And.intro h2 (And.intro h3 h4)))
      clear h1 h2 h3 h4 HC
      go_wp2
      go_ret3
      exact .inl ⟨HAll.out, fv, cv, rfl, HF.out.1.mono HB.out.size, HF.out.2.1.mono HB.out.size, HF.out.2.2.1, HB.out.trans (HF.out.2.2.2.mono HB.out.size)⟩
end Go.Proofs.Ytnengkdddckjaaa
