/-
  Emit.
-/
import Derived.Test.YtkjmmcpjdjjmlaaDoorRgF
namespace Go.Proofs.YtkjmmcpjdjjmlaaDoor
open Go.RowKit Go.Maps Go.Shelf
theorem stkB_of {g k o a : Int} {ls : List ByteArray} (h : chk g k o a ls = 0) : ls.length ≤ 16 ∧ ∀ s ∈ ls, s.size ≤ 65536 := by
  unfold chk at h
  split at h <;> (try omega)
  split at h <;> (try omega)
  split at h <;> (try omega)
  split at h <;> (try omega)
  split at h <;> (try omega)
  rename_i h9
  unfold stkB at h9
  simp at h9
  exact h9
/-- What is taken of an event. -/
def tk (x : Ab) : List Ab := if chk x.g x.k x.o x.a x.ls = 0 then [x] else []
/-- The row of a ring has taken an event more. -/
theorem Rg.emit {w w' : World} {rb b size : Nat} {es : List Ev} {T : List Ab} (h : Rg w rb b size es T) {e : Ev}
    (hb : But (Mine rb b) w w') (hblk : w'.heap[rb]? = some (.cells #[.slice (some ⟨b, 0, .none⟩) size size, .int .i64 ((T.length : Int) + 1)] 39 (0, 0)))
    (hrow : Own layE 32 w' 0 (.slice (some ⟨b, 0, .none⟩) size size) (es.set (T.length % size) e)) (hst : Stk w' e) (ht : (T.length : Int) + 1 ≤ 4000000000000) : Rg w' rb b size (es.set (T.length % size) e) (T ++ [e.ab]) := by
  have hm : T.length % size < size := Nat.mod_lt _ h.pos
  refine ⟨by rw [hblk]; simp, ⟨hrow, fun e' he' => ?_⟩, by rw [List.length_set]; exact h.len, h.pos, h.big, by simp; exact ht, fun j x hx hj => ?_⟩
  · rcases List.mem_or_eq_of_mem_set he' with h1 | h1
    · exact (h.row.stk e' h1).but hb h.noStr
    · rw [h1]; exact hst
  · simp at hj
    by_cases hjT : j < T.length
    · rw [List.getElem?_append_left hjT] at hx
      obtain ⟨e0, h1, h2⟩ := h.at_ j x hx (by omega)
      refine ⟨e0, ?_, h2⟩
      have hne : T.length % size ≠ j % size := by
        intro e9
        have a1 := Nat.div_add_mod T.length size
        have a2 := Nat.div_add_mod j size
        rw [e9] at a1
        have a3 : size * (T.length / size) = size * (j / size) + (T.length - j) := by omega
        have a4 : j / size ≤ T.length / size := Nat.div_le_div_right (by omega)
        obtain ⟨d, hd⟩ : ∃ d, T.length / size = j / size + d := ⟨_, (Nat.add_sub_cancel' a4).symm⟩
        rw [hd, Nat.mul_add] at a3
        cases d with
        | zero => omega
        | succ d => rw [Nat.mul_succ] at a3; omega
      rw [List.getElem?_set_ne hne]; exact h1
    · have hlt := get_lt hx
      simp at hlt
      have e9 : j = T.length := by omega
      subst e9
      rw [List.getElem?_append_right (Nat.le_refl _), Nat.sub_self] at hx
      simp at hx
      exact ⟨e, by rw [List.getElem?_set_self (by rw [h.len]; exact hm)], hx⟩
theorem but5 (W : World) (b j : Nat) (v0 v1 v2 v3 v4 : Value) : But (fun k => k = b) W (((((W.setCell ⟨b, j, .none⟩ v0).setCell ⟨b, j + 1, .none⟩ v1).setCell ⟨b, j + 2, .none⟩ v2).setCell ⟨b, j + 3, .none⟩ v3).setCell ⟨b, j + 4, .none⟩ v4) :=
  But.setC (j := j) [v0, v1, v2, v3, v4] (But.refl (fun k => k = b) W) (fun _ => rfl)
theorem own5 {W : World} {base b n c j : Nat} {es : List Ev} (h : Own layE 32 W base (.slice (some ⟨b, 0, .none⟩) n c) es) (hl : es.length = n) (hj : j < n) (e : Ev) :
    Own layE 32 (((((W.setCell ⟨b, j * 5, .none⟩ (.int .i64 e.g)).setCell ⟨b, j * 5 + 1, .none⟩ (.int .i64 e.k)).setCell ⟨b, j * 5 + 2, .none⟩ (.int .u64 e.o)).setCell ⟨b, j * 5 + 3, .none⟩ (.int .u64 e.a)).setCell ⟨b, j * 5 + 4, .none⟩ (.slice e.sa e.ls.length e.sc)) base (.slice (some ⟨b, 0, .none⟩) n c) (es.set j e) :=
  Own.set h hl (by rw [hl]; exact hj) e
set_option maxRecDepth 8000 in
set_option maxHeartbeats 2000000 in
theorem emit_any {w : World} {rb b size : Nat} {es : List Ev} {T : List Ab} (h : Rg w rb b size es T) (hK : Kr w) (g k o a : Int) (sa : Option Addr) (sn sc : Nat) (ls : List ByteArray) (hs : SRow w sa sn ls) (hn : (sn : Int) ≤ 9223372036854775806) (ht : (T.length : Int) + 1 ≤ 4000000000000) :
    Calls Tryd.prog 6 #[.pointer (some ⟨rb, 0, .none⟩), .agg #[.int .i64 g, .int .i64 k, .int .u64 o, .int .u64 a, .slice sa sn sc]] w fun e w' => e = .returned (.int .i64 (chk g k o a ls)) ∧ But (Mine rb b) w w' ∧ ∃ es', Rg w' rb b size es' (T ++ tk ⟨g, k, o, a, ls⟩) := by
  obtain rfl := hs.len
  obtain ⟨W1, hW1⟩ : ∃ W1, W1 = w.alloc (.cells #[.int .i64 g, .int .i64 k, .int .u64 o, .int .u64 a, .slice sa ls.length sc] 32) := ⟨_, rfl⟩
  have hb1 : Below w.heap.size w W1 := by rw [hW1]; exact below_new w _
  have he1 : EvB W1 w.heap.size g k o a sa ls.length sc := by rw [hW1]; exact EvB.new
  have h1 := h.below hb1
  have hK1 := hK.below hb1 (by have := hK.size; omega)
  have hs1 := hs.bel hb1
  have HM := hide (missing_any h1)
  have HC := hide (check_any g k o a sa ls.length sc ls W1 hK1 hs1 hn)
  have HH := hide h1
  have HB1 := hide hb1
  have HE1 := hide he1
  have HS1 := hide hs1
  have q0 := he1.c0
  have q1 := he1.c1
  have q2 := he1.c2
  have q3 := he1.c3
  have q4 := he1.c4
  have HW := hide hW1
  have HT := hide ht
  have HH0 := hide h
  have HL := hide hs.len
  clear h hK hb1 he1 h1 hK1 hs1 hs ht
  go_enter Tryd.func6, Tryd.ntmps6
  go_wp2_with fail
  rw [← hW1]
  refine HM.out.mono ?_
  rintro e w1 ⟨rfl, hw1⟩
  rw [hw1]
  clear hw1 w1 HM hW1
  go_wp2_with fail
  refine HC.out.mono ?_
  rintro e w2 ⟨rfl, hb2⟩
  have HB2 := hide hb2
  clear hb2 HC q0 q1 q2 q3 q4
  obtain ⟨r, hr⟩ : ∃ r, r = chk g k o a ls := ⟨_, rfl⟩
  rw [← hr]
  have HR := hide hr
  clear hr
  by_cases hr0 : r = 0
  · subst hr0
    have h16 := stkB_of HR.out.symm
    have hE2 := HE1.out.below HB2.out
    have hs2 := HS1.out.bel HB2.out
    have H16 := hide h16
    have HF := hide (frames_any sa ls.length sc ls w2 hs2 (by have := h16.1; have := HL.out; omega) h16.2)
    have q4 := hE2.c4
    have HE2 := hide hE2
    clear h16 hE2 hs2
    go_wp2_with fail
    refine HF.out.mono ?_
    rintro e w3 ⟨rfl, ho3, hb3⟩
    have r3 : EvB w3 w.heap.size g k o a sa ls.length sc := HE2.out.below hb3
    have q4 := r3.c4
    have f4 : w3.frozen? ⟨w.heap.size, 4, .none⟩ = false := frz r3 4
    obtain ⟨W4, hW4⟩ : ∃ W4, W4 = w3.setCell ⟨w.heap.size, 4, .none⟩ (.slice (some ⟨w2.heap.size, 0, .none⟩) ls.length ls.length) := ⟨_, rfl⟩
    have hsz : w.heap.size < w2.heap.size := HE2.out.lt
    have hk4 : But (fun k => k = w.heap.size) w3 W4 := by rw [hW4]; exact (But.refl (fun k => k = w.heap.size) w3).setCell ⟨w.heap.size, 4, .none⟩ (fun _ => rfl) _
    have he4 : EvB W4 w.heap.size g k o a (some ⟨w2.heap.size, 0, .none⟩) ls.length ls.length := by rw [hW4]; exact heap_setCell_same w3 w.heap.size 4 _ 32 _ r3
    have ho4 : Own layB 9 W4 w2.heap.size (.slice (some ⟨w2.heap.size, 0, .none⟩) ls.length ls.length) ls := ho3.but hk4 (fun q hq e9 => by
      have e8 : q = w.heap.size := e9
      have := (ho3.lt q hq).1
      omega)
    have hbW : Below w.heap.size w W4 := (Below.on (Below.on HB1.out HB2.out) hb3).trans (hk4.below (by have := hb3.size; omega) (fun k e9 => by have e8 : k = w.heap.size := e9; omega))
    have hR4 := HH0.out.below hbW
    have HP := hide (place_any (hR4.below (Below.refl _ _).drew) T.length (by have := hR4.top; omega))
    have HE4 := hide he4
    have HO4 := hide ho4
    have HBW := hide hbW
    have HR4 := hide hR4
    have HSZ := hide hsz
    go_wp2_with fail
    rw [← hW4]
    clear HF HE2 r3 q4 f4 hk4 he4 ho4 hbW hR4 hW4 ho3 hb3 hsz
    have p0 := HE4.out.c0
    have p1 := HE4.out.c1
    have p2 := HE4.out.c2
    have p3 := HE4.out.c3
    have p4 := HE4.out.c4
    have r0 := HR4.out.c0
    have r1 := HR4.out.c1
    obtain ⟨m, hm⟩ : ∃ m, m = T.length % size := ⟨_, rfl⟩
    rw [← hm] at HP
    have hml : m < size := by rw [hm]; exact Nat.mod_lt _ HR4.out.pos
    have hmI : (m : Int) < size := by omega
    have HMm := hide hm
    have HML := hide hml
    obtain ⟨e0, he0⟩ : ∃ e0, es[m]? = some e0 := ⟨_, List.getElem?_eq_getElem (by rw [HR4.out.len]; exact hml)⟩
    have OW := HR4.out.row.own
    have x0 := OW.cell he0 0 rfl
    have x1 := OW.cell he0 1 rfl
    have x2 := OW.cell he0 2 rfl
    have x3 := OW.cell he0 3 rfl
    have x4 := OW.cell he0 4 rfl
    simp only [layE, Nat.add_zero] at x0 x1 x2 x3 x4
    have z0 := OW.frozen (m * 5)
    have z1 := OW.frozen (m * 5 + 1)
    have z2 := OW.frozen (m * 5 + 2)
    have z3 := OW.frozen (m * 5 + 3)
    have z4 := OW.frozen (m * 5 + 4)
    have hne1 : ¬ rb = b := HR4.out.ne
    have hne2 : ¬ w.heap.size = b := fun e9 => by have := HH0.out.blt; omega
    have HSK : Hid (∀ X, But (fun k => k = b) W4 X → X.cell? ⟨w.heap.size, 0, .none⟩ = some (.int .i64 g) ∧ X.cell? ⟨w.heap.size, 1, .none⟩ = some (.int .i64 k) ∧ X.cell? ⟨w.heap.size, 2, .none⟩ = some (.int .u64 o) ∧ X.cell? ⟨w.heap.size, 3, .none⟩ = some (.int .u64 a) ∧ X.cell? ⟨w.heap.size, 4, .none⟩ = some (.slice (some ⟨w2.heap.size, 0, .none⟩) ls.length ls.length) ∧ X.cell? ⟨rb, 0, .none⟩ = some (.slice (some ⟨b, 0, .none⟩) size size) ∧ X.cell? ⟨rb, 1, .none⟩ = some (.int .i64 (T.length : Int))) :=
      hide (fun X hX => ⟨cell_but p0 hX hne2, cell_but p1 hX hne2, cell_but p2 hX hne2, cell_but p3 hX hne2, cell_but p4 hX hne2, cell_but r0 hX hne1, cell_but r1 hX hne1⟩)
    have HE0 := hide he0
    have HK5 : Hid (But (fun k => k = b) W4 (((((W4.setCell ⟨b, m * 5, .none⟩ (.int .i64 g)).setCell ⟨b, m * 5 + 1, .none⟩ (.int .i64 k)).setCell ⟨b, m * 5 + 2, .none⟩ (.int .u64 o)).setCell ⟨b, m * 5 + 3, .none⟩ (.int .u64 a)).setCell ⟨b, m * 5 + 4, .none⟩ (.slice (some ⟨w2.heap.size, 0, .none⟩) ls.length ls.length)).drew) := hide (But.drew (but5 W4 b (m * 5) _ _ _ _ _))
    have HNE := hide (And.intro hne1 hne2)
    clear hm OW hml he0
    go_region_held3 (fun X => X.cell? ⟨w.heap.size, 0, .none⟩ = some (.int .i64 g) ∧ X.cell? ⟨w.heap.size, 1, .none⟩ = some (.int .i64 k) ∧ X.cell? ⟨w.heap.size, 2, .none⟩ = some (.int .u64 o) ∧ X.cell? ⟨w.heap.size, 3, .none⟩ = some (.int .u64 a) ∧ X.cell? ⟨w.heap.size, 4, .none⟩ = some (.slice (some ⟨w2.heap.size, 0, .none⟩) ls.length ls.length) ∧ X.cell? ⟨rb, 0, .none⟩ = some (.slice (some ⟨b, 0, .none⟩) size size) ∧ X.cell? ⟨rb, 1, .none⟩ = some (.int .i64 (T.length : Int)))
      (first | with_reducible exact HSK.out _ (But.refl _ _) | with_reducible exact HSK.out _ (But.refl _ _).drew | with_reducible exact HSK.out _ HK5.out)
      (first | (go_at_call 15; go_must (refine HP.out.mono ?_; rintro e w5 ⟨rfl, hw5⟩; rw [hw5]; clear hw5 w5)))
    obtain ⟨W5, hW5⟩ : ∃ W5, W5 = (((((W4.setCell ⟨b, m * 5, .none⟩ (.int .i64 g)).setCell ⟨b, m * 5 + 1, .none⟩ (.int .i64 k)).setCell ⟨b, m * 5 + 2, .none⟩ (.int .u64 o)).setCell ⟨b, m * 5 + 3, .none⟩ (.int .u64 a)).setCell ⟨b, m * 5 + 4, .none⟩ (.slice (some ⟨w2.heap.size, 0, .none⟩) ls.length ls.length)).drew := ⟨_, rfl⟩
    have hK5 : But (fun k => k = b) W4 W5 := by rw [hW5]; exact HK5.out
    have hO5 : Own layE 32 W5 0 (.slice (some ⟨b, 0, .none⟩) size size) (es.set m ⟨g, k, o, a, some ⟨w2.heap.size, 0, .none⟩, ls.length, ls⟩) := by
      rw [hW5]
      exact (own5 HR4.out.row.own HR4.out.len HML.out ⟨g, k, o, a, some ⟨w2.heap.size, 0, .none⟩, ls.length, ls⟩).below (Below.refl _ _).drew
    rw [← hW5]
    have hblk : W5.heap[rb]? = some (.cells #[.slice (some ⟨b, 0, .none⟩) size size, .int .i64 (T.length : Int)] 39 (0, 0)) := (hK5.block rb HR4.out.lt HNE.out.1).trans HR4.out.blk
    have c1 : W5.cell? ⟨rb, 1, .none⟩ = some (.int .i64 (T.length : Int)) := cell_at hblk rfl
    have f1 : W5.frozen? ⟨rb, 1, .none⟩ = false := frz hblk 1
    have hnx : ((T.length : Int) + 1) ≤ 4000000000000 := HT.out
    have HK := hide hK5
    have HO5 := hide hO5
    have HBl := hide hblk
    have HS4 : Hid (Stk W4 ⟨g, k, o, a, some ⟨w2.heap.size, 0, .none⟩, ls.length, ls⟩) := hide ⟨HO4.out.mono (Nat.zero_le _), H16.out.1⟩
    clear hW5 hK5 hO5 hblk p0 p1 p2 p3 p4 r0 r1 x0 x1 x2 x3 x4 z0 z1 z2 z3 z4 HK5 HSK HP
    go_wp2
    go_ret
    have hK6 : But (Mine rb b) W5 (W5.setCell ⟨rb, 1, .none⟩ (.int .i64 ((T.length : Int) + 1))) := (But.refl (Mine rb b) W5).setCell ⟨rb, 1, .none⟩ (fun _ => .inl rfl) _
    have hK45 : But (Mine rb b) W4 W5 := HK.out.mono (fun k e9 => .inr e9)
    have hK46 := hK45.trans hK6 (fun _ _ e9 => e9)
    have hK06 : But (Mine rb b) w _ := (But.of_below (S := Mine rb b) HBW.out).trans hK46 (fun _ _ e9 => e9)
    have hns5 : NoStr W4 (Mine rb b) := HR4.out.noStr
    have e9 : tk ⟨g, k, o, a, ls⟩ = [(⟨g, k, o, a, some ⟨w2.heap.size, 0, .none⟩, ls.length, ls⟩ : Ev).ab] := by unfold tk; rw [if_pos HR.out.symm]; rfl
    refine ⟨by rw [← HR.out]; rfl, hK06, es.set m ⟨g, k, o, a, some ⟨w2.heap.size, 0, .none⟩, ls.length, ls⟩, ?_⟩
    rw [e9]
    have hfin := HH0.out.emit (e := ⟨g, k, o, a, some ⟨w2.heap.size, 0, .none⟩, ls.length, ls⟩) hK06 (set1_heap _ HBl.out) (by
      rw [← HMm.out]
      refine HO5.out.but ((But.refl (fun k => k = rb) W5).setCell ⟨rb, 1, .none⟩ (fun _ => rfl) _) (fun q hq e8 => ?_)
      have e7 : q = rb := e8
      rw [e7] at hq
      exact own_ne_cells HO5.out HBl.out (by decide) hq) (HS4.out.but hK46 hns5) HT.out
    rw [← HMm.out] at hfin
    exact hfin
  · have hd : (r != 0) = true := by simpa using hr0
    go_wp2
    go_ret
    have e9 : tk ⟨g, k, o, a, ls⟩ = [] := by unfold tk; rw [if_neg (by dsimp only; rw [← HR.out]; exact hr0)]
    rw [e9, List.append_nil]
    exact ⟨by rw [← HR.out]; rfl, But.of_below (Below.on HB1.out HB2.out), es, HH.out.below HB2.out⟩
end Go.Proofs.YtkjmmcpjdjjmlaaDoor
