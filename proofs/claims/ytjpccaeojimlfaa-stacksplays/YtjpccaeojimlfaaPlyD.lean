/-
  The beginning of a play; the tables' strings.
-/
import Derived.Test.YtjpccaeojimlfaaPlyC
namespace Go.Proofs.Ytjpccaeojimlfaa
open Go.RowKit Go.Maps Go.Shelf
attribute [local go_sem] Oper.semAt_some
theorem begun5 {w w3 w4 : World} (hF0 : ∃ v mb, Frs w3 (w.heap.size + 2 + 1) w.heap.size (fun k => w.heap.size + 2 ≤ k ∧ k < w3.heap.size) [] v mb) (hb3 : Below (w.heap.size + 2) ((w.alloc (.cells #[.slice none 0 0, .map none, .int .i64 0] 60)).alloc (.cells #[.slice none 0 0, .int .i64 0] 115)) w3)
    (hF1 : ∃ v mb, Frs w4 (w3.heap.size + 1) w.heap.size (fun k => w3.heap.size ≤ k ∧ k < w4.heap.size) [] v mb) (hb4 : Below w3.heap.size w3 w4) :
    Ply w ((((((w4.alloc (.cells #[.pointer (some ⟨w.heap.size + 2 + 1, 0, none⟩), .pointer (some ⟨w3.heap.size + 1, 0, none⟩), .pointer none] 26)).alloc (.cells #[.pointer (some ⟨w.heap.size + 1, 0, none⟩), .slice none 0 0] 118)).alloc (.cells #[.pointer (some ⟨w.heap.size + 1, 0, none⟩), .slice none 0 0] 118)).alloc
      (.cells #[.pointer (some ⟨w4.heap.size + 1, 0, none⟩), .pointer (some ⟨w4.heap.size + 2, 0, none⟩), .pointer none] 90)).alloc (.cells #[.pointer (some ⟨w.heap.size, 0, none⟩), .pointer (some ⟨w.heap.size + 1, 0, none⟩), .slice (some ⟨w4.heap.size, 0, none⟩) 3 3, .slice (some ⟨w4.heap.size + 3, 0, none⟩) 3 3] 89)))
      (w4.heap.size + 4) w.heap.size (w.heap.size + 1) w4.heap.size (w4.heap.size + 3) (fun i => if i = 0 then w.heap.size + 2 + 1 else w3.heap.size + 1) (fun i => if i = 0 then w4.heap.size + 1 else w4.heap.size + 2)
      (fun i k => (i = 0 ∧ (k = w4.heap.size + 4 ∨ k = w4.heap.size ∨ k = w4.heap.size + 3)) ∨ (i = 1 ∧ k = w.heap.size) ∨ (i = 4 ∧ k = w.heap.size + 1) ∨ (i = 2 ∧ w.heap.size + 2 ≤ k ∧ k < w3.heap.size) ∨ (i = 3 ∧ w3.heap.size ≤ k ∧ k < w4.heap.size) ∨ (i = 5 ∧ k = w4.heap.size + 1) ∨ (i = 6 ∧ k = w4.heap.size + 2))
      [] [] (fun _ => []) (fun _ => []) (fun _ => []) := by
  obtain ⟨Wa, hWa⟩ : ∃ Wa, Wa = w.alloc (.cells #[.slice none 0 0, .map none, .int .i64 0] 60) := ⟨_, rfl⟩
  obtain ⟨Wb, hWb⟩ : ∃ Wb, Wb = Wa.alloc (.cells #[.slice none 0 0, .int .i64 0] 115) := ⟨_, rfl⟩
  obtain ⟨W5, hW5⟩ : ∃ W5, W5 = w4.alloc (.cells #[.pointer (some ⟨w.heap.size + 2 + 1, 0, none⟩), .pointer (some ⟨w3.heap.size + 1, 0, none⟩), .pointer none] 26) := ⟨_, rfl⟩
  obtain ⟨W6, hW6⟩ : ∃ W6, W6 = W5.alloc (.cells #[.pointer (some ⟨w.heap.size + 1, 0, none⟩), .slice none 0 0] 118) := ⟨_, rfl⟩
  obtain ⟨W7, hW7⟩ : ∃ W7, W7 = W6.alloc (.cells #[.pointer (some ⟨w.heap.size + 1, 0, none⟩), .slice none 0 0] 118) := ⟨_, rfl⟩
  obtain ⟨W8, hW8⟩ : ∃ W8, W8 = W7.alloc (.cells #[.pointer (some ⟨w4.heap.size + 1, 0, none⟩), .pointer (some ⟨w4.heap.size + 2, 0, none⟩), .pointer none] 90) := ⟨_, rfl⟩
  obtain ⟨W9, hW9⟩ : ∃ W9, W9 = W8.alloc (.cells #[.pointer (some ⟨w.heap.size, 0, none⟩), .pointer (some ⟨w.heap.size + 1, 0, none⟩), .slice (some ⟨w4.heap.size, 0, none⟩) 3 3, .slice (some ⟨w4.heap.size + 3, 0, none⟩) 3 3] 89) := ⟨_, rfl⟩
  rw [← hWa, ← hWb] at hb3
  rw [← hW5, ← hW6, ← hW7, ← hW8, ← hW9]
  have sa : Wa.heap.size = w.heap.size + 1 := by rw [hWa]; simp
  have sb : Wb.heap.size = w.heap.size + 2 := by rw [hWb]; simp [sa]
  have s5 : W5.heap.size = w4.heap.size + 1 := by rw [hW5]; simp
  have s6 : W6.heap.size = w4.heap.size + 2 := by rw [hW6]; simp [s5]
  have s7 : W7.heap.size = w4.heap.size + 3 := by rw [hW7]; simp [s6]
  have s8 : W8.heap.size = w4.heap.size + 4 := by rw [hW8]; simp [s7]
  have s9 : W9.heap.size = w4.heap.size + 5 := by rw [hW9]; simp [s8]
  have hs3 := hb3.size
  have hs4 := hb4.size
  have bA : Below w.heap.size w Wa := by rw [hWa]; exact (Below.refl _ w).alloc (Nat.le_refl _) _
  have bB : Below w.heap.size w Wb := by rw [hWb]; exact bA.alloc (by omega) _
  have bAB : Below Wa.heap.size Wa Wb := by rw [hWb]; exact (Below.refl _ Wa).alloc (Nat.le_refl _) _
  have b3 : Below Wb.heap.size Wb w3 := by rw [sb]; exact hb3
  have b45 : Below w4.heap.size w4 W5 := by rw [hW5]; exact (Below.refl _ w4).alloc (Nat.le_refl _) _
  have b56 : Below W5.heap.size W5 W6 := by rw [hW6]; exact (Below.refl _ W5).alloc (Nat.le_refl _) _
  have b67 : Below W6.heap.size W6 W7 := by rw [hW7]; exact (Below.refl _ W6).alloc (Nat.le_refl _) _
  have b78 : Below W7.heap.size W7 W8 := by rw [hW8]; exact (Below.refl _ W7).alloc (Nat.le_refl _) _
  have b89 : Below W8.heap.size W8 W9 := by rw [hW9]; exact (Below.refl _ W8).alloc (Nat.le_refl _) _
  have b79 : Below W7.heap.size W7 W9 := b78.trans (b89.mono (by omega))
  have b69 : Below W6.heap.size W6 W9 := b67.trans (b79.mono (by omega))
  have b59 : Below W5.heap.size W5 W9 := b56.trans (b69.mono (by omega))
  have b49 : Below w4.heap.size w4 W9 := b45.trans (b59.mono (by omega))
  have b39 : Below w3.heap.size w3 W9 := hb4.trans (b49.mono (by omega))
  have bB9 : Below Wb.heap.size Wb W9 := b3.trans (b39.mono (by omega))
  have bA9 : Below Wa.heap.size Wa W9 := bAB.trans (bB9.mono (by omega))
  have b9 : Below w.heap.size w W9 := bA.trans (bA9.mono (by omega))
  have low : ∀ {X : World}, Below X.heap.size X W9 → But (fun _ => False) X W9 := fun h => But.of_below h
  have tA := tab_new w
  rw [← hWa] at tA
  have hT := tA.kept (low bA9) (fun _ _ e => e)
  have rA : RTab Wb (w.heap.size + 1) (fun k => k = w.heap.size + 1) [] (.slice none 0 0) := by
    have e := heap_alloc_new Wa (.cells #[.slice none 0 0, .int .i64 0] 115)
    rw [← hWb, sa] at e
    exact ⟨e, World.ownsRow_nil _ _ _ _, rfl, by simp [Value.ownBlock], by simp, by simp, by simp, by simp [total]⟩
  have hR := rA.kept (low bB9) (fun _ _ e => e)
  have g0 : RFr W6 (w4.heap.size + 1) (w.heap.size + 1) (fun k => k = w4.heap.size + 1) [] (.slice none 0 0) := by
    have e := heap_alloc_new W5 (.cells #[.pointer (some ⟨w.heap.size + 1, 0, none⟩), .slice none 0 0] 118)
    rw [← hW6, s5] at e
    exact ⟨e, World.ownsRow_nil _ _ _ _, rfl, by simp [Value.ownBlock], by simp, by simp⟩
  have g1 : RFr W7 (w4.heap.size + 2) (w.heap.size + 1) (fun k => k = w4.heap.size + 2) [] (.slice none 0 0) := by
    have e := heap_alloc_new W6 (.cells #[.pointer (some ⟨w.heap.size + 1, 0, none⟩), .slice none 0 0] 118)
    rw [← hW7, s6] at e
    exact ⟨e, World.ownsRow_nil _ _ _ _, rfl, by simp [Value.ownBlock], by simp, by simp⟩
  have hG0 := g0.kept (low b69) (fun _ _ e => e)
  have hG1 := g1.kept (low b79) (fun _ _ e => e)
  obtain ⟨v0, m0, f0⟩ := hF0
  obtain ⟨v1, m1, f1⟩ := hF1
  have hF0 := f0.kept (low b39) (fun _ _ e => e)
  have hF1 := f1.kept (low b49) (fun _ _ e => e)
  refine ⟨?_, ?_, ?_, ⟨.inl ⟨rfl, .inl rfl⟩, .inl ⟨rfl, .inr (.inl rfl)⟩, .inl ⟨rfl, .inr (.inr rfl)⟩⟩, ⟨_, _, hT.mono (fun k e => by simp [e])⟩, ⟨_, hR.mono (fun k e => by simp [e])⟩, fun i hi => ?_, fun i hi => ?_, fun i hi => Fit.nil, fun i j k h1 h2 => by omega, fun i k h => by omega, b9⟩
  · have e := heap_alloc_new W8 (.cells #[.pointer (some ⟨w.heap.size, 0, none⟩), .pointer (some ⟨w.heap.size + 1, 0, none⟩), .slice (some ⟨w4.heap.size, 0, none⟩) 3 3, .slice (some ⟨w4.heap.size + 3, 0, none⟩) 3 3] 89)
    rw [← hW9, s8] at e
    exact e
  · have e := heap_alloc_new w4 (.cells #[.pointer (some ⟨w.heap.size + 2 + 1, 0, none⟩), .pointer (some ⟨w3.heap.size + 1, 0, none⟩), .pointer none] 26)
    rw [← hW5] at e
    exact (b59.block _ (by omega)).trans e
  · have e := heap_alloc_new W7 (.cells #[.pointer (some ⟨w4.heap.size + 1, 0, none⟩), .pointer (some ⟨w4.heap.size + 2, 0, none⟩), .pointer none] 90)
    rw [← hW8, s7] at e
    exact (b89.block _ (by omega)).trans e
  · match i, hi with
    | 0, _ => exact ⟨v0, m0, hF0.mono (fun k e => by simp; omega)⟩
    | 1, _ => exact ⟨v1, m1, hF1.mono (fun k e => by simp; omega)⟩
  · match i, hi with
    | 0, _ => exact ⟨_, hG0.mono (fun k e => by simp [e])⟩
    | 1, _ => exact ⟨_, hG1.mono (fun k e => by simp [e])⟩
set_option maxRecDepth 4000 in
theorem begin_any (w : World) : Calls Try.prog 42 #[] w fun e w' => ∃ pb, e = .returned (.pointer (some ⟨pb, 0, none⟩)) ∧ Play5 w w' pb := by
  have HN : Hid _ := hide (new_any w)
  obtain ⟨Wa, hWa⟩ : ∃ Wa, Wa = w.alloc (.cells #[.slice none 0 0, .map none, .int .i64 0] 60) := ⟨_, rfl⟩
  have HWa : Hid _ := hide hWa
  rw [← hWa] at HN
  have HRN : Hid _ := hide (rnew_any Wa)
  have sa : Wa.heap.size = w.heap.size + 1 := by rw [hWa]; simp
  obtain ⟨Wb, hWb⟩ : ∃ Wb, Wb = Wa.alloc (.cells #[.slice none 0 0, .int .i64 0] 115) := ⟨_, rfl⟩
  have HWb : Hid _ := hide hWb
  rw [← hWb, sa] at HRN
  have sb : Wb.heap.size = w.heap.size + 2 := by rw [hWb]; simp [sa]
  have HF0 : Hid _ := hide (new_f w.heap.size Wb)
  rw [sb] at HF0
  clear hWa hWb
  go_enter Try.func42, Try.ntmps42
  go_wp2_with fail
  refine HN.out.mono ?_
  rintro e w1 ⟨rfl, rfl⟩
  go_wp2_with fail
  refine HRN.out.mono ?_
  rintro e w2 ⟨rfl, rfl⟩
  go_wp2_with fail
  refine HF0.out.mono ?_
  rintro e w3 ⟨rfl, hf0, hb3⟩
  have HA0 : Hid _ := hide hf0
  have HB3 : Hid _ := hide hb3
  have HF1 : Hid _ := hide (new_f w.heap.size w3)
  clear hf0 hb3 HF0
  go_wp2_with fail
  refine HF1.out.mono ?_
  rintro e w4 ⟨rfl, hf1, hb4⟩
  have HA1 : Hid _ := hide hf1
  have HB4 : Hid _ := hide hb4
  have HFn : Hid _ := hide (new_f_nil w4)
  clear hf1 hb4 HF1
  go_wp2_with fail
  refine HFn.out.mono ?_
  rintro e w5 ⟨rfl, hw5⟩
  rw [hw5]
  clear hw5 w5 HFn
  have HP : Hid _ := hide (begun5 (w := w) HA0.out (by rw [← HWa.out, ← HWb.out]; exact HB3.out) HA1.out HB4.out)
  obtain ⟨W5, hW5⟩ : ∃ W5, W5 = w4.alloc (.cells #[.pointer (some ⟨w.heap.size + 2 + 1, 0, none⟩), .pointer (some ⟨w3.heap.size + 1, 0, none⟩), .pointer none] 26) := ⟨_, rfl⟩
  have s5 : W5.heap.size = w4.heap.size + 1 := by rw [hW5]; simp
  have HG0 : Hid _ := hide (rnew_f (w.heap.size + 1) W5)
  obtain ⟨W6, hW6⟩ : ∃ W6, W6 = W5.alloc (.cells #[.pointer (some ⟨w.heap.size + 1, 0, none⟩), .slice none 0 0] 118) := ⟨_, rfl⟩
  have s6 : W6.heap.size = w4.heap.size + 2 := by rw [hW6]; simp [s5]
  have HG1 : Hid _ := hide (rnew_f (w.heap.size + 1) W6)
  obtain ⟨W7, hW7⟩ : ∃ W7, W7 = W6.alloc (.cells #[.pointer (some ⟨w.heap.size + 1, 0, none⟩), .slice none 0 0] 118) := ⟨_, rfl⟩
  have s7 : W7.heap.size = w4.heap.size + 3 := by rw [hW7]; simp [s6]
  rw [← hW6, s5] at HG0
  rw [← hW7, s6] at HG1
  rw [← hW5, ← hW6, ← hW7] at HP
  have HW6 : Hid _ := hide hW6
  have HW7 : Hid _ := hide hW7
  clear hW6 hW7 s5 s6
  go_wp2_with fail
  rw [← hW5]
  have HW5 : Hid _ := hide hW5
  clear hW5
  refine HG0.out.mono ?_
  rintro e w6 ⟨rfl, _, rfl⟩
  go_wp2_with fail
  refine HG1.out.mono ?_
  rintro e w7 ⟨rfl, _, rfl⟩
  go_wp2
  go_ret
  exact ⟨w4.heap.size + 4, rfl, _, _, _, _, _, _, _, _, _, _, HP.out⟩
theorem text_at {L : List ByteArray} {k : Nat} (h : k < L.length) : textV L (k : Int) = .tuple #[.string (L.getD k ByteArray.empty), .int .i64 0] := by
  unfold textV; rw [if_pos (by omega), Int.toNat_natCast]
set_option maxRecDepth 4000 in
theorem table_any {w0 w : World} {pb tb ub FB GB : Nat} {f g : Nat → Nat} {Z : Nat → Nat → Prop} {L : List ByteArray} {N R : Nat → List Nd} {P : Nat → List Stk} (h : Ply w0 w pb tb ub FB GB f g Z L L N R P) :
    Calls Try.prog 64 #[.pointer (some ⟨pb, 0, none⟩)] w fun e w' => e = .returned (.bool true) ∧ Below w.heap.size w w' := by
  obtain ⟨p0, p1, _, _⟩ := h.cells
  obtain ⟨tv, tm, hT⟩ := h.tab
  obtain ⟨rv, hR⟩ := h.rtab
  obtain ⟨ta, tc, rfl⟩ := own_form hT.own
  obtain ⟨ra, rc, rfl⟩ := own_form hR.own
  have hLl : (L.length : Int) ≤ 65536 := by have := hT.len; omega
  have HL1 : Hid (∀ j, Calls Try.prog 12 #[.pointer (some ⟨tb, 0, none⟩)] (w.drewN j) fun e w' => e = .returned (.int .i64 L.length) ∧ w' = w.drewN j) := hide (fun j => len_any tb _ tc ta _ (cell_drewN hT.cell0 j))
  have HL2 : Hid (Calls Try.prog 75 #[.pointer (some ⟨ub, 0, none⟩)] w fun e w' => e = .returned (.int .i64 L.length) ∧ w' = w) := hide (rlen_any ub _ rc ra _ hR.cell0)
  have HB1 : Hid (∀ j, Calls Try.prog 13 #[.pointer (some ⟨tb, 0, none⟩)] (w.drewN j) fun e w' => e = .returned (.int .i64 (total L : Nat)) ∧ w' = w.drewN j) := hide (fun j => bytes_any tb _ _ (cell_drewN hT.cell2 j))
  have HB2 : Hid (∀ j, Calls Try.prog 76 #[.pointer (some ⟨ub, 0, none⟩)] (w.drewN j) fun e w' => e = .returned (.int .i64 (total L : Nat)) ∧ w' = w.drewN j) := hide (fun j => rbytes_any ub _ _ (cell_drewN hR.cell1 j))
  have HT1 : Hid (∀ j (k : Nat), k < L.length → Calls Try.prog 33 #[.pointer (some ⟨tb, 0, none⟩), .int .i64 (k : Int)] (w.drewN j) fun e w' => e = .returned (.tuple #[.string (L.getD k ByteArray.empty), .int .i64 0]) ∧ w' = w.drewN j) := hide (fun j k hk => by
    have := text_any tb L.length tc ta L (k : Int) (w.drewN j) (cell_drewN hT.cell0 j) ((SRow.of_own hT.own).drewN j) (by omega) (by omega)
    rwa [text_at hk] at this)
  have HT2 : Hid (∀ j (k : Nat), k < L.length → Calls Try.prog 73 #[.pointer (some ⟨ub, 0, none⟩), .int .i64 (k : Int)] (w.drewN j) fun e w' => e = .returned (.tuple #[.string (L.getD k ByteArray.empty), .int .i64 0]) ∧ w' = w.drewN j) := hide (fun j k hk => by
    have := rtext_any ub L.length rc ra L (k : Int) (w.drewN j) (cell_drewN hR.cell0 j) ((SRow.of_own hR.own).drewN j) (by omega) (by omega)
    rwa [text_at hk] at this)
  have HP : Hid (∀ j, (w.drewN j).cell? ⟨pb, 0, none⟩ = some (.pointer (some ⟨tb, 0, none⟩)) ∧ (w.drewN j).cell? ⟨pb, 1, none⟩ = some (.pointer (some ⟨ub, 0, none⟩))) := hide (fun j => ⟨cell_drewN p0 j, cell_drewN p1 j⟩)
  clear h hT hR
  go_enter Try.func64, Try.ntmps64
  go_wp2_with fail
  refine HL2.out.mono ?_
  rintro e w1 ⟨rfl, hw1⟩
  rw [hw1]
  clear hw1 w1
  go_wp2
  go_quiet ((first | (go_at_call 12; exact Calls.quiet_of_same (HL1.out _)) | (go_at_call 13; exact Calls.quiet_of_same (HB1.out _)) | (go_at_call 76; exact Calls.quiet_of_same (HB2.out _))))
  go_wp2
  go_loopw [4] (fun i wr => ∃ k q : Nat, k ≤ L.length ∧ i = .int .i64 k ∧ wr = w.drewN q) (fun i _ => L.length - (intOf i).toNat)
  case atStart => exact ⟨0, nq, Nat.zero_le _, rfl, rfl⟩
  case round =>
    obtain ⟨k, q, hk, rfl, hw⟩ := hrel
    have e0 := (HP.out q).1
    have e1 := (HP.out q).2
    rw [← hw] at e0 e1
    have HW : Hid _ := hide hw
    by_cases hlt : k < L.length
    · have hltI : (k : Int) < L.length := by omega
      have HQ1 : Hid _ := hide (HT1.out q k hlt)
      have HQ2 : Hid _ := hide (HT2.out q k hlt)
      rw [← hw] at HQ1 HQ2
      clear hw
      generalize L.getD k ByteArray.empty = s at HQ1 HQ2
      go_wp2_with fail
      refine HQ1.out.mono ?_
      rintro e w2 ⟨rfl, hw2⟩
      rw [hw2]
      clear hw2 w2
      go_wp2_with fail
      refine HQ2.out.mono ?_
      rintro e w2 ⟨rfl, hw2⟩
      rw [hw2]
      clear hw2 w2
      go_wp2
      exact ⟨⟨k + 1, q, by omega, by go_num, HW.out⟩, by simp [intOf]; omega⟩
    · have hltI : ¬ (k : Int) < L.length := by omega
      clear hw
      go_wp2
      go_ret
      exact ⟨rfl, by rw [HW.out]; exact below_drewN (Below.refl _ _) q⟩
end Go.Proofs.Ytjpccaeojimlfaa
