/-
  alive.
-/
import Derived.Test.YtifbehkdhalfcaaDoorBndA
namespace Go.Proofs.YtifbehkdhalfcaaDoor
open Go.RowKit Go.Maps Go.Shelf
def evW : Ev := ⟨0, 2, 8, 4, none, 0, []⟩
def evR : Ev := ⟨0, 1, 11, 1, none, 0, []⟩
theorem evW_ok : evW.ok := ⟨by decide, by decide, by decide, by simp [evW], by decide, fun _ => ⟨rfl, rfl⟩⟩
theorem evR_ok : evR.ok := ⟨by decide, by decide, by decide, by simp [evR], by decide, fun _ => ⟨rfl, rfl⟩⟩
theorem ev_nil_at (w : World) (e : Ev) (h : e.ls = []) : e.at w := ⟨by rw [h], .inl (by rw [h]; rfl)⟩
theorem roomy_nil (L : List ByteArray) (N : List Nd) (h1 : L.length ≤ 65536) (h2 : total L ≤ 4194304) (h3 : N.length ≤ 262144) : Roomy L N.length (left L N []).2.reverse := by
  have e : (left L N []).2.reverse = [] := rfl
  rw [e]
  refine ⟨by rw [newS_nil]; simp, by rw [newS_nil]; simpa using h1, by rw [newS_nil]; simpa [total] using h2, by simpa using h3⟩
theorem bounds_two : bounds [evW, evR] = (-1, 0) := by
  have c1 : evW.chk = 0 := by decide
  have c2 : evR.chk = 0 := by decide
  have a1 : after [] [] evW.ls = ⟨[], [], 0⟩ := rfl
  have r1 : Roomy [] ([] : List Nd).length (left [] [] evW.ls).2.reverse := roomy_nil [] [] (by simp) (by simp [total]) (by simp)
  have r2 : Roomy [] ([] : List Nd).length (left [] [] evR.ls).2.reverse := roomy_nil [] [] (by simp) (by simp [total]) (by simp)
  unfold bounds
  rw [if_pos (by simp), bnd, if_pos c1, if_pos r1, a1, bnd, if_pos c2, if_pos r2, bnd]
theorem erow_two' {w : World} {b : Nat} {e f : Ev} (hr : w.heap[b]? = some (.cells #[.int .i64 e.g, .int .i64 e.k, .int .u64 e.o, .int .u64 e.a, .slice e.sa e.ls.length e.sc, .int .i64 f.g, .int .i64 f.k, .int .u64 f.o, .int .u64 f.a, .slice f.sa f.ls.length f.sc] 35 (0, 0))) (he : e.at w) (hf : f.at w) : ERow w (some ⟨b, 0, none⟩) 2 [e, f] := by
  refine ⟨rfl, .inr ⟨b, 0, rfl, fun i g hg => ?_⟩⟩
  match i, hg with
  | 0, hg =>
    simp at hg; subst hg
    refine ⟨?_, ?_, ?_, ?_, ?_, he⟩ <;> (rw [cell_of_row _ _ _ _ 35 (0, 0) hr]; rfl)
  | 1, hg =>
    simp at hg; subst hg
    refine ⟨?_, ?_, ?_, ?_, ?_, hf⟩ <;> (rw [cell_of_row _ _ _ _ 35 (0, 0) hr]; rfl)
def kfindD (s : ByteArray) (k : Nat) : Nat → Int × Int
  | 0 => (0, 60)
  | f + 1 => if (kname k).data.toList == s.data.toList then ((k : Int), 0) else kfindD s (k + 1) f
theorem kfind_eq (s : ByteArray) (k f : Nat) : kfind s k f = kfindD s k f := by
  induction f generalizing k with
  | zero => rfl
  | succ f ih => rw [kfind, kfindD, ByteArray.toList_eq, ByteArray.toList_eq, ih]
/-- The two events of alive. -/
structure Ali (w0 W : World) (B C : Nat) : Prop where
  bel : Below w0.heap.size w0 W
  kr : Kr W
  e1 : EvB W B 0 2 8 4 none 0 0
  e2 : EvB W C 0 1 11 1 none 0 0
theorem Ali.below {w0 W W' : World} {B C : Nat} (h : Ali w0 W B C) (hb : Below W.heap.size W W') : Ali w0 W' B C :=
  ⟨h.bel.trans (hb.mono h.bel.size), h.kr.below hb (by have := h.kr.size; omega), h.e1.below hb, h.e2.below hb⟩
def sWrite : ByteArray := ⟨#[119, 114, 105, 116, 101]⟩
set_option maxRecDepth 8000 in
set_option maxHeartbeats 4000000 in
theorem alive_any (w : World) (h : Kr w) : Calls Tryd.prog 13 #[] w fun r w' => r = .returned (.bool true) ∧ Below w.heap.size w w' := by
  obtain ⟨W1, hW1⟩ : ∃ W1, W1 = (w.alloc (.cells #[.int .i64 0, .int .i64 2, .int .u64 8, .int .u64 4, .slice none 0 0] 35)).alloc (.cells #[.int .i64 0, .int .i64 1, .int .u64 11, .int .u64 1, .slice none 0 0] 35) := ⟨_, rfl⟩
  have hA1 : Ali w W1 w.heap.size (w.heap.size + 1) := by
    have hb1 : Below w.heap.size w W1 := by rw [hW1]; exact (below_new w _).trans ((below_new _ _).mono (below_new w _).size)
    refine ⟨hb1, h.below hb1 (by have := h.size; omega), by rw [hW1]; exact EvB.below EvB.new (below_new _ _), ?_⟩
    have := EvB.new (w := w.alloc (.cells #[.int .i64 0, .int .i64 2, .int .u64 8, .int .u64 4, .slice none 0 0] 35)) (g := 0) (k := 1) (o := 11) (a := 1) (sa := none) (sn := 0) (sc := 0)
    rw [hW1]; simpa using this
  have HA : Hid _ := hide hA1
  have HN : Hid (Calls Tryd.prog 17 #[.int .i64 2] W1 fun e w' => e = .returned (.tuple #[.string sWrite, .int .i64 0]) ∧ w' = W1) := hide (name_any 2 W1 hA1.kr.toKn)
  have HKd : Hid (Calls Tryd.prog 18 #[.string sWrite] W1 fun e w' => e = .returned (.tuple #[.int .i64 2, .int .i64 0]) ∧ w' = W1) := hide (by
    have := kind_any sWrite W1 hA1.kr.toKn
    rwa [show kfind sWrite 1 22 = (2, 0) by rw [kfind_eq]; decide] at this)
  have HAc : Hid (Calls Tryd.prog 15 #[.agg #[.int .i64 0, .int .i64 2, .int .u64 8, .int .u64 4, .slice none 0 0]] W1 fun e w' => e = .returned (.tuple #[.int .u64 8, .int .u64 11, .bool true, .bool true]) ∧ Below W1.heap.size W1 w') := hide (access_any 0 2 8 4 none 0 0 W1 hA1.kr (by decide))
  have hlw : (sWrite.toList != sWrite.toList) = false := by simp
  rw [hW1] at HN
  have HW1 : Hid _ := hide hW1
  unfold sWrite at HN HKd hlw
  clear hA1 hW1
  go_enter Tryd.func13, Tryd.ntmps13
  go_wp2_with fail
  refine HN.out.mono ?_
  rw [← HW1.out]
  rintro r w' ⟨rfl, rfl⟩
  clear HN HW1
  go_wp2_with fail
  refine HKd.out.mono ?_
  rintro r w' ⟨rfl, rfl⟩
  obtain ⟨p0, p1, p2, p3, p4⟩ : _ ∧ _ ∧ _ ∧ _ ∧ _ := ⟨HA.out.e1.c0, HA.out.e1.c1, HA.out.e1.c2, HA.out.e1.c3, HA.out.e1.c4⟩
  clear HKd
  go_wp2_with fail
  refine HAc.out.mono ?_
  rintro r w2 ⟨rfl, hb2⟩
  have HA2 : Hid _ := hide (HA.out.below hb2)
  clear HAc p0 p1 p2 p3 p4 hb2 HA
  obtain ⟨p0, p1, p2, p3, p4⟩ : _ ∧ _ ∧ _ ∧ _ ∧ _ := ⟨HA2.out.e1.c0, HA2.out.e1.c1, HA2.out.e1.c2, HA2.out.e1.c3, HA2.out.e1.c4⟩
  obtain ⟨q0, q1, q2, q3, q4⟩ : _ ∧ _ ∧ _ ∧ _ ∧ _ := ⟨HA2.out.e2.c0, HA2.out.e2.c1, HA2.out.e2.c2, HA2.out.e2.c3, HA2.out.e2.c4⟩
  obtain ⟨W3, hW3⟩ : ∃ W3, W3 = w2.alloc (.cells #[.int .i64 0, .int .i64 2, .int .u64 8, .int .u64 4, .slice none 0 0, .int .i64 0, .int .i64 1, .int .u64 11, .int .u64 1, .slice none 0 0] 35) := ⟨_, rfl⟩
  have hb3 : Below w2.heap.size w2 W3 := by rw [hW3]; exact below_new w2 _
  have hr3 : W3.heap[w2.heap.size]? = some (.cells #[.int .i64 0, .int .i64 2, .int .u64 8, .int .u64 4, .slice none 0 0, .int .i64 0, .int .i64 1, .int .u64 11, .int .u64 1, .slice none 0 0] 35 (0, 0)) := by rw [hW3]; exact heap_alloc_new w2 _
  have HA3 : Hid _ := hide (HA2.out.below hb3)
  have hB := bounds_any (some ⟨w2.heap.size, 0, none⟩) 2 2 [evW, evR] W3 HA3.out.kr (erow_two' (e := evW) (f := evR) hr3 (ev_nil_at _ _ rfl) (ev_nil_at _ _ rfl)) (by intro e he; simp at he; rcases he with rfl | rfl; exact evW_ok; exact evR_ok) (by omega)
  rw [bounds_two] at hB
  have HB : Hid (Calls Tryd.prog 10 #[.slice (some ⟨w2.heap.size, 0, none⟩) 2 2] W3 fun r w' => r = .returned (.tuple #[.int .i64 (-1), .int .i64 0]) ∧ Below W3.heap.size W3 w') := hide hB
  rw [hW3] at HB
  have HW3 : Hid _ := hide hW3
  clear hb3 hr3 hB hW3 HA2
  go_wp2_with fail
  refine HB.out.mono ?_
  rw [← HW3.out]
  rintro r w4 ⟨rfl, hb4⟩
  have HA4 : Hid _ := hide (HA3.out.below hb4)
  clear HB HW3 p0 p1 p2 p3 p4 q0 q1 q2 q3 q4 hb4 HA3
  obtain ⟨p0, p1, p2, p3, p4⟩ : _ ∧ _ ∧ _ ∧ _ ∧ _ := ⟨HA4.out.e1.c0, HA4.out.e1.c1, HA4.out.e1.c2, HA4.out.e1.c3, HA4.out.e1.c4⟩
  have HC : Hid (Calls Tryd.prog 14 #[.agg #[.int .i64 0, .int .i64 2, .int .u64 8, .int .u64 4, .slice none 0 0]] w4 fun e w' => e = .returned (.int .i64 0) ∧ Below w4.heap.size w4 w') := hide (by
    have := check_any 0 2 8 4 none 0 0 [] w4 HA4.out.kr ⟨rfl, .inl rfl⟩ (by omega)
    rwa [show chk 0 2 8 4 [] = 0 by decide] at this)
  go_wp2_with fail
  refine HC.out.mono ?_
  rintro r w5 ⟨rfl, hb5⟩
  have HA5 : Hid _ := hide (HA4.out.below hb5)
  clear HC p0 p1 p2 p3 p4 hb5 HA4 hlw
  have HC : Hid (Calls Tryd.prog 14 #[.agg #[.int .i64 0, .int .i64 0, .int .u64 0, .int .u64 0, .slice none 0 0]] w5 fun e w' => e = .returned (.int .i64 60) ∧ Below w5.heap.size w5 w') := hide (by
    have := check_any 0 0 0 0 none 0 0 [] w5 HA5.out.kr ⟨rfl, .inl rfl⟩ (by omega)
    rwa [show chk 0 0 0 0 [] = 60 by decide] at this)
  go_wp2_with fail
  refine HC.out.mono ?_
  rintro r w6 ⟨rfl, hb6⟩
  have HA6 : Hid _ := hide (HA5.out.below hb6)
  clear HC hb6 HA5
  obtain ⟨p0, p1, p2, p3, p4⟩ : _ ∧ _ ∧ _ ∧ _ ∧ _ := ⟨HA6.out.e1.c0, HA6.out.e1.c1, HA6.out.e1.c2, HA6.out.e1.c3, HA6.out.e1.c4⟩
  obtain ⟨q0, q1, q2, q3, q4⟩ : _ ∧ _ ∧ _ ∧ _ ∧ _ := ⟨HA6.out.e2.c0, HA6.out.e2.c1, HA6.out.e2.c2, HA6.out.e2.c3, HA6.out.e2.c4⟩
  have HCl : Hid (Calls Tryd.prog 16 #[.agg #[.int .i64 0, .int .i64 2, .int .u64 8, .int .u64 4, .slice none 0 0], .agg #[.int .i64 0, .int .i64 1, .int .u64 11, .int .u64 1, .slice none 0 0]] w6 fun e w' => e = .returned (.bool true) ∧ Below w6.heap.size w6 w') := hide (by
    have := clash_any 0 2 8 4 none 0 0 0 1 11 1 none 0 0 w6 HA6.out.kr (by decide) (by decide)
    rwa [show clashB 2 8 4 1 11 1 = true by decide] at this)
  go_wp2_with fail
  refine HCl.out.mono ?_
  rintro r w7 ⟨rfl, hb7⟩
  have HA7 : Hid _ := hide (HA6.out.below hb7)
  clear HCl p0 p1 p2 p3 p4 q0 q1 q2 q3 q4 hb7 HA6
  have HS : Hid (Calls Tryd.prog 19 #[.int .i64 10] w7 fun e w' => e = .returned (.bool true) ∧ w' = w7) := hide (sync_any 10 w7)
  go_wp2_with fail
  refine HS.out.mono ?_
  rintro r w' ⟨rfl, rfl⟩
  have HS2 : Hid (Calls Tryd.prog 19 #[.int .i64 1] w' fun e w'' => e = .returned (.bool false) ∧ w'' = w') := hide (sync_any 1 w')
  clear HS
  go_wp2_with fail
  refine HS2.out.mono ?_
  rintro r w'' ⟨rfl, rfl⟩
  go_wp2
  go_ret
  exact ⟨rfl, HA7.out.bel⟩
end Go.Proofs.YtifbehkdhalfcaaDoor
