/-
  Intern that refuses; Stack.
-/
import Derived.Test.YtifbehkdhalfcaaDoorForD
namespace Go.Proofs.YtifbehkdhalfcaaDoor
open Go.RowKit Go.Maps Go.Shelf
theorem intern_nil (a : Option Addr) (n c : Nat) (w : World) : Calls Tryd.prog 27 #[.pointer none, .slice a n c] w fun e w' => e = .returned (.tuple #[.int .i64 0, .int .i64 1]) ∧ Below w.heap.size w w' := by
  have HM : Hid _ := hide (missing_nil (w.alloc (.cells #[.pointer none] 45)))
  go_enter Tryd.func27, Tryd.ntmps27
  go_wp2_with fail
  refine HM.out.mono ?_
  rintro e w' ⟨rfl, rfl⟩
  go_wp2
  go_ret2
  exact ⟨rfl, (Below.refl _ w).alloc (Nat.le_refl _) _⟩
theorem intern_deep {w : World} {T S : Nat → Prop} {tb fb : Nat} {L : List ByteArray} {N : List Nd} (h : St w T S tb fb L N) (a : Option Addr) (n c : Nat) (hn : 16 < n) (hn' : (n : Int) ≤ 9223372036854775807) :
    Calls Tryd.prog 27 #[.pointer (some ⟨fb, 0, none⟩), .slice a n c] w fun e w' => e = .returned (.tuple #[.int .i64 0, .int .i64 51]) ∧ Below w.heap.size w w' := by
  obtain ⟨W0, hW0⟩ : ∃ W0, W0 = w.alloc (.cells #[.pointer (some ⟨fb, 0, none⟩)] 45) := ⟨_, rfl⟩
  have hb0 : But (fun _ => False) w W0 := by rw [hW0]; exact (But.refl _ _).alloc _
  have hS0 := h.but hb0 (fun _ _ e => e) (fun _ _ e => e)
  obtain ⟨tv, tm, v, mb, hT0, hF0⟩ := hS0.both
  have HM : Hid _ := hide (missing_any fb tb W0 hF0.cell0)
  have hnI : (16 : Int) < n := by omega
  clear h hb0 hS0 hT0 hF0 hn
  go_enter Tryd.func27, Tryd.ntmps27
  go_wp2_with fail
  rw [← hW0]
  refine HM.out.mono ?_
  rintro e w' ⟨rfl, rfl⟩
  have HW : Hid _ := hide hW0
  clear hW0
  go_wp2
  go_ret2
  refine ⟨rfl, ?_⟩
  rw [HW.out]; exact (Below.refl _ w).alloc (Nat.le_refl _) _
set_option maxRecDepth 4000 in
theorem intern_full {w : World} {T S : Nat → Prop} {tb fb : Nat} {L : List ByteArray} {N : List Nd} (h : St w T S tb fb L N) (a : Option Addr) (n c : Nat) (ls : List ByteArray) (hr : SRow w a n ls) (hn : n ≤ 16) (hc : n ≤ c) (hz : ∀ s ∈ ls, s.size ≤ maxLen)
    (hR : ¬ Roomy L N.length (kn L N 0 ls.reverse).2.reverse) :
    Calls Tryd.prog 27 #[.pointer (some ⟨fb, 0, none⟩), .slice a n c] w fun e w' => e = .returned (.tuple #[.int .i64 0, .int .i64 3]) ∧ Below w.heap.size w w' := by
  have hn' : (n : Int) ≤ 16 := by omega
  obtain ⟨W0, hW0⟩ : ∃ W0, W0 = w.alloc (.cells #[.pointer (some ⟨fb, 0, none⟩)] 45) := ⟨_, rfl⟩
  have hb0 : But (fun _ => False) w W0 := by rw [hW0]; exact (But.refl _ _).alloc _
  have hS0 := h.but hb0 (fun _ _ e => e) (fun _ _ e => e)
  obtain ⟨tv, tm, v, mb, hT0, hF0⟩ := hS0.both
  have hr0 : SRow W0 a n ls := hr.but hb0 (fun _ _ _ _ e => e)
  have HM : Hid _ := hide (missing_any fb tb W0 hF0.cell0)
  have HK : Hid _ := hide (known_any hT0 hF0 a n c ls hr0 hn hc hz)
  have x0 : W0.cell? ⟨w.heap.size, 0, none⟩ = some (.pointer (some ⟨fb, 0, none⟩)) := by rw [hW0]; exact cell_new _ _ _
  have hB0 : W0.heap.size = w.heap.size + 1 := by rw [hW0]; simp
  have hre := rest_eq (L := L) (N := N) ls
  have hml := (@kn_len L N ls.reverse 0).1
  have HKL : Hid ((kn L N 0 ls.reverse).1 ≤ 262144) := hide (Nat.le_trans (kn_le (Nat.zero_le _)) hF0.len)
  obtain ⟨id, rest, hk⟩ : ∃ id rest, kn L N 0 ls.reverse = (id, rest) := ⟨_, _, rfl⟩
  rw [hk] at hR HK hre hml HKL
  dsimp only at hR HK hre hml HKL
  rw [List.length_reverse, hr.len] at hml
  obtain ⟨ra, rc, hrv, hrc, hrr, hra⟩ := restV_form hr0 hml hc
  rw [hrv] at HK
  rw [← hre] at hrr
  generalize hm : rest.length = m at HK hrv hrc hrr hra hml hre
  have H0 : Hid (St W0 T S tb fb L N) := hS0
  have HRr : Hid (SRow W0 ra m rest.reverse) := hrr
  have HRm : Hid (¬ Roomy L N.length rest.reverse) := hR
  have HZ : Hid (∀ s ∈ rest.reverse, s.size ≤ maxLen) := hide (fun s hs => hz s (by rw [hre] at hs; exact List.mem_of_mem_take hs))
  have hid : id ≤ 262144 := HKL.out
  have hm16 : Hid (m ≤ 16) := hide (by omega)
  clear h hr hz hR hS0 hT0 hF0 hr0 hk hre hrv hrr hra hm HKL hb0
  go_enter Tryd.func27, Tryd.ntmps27
  go_wp2_with fail
  rw [← hW0]
  have HW0 : Hid _ := hide hW0
  clear hW0
  refine HM.out.mono ?_
  rintro e w' ⟨rfl, rfl⟩
  go_wp2_with fail
  refine HK.out.mono ?_
  rintro e w1 ⟨rfl, j, hj⟩
  have x1 : w1.cell? ⟨w.heap.size, 0, none⟩ = some (.pointer (some ⟨fb, 0, none⟩)) := by rw [hj]; exact cell_drewN x0 j
  have s1 : w1.heap.size = w.heap.size + 1 := by rw [hj]; exact hB0
  have hb1 : But (fun _ => False) w' w1 := by rw [hj]; exact But.of_below (below_drewN (Below.refl _ _) j)
  have hbb : Hid (Below w.heap.size w w1) := hide (by rw [hj, HW0.out]; exact below_drewN ((Below.refl _ w).alloc (Nat.le_refl _) _) j)
  obtain ⟨W2, hW2⟩ : ∃ W2, W2 = w1.alloc (.cells #[.int .i64 (id : Int)] 3) := ⟨_, rfl⟩
  have hb2 : But (fun _ => False) w' W2 := by rw [hW2]; exact hb1.alloc _
  have H2 : Hid (St W2 T S tb fb L N) := hide (H0.out.but hb2 (fun _ _ e => e) (fun _ _ e => e))
  have R2 : Hid (SRow W2 ra m rest.reverse) := hide (HRr.out.but hb2 (fun _ _ _ _ e => e))
  obtain ⟨tv2, tm2, v2, mb2, hT2, hF2⟩ := H2.out.both
  have HRo : Hid _ := hide (hasRoom_any hT2 hF2 ra m rc rest.reverse R2.out hm16.out hrc HZ.out)
  clear hj hb1 hb2 hT2 hF2
  go_wp2_with fail
  rw [← hW2]
  have HHW2 : Hid _ := hide hW2
  clear hW2 x1 s1 x0 hB0
  refine HRo.out.mono ?_
  rintro e w3 ⟨⟨b, rfl, hb⟩, j3, hj3⟩
  have hbf : b = false := by cases b; rfl; exact absurd (hb.1 rfl) HRm.out
  subst hbf
  have HJ : Hid _ := hide hj3
  clear hj3 hb
  go_wp2
  go_ret2
  refine ⟨rfl, ?_⟩
  rw [HJ.out, HHW2.out]
  exact below_drewN (hbb.out.alloc hbb.out.size _) j3
/-! ### Stack -/
end Go.Proofs.YtifbehkdhalfcaaDoor
