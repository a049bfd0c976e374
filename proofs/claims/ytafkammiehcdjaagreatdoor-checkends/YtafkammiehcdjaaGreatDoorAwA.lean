/-
  awake.
-/
import Derived.Test.YtafkammiehcdjaaGreatDoorTwA
namespace Go.Proofs.YtafkammiehcdjaaGreatDoor
open Go.RowKit Go.Maps Go.Shelf
theorem bnd_plain : ∀ (es : List E6.Ev) (i : Nat), (∀ e ∈ es, e.chk = 0 ∧ e.ls = []) → E6.bnd es i [] [] = (-1, 0) := by
  intro es
  induction es with
  | nil => intro i _; rfl
  | cons e es ih =>
    intro i h
    obtain ⟨h1, h2⟩ := h e (by simp)
    rw [E6.bnd, if_pos h1, h2]
    have hR : E6.Roomy [] ([] : List E6.Nd).length (E6.left [] [] []).2.reverse := ⟨fun t ht => (by cases ht), by decide, by decide, by decide⟩
    rw [if_pos hR]
    exact ih (i + 1) (fun f hf => h f (by simp [hf]))
def evF : E6.Ev := ⟨0, 7, 0, 1, none, 0, []⟩
def evW : E6.Ev := ⟨1, 2, 8, 4, none, 0, []⟩
def evJ : E6.Ev := ⟨0, 8, 0, 1, none, 0, []⟩
def evA : E6.Ev := ⟨0, 3, 7, 0, none, 0, []⟩
theorem runV_one : runV [evF, evW, evJ] = (-1, 0, 0) := by
  have hb : (E6.bounds [evF, evW, evJ]).2 = 0 := by
    unfold E6.bounds
    rw [if_pos (by decide), bnd_plain _ _ (fun e he => by
      simp at he
      rcases he with rfl | rfl | rfl <;> exact ⟨by kernel_rfl, rfl⟩)]
  rw [runV_zero hb]
  have h9 : CS.new.run [evF, evW, evJ] 0 = (-1, 0) := by kernel_rfl
  rw [h9]
theorem runV_two : runV [evA, evA] = (1, 4, 0) := by
  have hb : (E6.bounds [evA, evA]).2 = 0 := by
    unfold E6.bounds
    rw [if_pos (by decide), bnd_plain _ _ (fun e he => by
      simp at he
      rcases he with rfl <;> exact ⟨by kernel_rfl, rfl⟩)]
  rw [runV_zero hb]
  have h9 : CS.new.run [evA, evA] 0 = (1, 4) := by kernel_rfl
  rw [h9]
def evsC (es : List E6.Ev) : Array Value := (E6.ecells es).toArray
theorem erow_lit (w : World) (es : List E6.Ev) (hs : ∀ e ∈ es, e.sa = none ∧ e.ls = []) : E6.ERow (w.alloc (.cells (evsC es) 36)) (some ⟨w.heap.size, 0, none⟩) es.length es := by
  have hh : (w.alloc (.cells (evsC es) 36)).heap[w.heap.size]? = some (.cells (evsC es) 36 (0, 0)) := heap_new _ _
  refine ⟨rfl, .inr ⟨w.heap.size, 0, rfl, fun i e he => ?_⟩⟩
  have hc : ∀ t (ht : t < 5), (w.alloc (.cells (evsC es) 36)).cell? ⟨w.heap.size, 0 + i * 5 + t, none⟩ = (E6.ecell e)[t]? := by
    intro t ht
    rw [cell_of_row _ _ _ _ 36 (0, 0) hh, Nat.zero_add]
    unfold evsC
    rw [List.getElem?_toArray]
    exact E6.ecells_get he ht
  obtain ⟨h1, h2⟩ := hs e (List.mem_of_getElem? he)
  refine ⟨hc 0 (by omega), hc 1 (by omega), hc 2 (by omega), hc 3 (by omega), hc 4 (by omega), ?_⟩
  show E6.SRow _ e.sa e.ls.length e.ls
  rw [h2]
  exact ⟨rfl, .inl rfl⟩
set_option maxRecDepth 8000 in
theorem awake_any (w : World) (hK : E6.Kr w) : Calls Tryz.prog 8 #[] w fun e w' => e = .returned (.bool true) ∧ Below w.heap.size w w' := by
  have hok : ∀ e ∈ [evF, evW, evJ], e.ok := by
    intro e he
    simp at he
    rcases he with rfl | rfl | rfl
    all_goals exact ⟨⟨by decide, by decide⟩, ⟨by decide, by decide⟩, by decide, fun s hs => (by cases hs), by decide, fun _ => ⟨rfl, rfl⟩⟩
  have hok2 : ∀ e ∈ [evA, evA], e.ok := by
    intro e he
    simp at he
    rcases he with rfl
    all_goals exact ⟨⟨by decide, by decide⟩, ⟨by decide, by decide⟩, by decide, fun s hs => (by cases hs), by decide, fun _ => ⟨rfl, rfl⟩⟩
  have hsz := hK.size
  obtain ⟨W1, hW1⟩ : ∃ W1, W1 = w.alloc (.cells (evsC [evF, evW, evJ]) 36) := ⟨_, rfl⟩
  have hb1 : Below w.heap.size w W1 := by rw [hW1]; exact below_alloc1 w _
  have hr1 : E6.ERow W1 (some ⟨w.heap.size, 0, none⟩) 3 [evF, evW, evJ] := by
    rw [hW1]; exact erow_lit w _ (fun e he => by simp at he; rcases he with rfl | rfl | rfl <;> exact ⟨rfl, rfl⟩)
  have HR1 := hide (Run_any (some ⟨w.heap.size, 0, none⟩) 3 3 [evF, evW, evJ] W1 (hK.below hb1 (by omega)) hr1 hok (by decide))
  rw [runV_one] at HR1
  have HB1 := hide hb1
  have HW1 := hide hW1
  have HK := hide hK
  have HO2 := hide hok2
  clear hok hok2 hW1 hb1 hr1 hK
  have HR1' := HR1
  rw [HW1.out] at HR1'
  go_enter Tryz.func8, Tryz.ntmps8
  go_wp2_with fail
  refine HR1'.out.mono ?_
  rintro e w2 ⟨rfl, hb2⟩
  rw [← HW1.out] at hb2
  have HB2 := hide (Below.on HB1.out hb2)
  obtain ⟨W3, hW3⟩ : ∃ W3, W3 = w2.alloc (.cells (evsC [evA, evA]) 36) := ⟨_, rfl⟩
  have hb3 : Below w2.heap.size w2 W3 := by rw [hW3]; exact below_alloc1 w2 _
  have hr3 : E6.ERow W3 (some ⟨w2.heap.size, 0, none⟩) 2 [evA, evA] := by
    rw [hW3]; exact erow_lit w2 _ (fun e he => by simp at he; rcases he with rfl <;> exact ⟨rfl, rfl⟩)
  have hb30 := Below.on HB2.out hb3
  have HR3 := hide (Run_any (some ⟨w2.heap.size, 0, none⟩) 2 2 [evA, evA] W3 (HK.out.below hb30 (by omega)) hr3 HO2.out (by decide))
  rw [runV_two] at HR3
  have HB3 := hide hb30
  have HW3 := hide hW3
  clear hb2 hW3 hb3 hr3 hb30 HR1 HR1' HW1
  have HR3' := HR3
  rw [HW3.out] at HR3'
  go_wp2_with fail
  refine HR3'.out.mono ?_
  rintro e w4 ⟨rfl, hb4⟩
  rw [← HW3.out] at hb4
  have HB4 := hide (Below.on HB3.out hb4)
  clear hb4 HR3 HR3' HW3
  go_wp2
  go_ret
  exact ⟨rfl, HB4.out⟩
end Go.Proofs.YtafkammiehcdjaaGreatDoor
