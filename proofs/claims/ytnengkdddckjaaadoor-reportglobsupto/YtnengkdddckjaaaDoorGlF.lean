/-
  awake.
-/
import Derived.Test.YtnengkdddckjaaaDoorGlE
namespace Go.Proofs.YtnengkdddckjaaaDoor
open Go.RowKit Go.Maps
set_option linter.unusedVariables false
theorem Mx.below {w w' : World} (h : Mx w) (hb : Below w.heap.size w w') : Mx w' := by
  obtain ⟨m, hm⟩ := h
  exact ⟨m, E6.cell_bel hm hb⟩
theorem gl_aw1 : glB [97, 42, 99] [97, 98, 98, 99] = true := by
  rw [glB_iff, gl_byte _ _ _ (by decide)]
  refine ⟨[98, 98, 99], rfl, ?_⟩
  rw [gl_star]
  refine ⟨[98, 98], [99], rfl, ?_⟩
  rw [gl_byte _ _ _ (by decide)]
  exact ⟨[], rfl, rfl⟩
theorem gl_aw2 : glB [97, 42, 99] [97, 98, 98] = false := by
  rw [Bool.eq_false_iff]
  intro h
  have h1 := (glB_iff _ _).1 h
  rw [gl_byte _ _ _ (by decide)] at h1
  obtain ⟨v, hv, h2⟩ := h1
  rw [gl_star] at h2
  obtain ⟨u, z, huz, h3⟩ := h2
  rw [gl_byte _ _ _ (by decide)] at h3
  obtain ⟨y, hy, h4⟩ := h3
  have h5 : y = [] := h4
  subst h5
  subst hy
  have h6 : [98, 98] = u ++ [(99 : UInt8)] := by
    rw [← huz]
    injection hv
  have h7 := congrArg List.getLast? h6
  rw [List.getLast?_concat] at h7
  exact absurd h7 (by decide)
theorem alloc4 (w : World) (o1 o2 o3 o4 : Obj) : Below w.heap.size w ((((w.alloc o1).alloc o2).alloc o3).alloc o4) ∧ ((((w.alloc o1).alloc o2).alloc o3).alloc o4).heap[w.heap.size]? = some o1 ∧ ((((w.alloc o1).alloc o2).alloc o3).alloc o4).heap[w.heap.size + 1]? = some o2 ∧ ((((w.alloc o1).alloc o2).alloc o3).alloc o4).heap[w.heap.size + 1 + 1]? = some o3 ∧ ((((w.alloc o1).alloc o2).alloc o3).alloc o4).heap[w.heap.size + 1 + 1 + 1]? = some o4 := by
  have hz : (w.alloc o1).heap.size = w.heap.size + 1 := by simp
  have hz2 : ((w.alloc o1).alloc o2).heap.size = w.heap.size + 1 + 1 := by simp
  have hz3 : (((w.alloc o1).alloc o2).alloc o3).heap.size = w.heap.size + 1 + 1 + 1 := by simp
  have n1 := heap_new w o1
  have n2 := heap_new (w.alloc o1) o2
  have n3 := heap_new ((w.alloc o1).alloc o2) o3
  have n4 := heap_new (((w.alloc o1).alloc o2).alloc o3) o4
  rw [hz] at n2
  rw [hz2] at n3
  rw [hz3] at n4
  have b1 := below_alloc1 w o1
  have b2 := below_alloc1 (w.alloc o1) o2
  have b3 := below_alloc1 ((w.alloc o1).alloc o2) o3
  have b4 := below_alloc1 (((w.alloc o1).alloc o2).alloc o3) o4
  have b34 := Below.on b3 b4
  have b24 := Below.on b2 b34
  exact ⟨Below.on b1 b24, (b24.block _ (by omega)).trans n1, (b34.block _ (by omega)).trans n2, (b4.block _ (by omega)).trans n3, n4⟩
def evA (g : UInt8) (b : Nat) : E6.Ev := ⟨0, 0, 0, 0, some ⟨b, 0, none⟩, 1, [⟨#[g]⟩]⟩
theorem grp_aw (b c : Nat) : grp [evA 102 b, evA 103 c] [(0, 1), (1, 0)] = ([(0, 1)], [2]) := by
  have h : alB [evA 102 b, evA 103 c] (0, 1) (1, 0) = true := decide_eq_true (Or.inr ⟨rfl, rfl⟩)
  have h0 : grp [evA 102 b, evA 103 c] [(0, 1), (1, 0)] = gst [evA 102 b, evA 103 c] (gst [evA 102 b, evA 103 c] ([], []) (0, 1)) (1, 0) := rfl
  rw [h0]
  have h1 : gst [evA 102 b, evA 103 c] ([], []) (0, 1) = ([(0, 1)], [1]) := rfl
  rw [h1]
  unfold gst
  have h2 : List.findIdx? (fun g => alB [evA 102 b, evA 103 c] g (1, 0)) [(0, 1)] = some 0 := by
    rw [List.findIdx?_cons, if_pos h]
  simp only [h2]
  rfl
set_option maxRecDepth 8000 in
set_option maxHeartbeats 4000000 in
theorem awake_any (w : World) (hm : Mx w) :
    Calls Tryd.prog 7 #[] w fun e w' => e = .returned (.bool true) ∧ Below w.heap.size w w' := by
  have HM := hide hm
  clear hm
  go_enter Tryd.func7, Tryd.ntmps7
  go_wp2_with fail
  obtain ⟨hbW, hA, hB, hC, hD⟩ := alloc4 w (.cells #[.string ⟨#[102]⟩] 9) (.cells #[.string ⟨#[103]⟩] 9) (.cells #[.int .i64 0, .int .i64 0, .int .u64 0, .int .u64 0, .slice (some ⟨w.heap.size, 0, none⟩) 1 1, .int .i64 0, .int .i64 0, .int .u64 0, .int .u64 0, .slice (some ⟨w.heap.size + 1, 0, none⟩) 1 1] 35) (.cells #[.int .i64 0, .int .i64 1, .int .i64 1, .int .i64 0] 43)
  generalize ((((w.alloc (.cells #[.string ⟨#[102]⟩] 9)).alloc (.cells #[.string ⟨#[103]⟩] 9)).alloc (.cells #[.int .i64 0, .int .i64 0, .int .u64 0, .int .u64 0, .slice (some ⟨w.heap.size, 0, none⟩) 1 1, .int .i64 0, .int .i64 0, .int .u64 0, .int .u64 0, .slice (some ⟨w.heap.size + 1, 0, none⟩) 1 1] 35)).alloc (.cells #[.int .i64 0, .int .i64 1, .int .i64 1, .int .i64 0] 43)) = W at hbW hA hB hC hD ⊢
  have hrow : E6.ERow W (some ⟨w.heap.size + 1 + 1, 0, none⟩) 2 [evA 102 w.heap.size, evA 103 (w.heap.size + 1)] := ⟨rfl, .inr ⟨_, 0, rfl, fun i e he => by
    have hs : ∀ (g : UInt8) (b : Nat), W.heap[b]? = some (.cells #[.string ⟨#[g]⟩] 9 (0, 0)) → (evA g b).at W := fun g b hb => ⟨rfl, .inr ⟨b, 0, rfl, fun i hi => by
      have hi : i < 1 := hi
      have : i = 0 := by omega
      subst this
      exact cell_at hb rfl⟩⟩
    match i, he with
    | 0, he =>
      cases he
      exact ⟨cell_at hC rfl, cell_at hC rfl, cell_at hC rfl, cell_at hC rfl, cell_at hC rfl, hs _ _ hA⟩
    | 1, he =>
      cases he
      exact ⟨cell_at hC rfl, cell_at hC rfl, cell_at hC rfl, cell_at hC rfl, cell_at hC rfl, hs _ _ hB⟩
    | i + 2, he => simp at he⟩⟩
  have hrs : TRow sR W (some ⟨w.heap.size + 1 + 1 + 1, 0, none⟩) 2 [(0, 1), (1, 0)] := ⟨rfl, .inr ⟨_, 0, rfl, fun i r hr t u hu => by
    match i, hr with
    | 0, hr =>
      cases hr
      match t, hu with
      | 0, hu => cases hu; exact cell_at hD rfl
      | 1, hu => cases hu; exact cell_at hD rfl
      | t + 2, hu => simp [sR] at hu
    | 1, hr =>
      cases hr
      match t, hu with
      | 0, hu => cases hu; exact cell_at hD rfl
      | 1, hu => cases hu; exact cell_at hD rfl
      | t + 2, hu => simp [sR] at hu
    | i + 2, hr => simp at hr⟩⟩
  have hev : ∀ e ∈ [evA 102 w.heap.size, evA 103 (w.heap.size + 1)], e.ok ∧ e.ls.length + 1 ≤ 2 := fun e he => by
    have h9 : ∀ (g : UInt8) (b : Nat), (evA g b).ok ∧ (evA g b).ls.length + 1 ≤ 2 := fun g b => ⟨⟨⟨Int.le_refl _, by show (0 : Int) ≤ _; omega⟩, ⟨Int.le_refl _, by show (0 : Int) ≤ _; omega⟩, by show 1 ≤ _; omega, fun s hs => by
      have : s = ⟨#[g]⟩ := by simpa [evA] using hs
      rw [this]
      show 1 ≤ maxLen
      unfold maxLen; omega, Nat.le_refl _, fun h => by cases h⟩, Nat.le_refl _⟩
    rcases List.mem_cons.1 he with rfl | he
    · exact h9 _ _
    · rcases List.mem_cons.1 he with rfl | he
      · exact h9 _ _
      · cases he
  have HG := hide (group_any [evA 102 w.heap.size, evA 103 (w.heap.size + 1)] (some ⟨w.heap.size + 1 + 1, 0, none⟩) 2 2 (some ⟨w.heap.size + 1 + 1 + 1, 0, none⟩) 2 2 [(0, 1), (1, 0)] 2 W hrow hrs (by omega) (by omega) (by omega) (fun e he => (hev e he).1) (fun e he => (hev e he).2))
  have HBW := hide hbW
  clear hA hB hC hD hrow hrs hev hbW
  refine HG.out.mono ?_
  rintro e9 X (⟨_, fv, cv, rfl, h1, h2, _, h4⟩ | ⟨hbad, _⟩)
  · rw [grp_aw] at h1 h2
    obtain ⟨af, cf, hfv, _, _⟩ := own_form h1
    obtain ⟨ac, cc, hcv, _, _⟩ := own_form h2
    subst hfv
    subst hcv
    have HR := hide (h2.row rfl)
    have HBX := hide (Below.on HBW.out h4)
    clear h1 h2 h4 HG
    have HC1 : Hid (Calls Tryd.prog 5 #[.string ⟨#[97, 42, 99]⟩, .string ⟨#[97, 98, 98, 99]⟩] X fun e w' => e = .returned (.bool true) ∧ ∃ n, w' = X.drewN n) := hide (by
      have h9 := match_l [97, 42, 99] [97, 98, 98, 99] X (HM.out.below HBX.out) (by simp) (by simp)
      rw [gl_aw1] at h9
      exact h9)
    have HC2 : Hid (∀ m, Calls Tryd.prog 5 #[.string ⟨#[97, 42, 99]⟩, .string ⟨#[97, 98, 98]⟩] (X.drewN m) fun e w' => e = .returned (.bool false) ∧ ∃ n, w' = (X.drewN m).drewN n) := hide (fun m => by
      have h9 := match_l [97, 42, 99] [97, 98, 98] (X.drewN m) ((HM.out.below HBX.out).drew m) (by simp) (by simp)
      rw [gl_aw2] at h9
      exact h9)
    go_wp2_with fail
    refine HC1.out.mono ?_
    rintro e9 X1 ⟨rfl, m1, rfl⟩
    go_wp2_with fail
    refine (HC2.out m1).mono ?_
    rintro e9 X2 ⟨rfl, m2, rfl⟩
    obtain ⟨X3, hX3⟩ : ∃ X3, X3 = (X.drewN m1).drewN m2 := ⟨_, rfl⟩
    have hb3 : Below X.heap.size X X3 := by rw [hX3]; exact below_drewN (below_drewN (Below.refl _ _) m1) m2
    rw [← hX3]
    have HR3 := hide (HR.out.below hb3)
    have HB3 := hide (Below.on HBX.out hb3)
    clear hX3 hb3 HC1 HC2
    obtain ⟨X4, hX4⟩ : ∃ X4, X4 = X3.alloc (.cells #[.int .i64 2] 3) := ⟨_, rfl⟩
    have hb4 : Below X3.heap.size X3 X4 := by rw [hX4]; exact below_alloc1 _ _
    have hT2 : TRow sI X4 (some ⟨X3.heap.size, 0, none⟩) 1 [2] := by rw [hX4]; exact TRow.one (heap_new _ _)
    have HS := hide (s_ints ac (some ⟨X3.heap.size, 0, none⟩) 1 cc 1 [2] X4 (HR3.out.below hb4) hT2 (by omega))
    have HB4 := hide (Below.on HB3.out hb4)
    have HX4 := hide hX4
    clear hX4 hb4 hT2
    go_wp2_with fail
    rw [← HX4.out]
    refine HS.out.mono ?_
    rintro e9 X5 ⟨rfl, hb5⟩
    have HB5 := hide (Below.on HB4.out hb5)
    clear hb5
    go_wp2
    go_ret
    exact ⟨rfl, HB5.out⟩
  · exact absurd hbad (by decide)
end Go.Proofs.YtnengkdddckjaaaDoor
