import Derived.Test.YtafkammiehcdjaaGreatDoorZs29
import Derived.Test.YtafkammiehcdjaaGreatDoorZs33
import Derived.Test.YtafkammiehcdjaaGreatDoorZs35
/-
  refused.
-/
namespace Go.Proofs.YtafkammiehcdjaaGreatDoor
open Go.RowKit Go.Maps Go.Shelf
theorem erow_cells {w : World} {b off n : Nat} {ps : List E6.Ev} (h : E6.ERow w (some ⟨b, off, none⟩) n ps) : ∀ j u, (E6.ecells ps)[j]? = some u → w.cell? ((⟨b, off, none⟩ : Addr).add j) = some u := by
  intro j u hj
  have hadd : (⟨b, off, none⟩ : Addr).add j = ⟨b, off + j, none⟩ := by unfold Addr.add; split <;> simp_all
  rw [hadd]
  have hlen : (E6.ecells ps).length = ps.length * 5 := by
    clear hj h
    induction ps with
    | nil => rfl
    | cons x l ih => rw [E6.ecells, List.length_append, ih, List.length_cons]; simp [E6.ecell]; omega
  have hlt := (List.getElem?_eq_some_iff.1 hj).1
  have hq : j / 5 < n := by rw [← h.len]; omega
  obtain ⟨b', off', e, he, hej, c0, c1, c2, c3, c4, _⟩ := h.at hq
  cases he
  have hj5 : j = j / 5 * 5 + j % 5 := by omega
  have hm : j % 5 < 5 := Nat.mod_lt _ (by omega)
  rw [hj5, E6.ecells_get hej hm] at hj
  rw [hj5]
  generalize j / 5 = q at *
  generalize j % 5 = r at *
  have hr : r = 0 ∨ r = 1 ∨ r = 2 ∨ r = 3 ∨ r = 4 := by omega
  rcases hr with rfl | rfl | rfl | rfl | rfl
  all_goals simp [E6.ecell] at hj; subst hj
  · exact c0
  · exact c1
  · exact c2
  · exact c3
  · exact c4
theorem ecells_one (ps : List E6.Ev) : ∀ u ∈ E6.ecells ps, u.oneCell' = true := by
  induction ps with
  | nil => intro u hu; cases hu
  | cons x l ih =>
    intro u hu
    rw [E6.ecells] at hu
    rcases List.mem_append.1 hu with hu | hu
    · simp [E6.ecell] at hu; rcases hu with rfl | rfl | rfl | rfl | rfl <;> rfl
    · exact ih u hu
theorem ecells_len (ps : List E6.Ev) : (E6.ecells ps).length = ps.length * 5 := by
  induction ps with
  | nil => rfl
  | cons x l ih => rw [E6.ecells, List.length_append, ih, List.length_cons]; simp [E6.ecell]; omega
/-- 'append(nil, t...)' of events. -/
theorem append_evs (w : World) {ops : Array Oper} {rest : List Oper} {o : Oper} {a : Act} {Q : Exit → Act → World → Prop} (hgd : o.guard = none) (s x : Operand)
    (ho : o.op = .call { callee := .builtin .append, args := #[s, x], argTypes := #[22, 22] }) (base : Nat) (hs : a.eval s = .slice none 0 0)
    (b off m c : Nat) (ps : List E6.Ev) (hx : a.eval x = .slice (some ⟨b, off, none⟩) m c) (hr : E6.ERow w (some ⟨b, off, none⟩) m ps)
    (hm : m * 56 ≤ 140737488355328) (hbase : base ≤ w.heap.size)
    (h : ∀ (a' : Option Addr) (c' : Nat) w', w'.ownsRow base 36 5 (.slice a' m c') m (E6.ecells ps) → w.grownBy w' none → wpList Tryz.prog ops Q rest (a.put o.dst (.slice a' m c')) w') : wpList Tryz.prog ops Q (o :: rest) a w := by
  obtain ⟨i0, hi, hz0, hz1, hz2⟩ := info_parts E6.Tryz.infoEvent
  refine wpList_append_own_at w hgd s x 22 ho base 36 i0 _ 5 56 Tryz.underlying22 hi hz0 hz1 hz2 rfl (by decide) (.slice none 0 0) 0 [] hs (World.ownsRow_nil _ _ _ _) ⟨b, off, none⟩ m c (E6.ecells ps) hx (by rw [ecells_len, hr.len]) (erow_cells hr) (ecells_one ps) (by unfold maxLen; omega) (by omega) hbase ?_
  intro v' w' h1 h2 _ _
  rw [Nat.zero_add, List.nil_append] at h1
  obtain ⟨a', c', rfl⟩ := E6.own_form h1
  exact h a' c' w' h1 h2
theorem erow_s {w : World} {a : Option Addr} {n : Nat} {ps : List E6.Ev} (h : E6.ERow w a n ps) : ∀ f ∈ ps, E6.SRow w f.sa f.ls.length f.ls := by
  intro f hf
  obtain ⟨i, hi, e0⟩ := List.getElem_of_mem hf
  obtain ⟨b, off, e, _, he, _, _, _, _, _, hs⟩ := h.at (i := i) (by rw [← h.len]; exact hi)
  rw [List.getElem?_eq_getElem hi, e0] at he
  cases he
  exact hs
theorem runV_err {es : List E6.Ev} (h : (runV es).2.2 = 0) : (E6.bounds es).2 = 0 := by
  by_cases h1 : (E6.bounds es).2 = 0
  · exact h1
  · unfold runV at h; rw [if_pos h1] at h; exact absurd h h1
theorem ref_math {ps : List E6.Ev} {e : E6.Ev} {M : CS} {i : Nat} (hP : ∀ tail, CS.new.run (ps ++ tail) 0 = M.run tail i) (h3 : (runV (ps ++ [e])).2.2 = 0) (h1 : ¬ (runV (ps ++ [e])).1 < 0) :
    e.chk = 0 ∧ M.why (me e) ≠ 0 ∧ (runV (ps ++ [e])).1 = i ∧ (runV (ps ++ [e])).2.1 = M.why (me e) := by
  have hb := runV_err h3
  rw [runV_zero hb, hP [e]] at h1 ⊢
  dsimp only at h1 ⊢
  rw [CS.run] at h1 ⊢
  by_cases hw : M.why (me e) ≠ 0
  · rw [if_pos hw]
    exact ⟨(bounds_zero hb).2 e (by simp), hw, rfl, rfl⟩
  · rw [if_neg hw] at h1
    exact absurd (by show (-1 : Int) < 0; decide) h1
theorem own_grown {W w2 w3 : World} {ob : Obj} {v : Value} {n : Nat} {xs : List Value} (hb : Below W.heap.size W w2) (ho : w2.ownsRow W.heap.size 36 5 v n xs) (g2 : (w2.alloc ob).grownBy w3 v.ownBlock) : Below W.heap.size W w3 := by
  have hb2 : Below W.heap.size W (w2.alloc ob) := hb.trans ((below_alloc1 w2 _).mono hb.size)
  exact hb2.trans (((But.refl (fun k => W.heap.size ≤ k) _).grown g2 (fun k _ e => ((ho.alloc ob).lt k e).1)).below hb2.size (fun k e => e))
set_option maxRecDepth 8000 in
set_option maxHeartbeats 4000000 in
theorem refused_any {w0 wr : World} {cb b off i c : Nat} {M : CS} {ps : List E6.Ev} {e : E6.Ev} (h : RSt w0 wr cb M) (hK : E6.Kr w0) (hr : E6.ERow wr (some ⟨b, off, none⟩) i ps) (hok : ∀ e ∈ ps, e.ok) (hoe : e.ok) (hse : E6.SRow wr e.sa e.ls.length e.ls)
    (hP : ∀ tail, CS.new.run (ps ++ tail) 0 = M.run tail i) (htk : M.taken = i) (hi : i < 1048576) :
    Calls Tryz.prog 13 #[gPtr cb, .slice (some ⟨b, off, none⟩) i c, .agg #[.int .i64 e.g, .int .i64 e.k, .int .u64 e.o, .int .u64 e.a, .slice e.sa e.ls.length e.sc]] wr fun r w' => r = .returned (.bool true) ∧ RSt w0 w' cb M := by
  obtain ⟨W, hW⟩ : ∃ W, W = wr.alloc (.cells #[.int .i64 e.g, .int .i64 e.k, .int .u64 e.o, .int .u64 e.a, .slice e.sa e.ls.length e.sc] 36) := ⟨_, rfl⟩
  have hb : Below wr.heap.size wr W := by rw [hW]; exact below_alloc1 wr _
  have hsz := hK.size
  have hE : E6.EvB W wr.heap.size e.g e.k e.o e.a e.sa e.ls.length e.sc := by rw [hW]; exact E6.EvB.new
  have HS := hide (h.on hb)
  have HK := hide (hK.below h.bel (by omega))
  have HK0 := hide hK
  have HRw := hide (hr.bel hb)
  have HR0 := hide hr
  have HO := hide hok
  have HOe := hide hoe
  have HSe := hide hse
  have HP := hide hP
  have HTk := hide htk
  have HB := hide hb
  have HW := hide hW
  have HE := hide hE
  have hwz : W.heap.size = wr.heap.size + 1 := by rw [hW, World.size_alloc]
  have HWz := hide hwz
  have HM56 : Hid ((i + 1) * 56 ≤ 140737488355328) := hide (by omega)
  have HI := hide hi
  have hiI : (i : Int) < 1048576 := by omega
  have hrz := Nat.lt_of_lt_of_le (by omega : 0 < w0.heap.size) h.bel.size
  clear h hK hr hok hoe hse hP htk hb hW hE hwz hi hsz
  unfold gPtr
  go_enter Tryz.func13, Tryz.ntmps13
  go_wp2_with (first
    | (at_builtin; rw [← HW.out]; refine append_evs _ rfl _ _ rfl W.heap.size rfl b off i c ps rfl HRw.out (by have := HM56.out; omega) (Nat.le_refl _) ?_
       intro a1 c1 w2 o1 g1
       have b1 : Below W.heap.size W w2 := ⟨g1.os, g1.tape, g1.output, g1.size, fun k hk => g1.block k hk (by simp)⟩
       have hE2 := HE.out.below b1
       have p0 := hE2.c0
       have p1 := hE2.c1
       have p2 := hE2.c2
       have p3 := hE2.c3
       have p4 := hE2.c4
       have hl2 := hE2.lt
       have HE2 := hide hE2
       have HB1 := hide b1
       have HO1 := hide o1
       clear o1 g1 b1 hE2)
    | (at_builtin; refine E6.append_ev _ rfl _ _ rfl W.heap.size (.slice a1 i c1) i ps rfl (HO1.out.alloc _) w2.heap.size e rfl E6.EvB.new HM56.out (Nat.le_trans HB1.out.size (by simp)) ?_
       intro a2 c2 w3 o2 g2 _
       have k2 : Below W.heap.size W w3 := own_grown HB1.out HO1.out g2
       have HB2 := hide k2
       have HO2 := hide o2
       clear o2 g2 k2))
  have hokA : ∀ f ∈ ps ++ [e], f.ok := by
    intro f hf
    rcases List.mem_append.1 hf with hf | hf
    · exact HO.out f hf
    · rw [List.mem_singleton.1 hf]; exact HOe.out
  obtain ⟨a3, c3, hv3, hrow3, hle3, hn3⟩ := E6.erow_own HO2.out (by rw [List.length_append, HR0.out.len]; rfl) (fun f hf => by
    rcases List.mem_append.1 hf with hf | hf
    · exact E6.SRow.bel (E6.SRow.bel (erow_s HR0.out f hf) HB.out) HB2.out
    · rw [List.mem_singleton.1 hf]; exact E6.SRow.bel (E6.SRow.bel HSe.out HB.out) HB2.out)
  cases hv3
  have hS3 := HS.out.on HB2.out
  have HS3 := hide hS3
  have HTw := hide (twin_all a2 (i + 1) c2 (ps ++ [e]) w3 hrow3 hokA HM56.out hn3)
  have hE3 := HE.out.below HB2.out
  have HE3 := hide hE3
  clear hokA hrow3 hle3 hn3 hS3 hE3 p0 p1 p2 p3 p4 hl2
  refine HTw.out.mono ?_
  rintro r w4 ⟨a4, c4, fs, rfl, hrow4, hok4, hv4, _, hb4⟩
  have hS4 := HS3.out.on hb4
  have HRun := hide (Run_any a4 (i + 1) c4 fs w4 (HK0.out.below hS4.bel (by have := HK0.out.size; omega)) hrow4 hok4 (by have := HI.out; omega))
  rw [hv4] at HRun
  have HS4 := hide hS4
  have HE4 := hide (HE3.out.below hb4)
  have HB4 := hide hb4
  obtain ⟨R1, hR1⟩ : ∃ R1, R1 = (runV (ps ++ [e])).1 := ⟨_, rfl⟩
  obtain ⟨R2, hR2⟩ : ∃ R2, R2 = (runV (ps ++ [e])).2.1 := ⟨_, rfl⟩
  obtain ⟨R3, hR3⟩ : ∃ R3, R3 = (runV (ps ++ [e])).2.2 := ⟨_, rfl⟩
  rw [← hR1, ← hR2, ← hR3] at HRun
  have HR1 := hide hR1
  have HR2 := hide hR2
  have HR3 := hide hR3
  clear hrow4 hok4 hv4 hb4 hS4 hR1 hR2 hR3 HTw
  go_wp2_with fail
  refine HRun.out.mono ?_
  rintro r w5 ⟨rfl, hb5⟩
  have HS5 := hide (HS4.out.on hb5)
  have hE5 := HE4.out.below hb5
  have p0 := hE5.c0
  have p1 := hE5.c1
  have p2 := hE5.c2
  have p3 := hE5.c3
  have p4 := hE5.c4
  have hl5 := hE5.lt
  have HSe5 : Hid (E6.SRow w5 e.sa e.ls.length e.ls) := hide (E6.SRow.bel (E6.SRow.bel (E6.SRow.bel (E6.SRow.bel HSe.out HB.out) HB2.out) HB4.out) hb5)
  clear hb5 hE5 HRun
  by_cases h3 : R3 = 0
  · have h3b : (R3 != 0) = false := by simp [h3]
    by_cases h1 : R1 < 0
    · have h1b : decide (R1 < 0) = true := decide_eq_true h1
      go_wp2
      go_ret
      exact ⟨rfl, HS5.out⟩
    · have h1b : decide (R1 < 0) = false := decide_eq_false h1
      obtain ⟨m1, m2, m3, m4⟩ := ref_math HP.out (by rw [← HR3.out]; exact h3) (by rw [← HR1.out]; exact h1)
      rw [← HR1.out] at m3
      rw [← HR2.out] at m4
      have HAd := hide (HS5.out.add (by rw [HTk.out]; have := HI.out; omega) HK0.out e HOe.out HSe5.out)
      unfold gPtr at HAd
      rw [m1] at HAd
      obtain ⟨z1, z2, z3⟩ := add_why (M := M) (by rw [HTk.out]; have := HI.out; omega) (me e)
      rw [z1, z2, z3, if_pos m2, ← m4] at HAd
      subst m3
      clear m1 m2 m4 z1 z2 z3 h1b h1
      have h1b : decide ((i : Int) < 0) = false := by simp
      go_wp2_with fail
      refine HAd.out.mono ?_
      rintro r w6 ⟨rfl, hs6⟩
      have HS6 := hide hs6
      clear hs6 HAd
      go_wp2
      go_ret
      exact ⟨rfl, HS6.out⟩
  · have h3b : (R3 != 0) = true := by simp [h3]
    go_wp2
    go_ret
    exact ⟨rfl, HS5.out⟩
end Go.Proofs.YtafkammiehcdjaaGreatDoor
/-
  awake.
-/
namespace Go.Proofs.YtafkammiehcdjaaGreatDoor
open Go.RowKit Go.Maps Go.Shelf
theorem bnd_plain : ∀ (es : List E6.Ev) (i : Nat), (∀ e ∈ es, e.chk = 0 ∧ e.ls = []) → E6.bnd es i [] [] = (-1, 0) := by
  intro es
  induction es with
  | nil => intro i _; rfl
  | cons e es ih =>
    intro i h
    obtain ⟨h1, h2⟩ := h e (by simp)
    rw [E6.bnd, if_pos h1, h2]
    have hR : E6.Roomy [] ([] : List E6.Nd).length (E6.left [] [] []).2.reverse := ⟨fun t ht => (by cases ht), by decide, by decide, by decide⟩
    rw [if_pos hR]
    exact ih (i + 1) (fun f hf => h f (by simp [hf]))
def evF : E6.Ev := ⟨0, 7, 0, 1, none, 0, []⟩
def evW : E6.Ev := ⟨1, 2, 8, 4, none, 0, []⟩
def evJ : E6.Ev := ⟨0, 8, 0, 1, none, 0, []⟩
def evA : E6.Ev := ⟨0, 3, 7, 0, none, 0, []⟩
theorem runV_one : runV [evF, evW, evJ] = (-1, 0, 0) := by
  have hb : (E6.bounds [evF, evW, evJ]).2 = 0 := by
    unfold E6.bounds
    rw [if_pos (by decide), bnd_plain _ _ (fun e he => by
      simp at he
      rcases he with rfl | rfl | rfl <;> exact ⟨by kernel_rfl, rfl⟩)]
  rw [runV_zero hb]
  have h9 : CS.new.run [evF, evW, evJ] 0 = (-1, 0) := by kernel_rfl
  rw [h9]
theorem runV_two : runV [evA, evA] = (1, 4, 0) := by
  have hb : (E6.bounds [evA, evA]).2 = 0 := by
    unfold E6.bounds
    rw [if_pos (by decide), bnd_plain _ _ (fun e he => by
      simp at he
      rcases he with rfl <;> exact ⟨by kernel_rfl, rfl⟩)]
  rw [runV_zero hb]
  have h9 : CS.new.run [evA, evA] 0 = (1, 4) := by kernel_rfl
  rw [h9]
def evsC (es : List E6.Ev) : Array Value := (E6.ecells es).toArray
theorem erow_lit (w : World) (es : List E6.Ev) (hs : ∀ e ∈ es, e.sa = none ∧ e.ls = []) : E6.ERow (w.alloc (.cells (evsC es) 36)) (some ⟨w.heap.size, 0, none⟩) es.length es := by
  have hh : (w.alloc (.cells (evsC es) 36)).heap[w.heap.size]? = some (.cells (evsC es) 36 (0, 0)) := heap_new _ _
  refine ⟨rfl, .inr ⟨w.heap.size, 0, rfl, fun i e he => ?_⟩⟩
  have hc : ∀ t (ht : t < 5), (w.alloc (.cells (evsC es) 36)).cell? ⟨w.heap.size, 0 + i * 5 + t, none⟩ = (E6.ecell e)[t]? := by
    intro t ht
    rw [cell_of_row _ _ _ _ 36 (0, 0) hh, Nat.zero_add]
    unfold evsC
    rw [List.getElem?_toArray]
    exact E6.ecells_get he ht
  obtain ⟨h1, h2⟩ := hs e (List.mem_of_getElem? he)
  refine ⟨hc 0 (by omega), hc 1 (by omega), hc 2 (by omega), hc 3 (by omega), hc 4 (by omega), ?_⟩
  show E6.SRow _ e.sa e.ls.length e.ls
  rw [h2]
  exact ⟨rfl, .inl rfl⟩
set_option maxRecDepth 8000 in
theorem awake_any (w : World) (hK : E6.Kr w) : Calls Tryz.prog 8 #[] w fun e w' => e = .returned (.bool true) ∧ Below w.heap.size w w' := by
  have hok : ∀ e ∈ [evF, evW, evJ], e.ok := by
    intro e he
    simp at he
    rcases he with rfl | rfl | rfl
    all_goals exact ⟨⟨by decide, by decide⟩, ⟨by decide, by decide⟩, by decide, fun s hs => (by cases hs), by decide, fun _ => ⟨rfl, rfl⟩⟩
  have hok2 : ∀ e ∈ [evA, evA], e.ok := by
    intro e he
    simp at he
    rcases he with rfl
    all_goals exact ⟨⟨by decide, by decide⟩, ⟨by decide, by decide⟩, by decide, fun s hs => (by cases hs), by decide, fun _ => ⟨rfl, rfl⟩⟩
  have hsz := hK.size
  obtain ⟨W1, hW1⟩ : ∃ W1, W1 = w.alloc (.cells (evsC [evF, evW, evJ]) 36) := ⟨_, rfl⟩
  have hb1 : Below w.heap.size w W1 := by rw [hW1]; exact below_alloc1 w _
  have hr1 : E6.ERow W1 (some ⟨w.heap.size, 0, none⟩) 3 [evF, evW, evJ] := by
    rw [hW1]; exact erow_lit w _ (fun e he => by simp at he; rcases he with rfl | rfl | rfl <;> exact ⟨rfl, rfl⟩)
  have HR1 := hide (Run_any (some ⟨w.heap.size, 0, none⟩) 3 3 [evF, evW, evJ] W1 (hK.below hb1 (by omega)) hr1 hok (by decide))
  rw [runV_one] at HR1
  have HB1 := hide hb1
  have HW1 := hide hW1
  have HK := hide hK
  have HO2 := hide hok2
  clear hok hok2 hW1 hb1 hr1 hK
  have HR1' := HR1
  rw [HW1.out] at HR1'
  go_enter Tryz.func8, Tryz.ntmps8
  go_wp2_with fail
  refine HR1'.out.mono ?_
  rintro e w2 ⟨rfl, hb2⟩
  rw [← HW1.out] at hb2
  have HB2 := hide (Below.on HB1.out hb2)
  obtain ⟨W3, hW3⟩ : ∃ W3, W3 = w2.alloc (.cells (evsC [evA, evA]) 36) := ⟨_, rfl⟩
  have hb3 : Below w2.heap.size w2 W3 := by rw [hW3]; exact below_alloc1 w2 _
  have hr3 : E6.ERow W3 (some ⟨w2.heap.size, 0, none⟩) 2 [evA, evA] := by
    rw [hW3]; exact erow_lit w2 _ (fun e he => by simp at he; rcases he with rfl <;> exact ⟨rfl, rfl⟩)
  have hb30 := Below.on HB2.out hb3
  have HR3 := hide (Run_any (some ⟨w2.heap.size, 0, none⟩) 2 2 [evA, evA] W3 (HK.out.below hb30 (by omega)) hr3 HO2.out (by decide))
  rw [runV_two] at HR3
  have HB3 := hide hb30
  have HW3 := hide hW3
  clear hb2 hW3 hb3 hr3 hb30 HR1 HR1' HW1
  have HR3' := HR3
  rw [HW3.out] at HR3'
  go_wp2_with fail
  refine HR3'.out.mono ?_
  rintro e w4 ⟨rfl, hb4⟩
  rw [← HW3.out] at hb4
  have HB4 := hide (Below.on HB3.out hb4)
  clear hb4 HR3 HR3' HW3
  go_wp2
  go_ret
  exact ⟨rfl, HB4.out⟩
end Go.Proofs.YtafkammiehcdjaaGreatDoor
/-
  What CheckSafe holds in memory, and its steps.
-/
namespace Go.Proofs.YtafkammiehcdjaaGreatDoor.E6
open Go.RowKit Go.Maps Go.Shelf
/-- 'append(l, e)' of one event in a region that draws, l the call's own. -/
theorem step_ev {ops : Array Oper} {o : Oper} {a : Act} {w : World} {K : Act → World → Prop} {Q : Exit → Act → World → Prop} {E : Prop}
    (hg : o.guard = none) (s x : Operand) (hop : o.op = Op.call { callee := Callee.builtin Builtin.append, args := #[s, x], argTypes := #[22, 22] })
    (base : Nat) (v : Value) (n : Nat) (L : List Ev) (hs : a.eval s = v) (hown : w.ownsRow base 36 5 v n (ecells L))
    (X : Nat) (e : Ev) (hx : a.eval x = .slice (some ⟨X, 0, none⟩) 1 1) (hc : EvB w X e.g e.k e.o e.a e.sa e.ls.length e.sc)
    (hb : (n + 1) * 56 ≤ 140737488355328) (hbase : base ≤ w.heap.size)
    (h : ∀ (a' : Option Addr) (c' : Nat) w', w'.ownsRow base 36 5 (.slice a' (n + 1) c') (n + 1) (ecells (L ++ [e])) → w.grownBy w' v.ownBlock → ((Value.slice a' (n + 1) c').ownBlock = v.ownBlock ∨ (Value.slice a' (n + 1) c').ownBlock = some w.heap.size) → K (a.put o.dst (.slice a' (n + 1) c')) w') :
    if Region.wanted o (yielded ops a.tmps) = true then Oper.wp Tryz.prog o a w K Q else E := by
  have hw : Region.wanted o (yielded ops a.tmps) = true := by simp [Region.wanted, hg]
  rw [if_pos hw]
  obtain ⟨i0, hi, hz0, hz1, hz2⟩ := info_parts Tryz.infoEvent
  obtain ⟨v', w', hrun, h2, h3, _, h5⟩ := run_append_own_at (P := Tryz.prog) w base 22 o.type 36 i0 _ 5 56 Tryz.underlying22 hi hz0 hz1 hz2 rfl (by decide) v n _ hown ⟨X, 0, none⟩ 1 1 (ecell e) rfl
    (by intro t u ht
        match t, ht with
        | 0, ht => simp [ecell] at ht; subst ht; simpa [Addr.add] using hc.c0
        | 1, ht => simp [ecell] at ht; subst ht; simpa [Addr.add] using hc.c1
        | 2, ht => simp [ecell] at ht; subst ht; simpa [Addr.add] using hc.c2
        | 3, ht => simp [ecell] at ht; subst ht; simpa [Addr.add] using hc.c3
        | 4, ht => simp [ecell] at ht; subst ht; simpa [Addr.add] using hc.c4
        | k + 5, ht => simp [ecell] at ht)
    (by intro u hu; simp [ecell] at hu; rcases hu with rfl | rfl | rfl | rfl | rfl <;> rfl) (by unfold maxLen; omega) (by omega) hbase
  obtain ⟨a', c', rfl⟩ := own_form h2
  unfold Oper.wp execOp
  simp only [hop, resolve, invoke, builtin, Sem.run_bind, Sem.run_pure, Result.andThen_ok, List.map_toArray, List.map_cons, List.map_nil, hs, hx, hrun]
  exact h a' c' w' (by rw [ecells_snoc]; exact h2) h3 h5
end Go.Proofs.YtafkammiehcdjaaGreatDoor.E6
namespace Go.Proofs.YtafkammiehcdjaaGreatDoor
open Go.RowKit Go.Maps Go.Shelf
set_option linter.unusedVariables false
theorem ofLk_rg (T : List Me) (e : Me) (R : Int) (h : ofLk T e = R) : 0 ≤ R ∧ R ≤ 28 := by
  unfold ofLk at h
  repeat' split at h
  all_goals omega
theorem ofGr_rg (T : List Me) (e : Me) (R : Int) (h : ofGr T e = R) : 0 ≤ R ∧ R ≤ 28 := by
  unfold ofGr at h
  repeat' split at h
  all_goals omega
theorem ofCh_rg (T : List Me) (e : Me) (R : Int) (h : ofCh T e = R) : 0 ≤ R ∧ R ≤ 28 := by
  unfold ofCh at h
  repeat' split at h
  all_goals omega
theorem ofOt_rg (T : List Me) (e : Me) (R : Int) (h : ofOt T e = R) : 0 ≤ R ∧ R ≤ 28 := by
  unfold ofOt at h
  repeat' split at h
  all_goals omega
theorem rsn_rg (T : List Me) (e : Me) : 0 ≤ rsn T e ∧ rsn T e ≤ 28 := by
  obtain ⟨R, h⟩ : ∃ R, rsn T e = R := ⟨_, rfl⟩
  rw [h]
  have h1 := ofLk_rg T e _ rfl
  have h2 := ofGr_rg T e _ rfl
  have h3 := ofCh_rg T e _ rfl
  have h4 := ofOt_rg T e _ rfl
  unfold rsn at h
  generalize ofLk T e = a1 at h h1
  generalize ofGr T e = a2 at h h2
  generalize ofCh T e = a3 at h h3
  generalize ofOt T e = a4 at h h4
  by_cases q1 : bgT T e.g = false
  · rw [if_pos q1] at h; omega
  rw [if_neg q1] at h
  by_cases q2 : nmd T 8 e.g = true
  · rw [if_pos q2] at h; omega
  rw [if_neg q2] at h
  cases hd : dueT T e.g with
  | none =>
    rw [hd] at h
    dsimp only at h
    rw [if_neg (by decide)] at h
    repeat' split at h
    all_goals omega
  | some d =>
    rw [hd] at h
    dsimp only at h
    by_cases q3 : decide (e.k ≠ 11 ∨ e.o ≠ d.1) = true
    · rw [if_pos q3] at h; omega
    · rw [if_neg q3] at h
      repeat' split at h
      all_goals omega
/-- In memory: the checker, the events that were taken, the goroutines that were begun. -/
structure Sf (w wr : World) (cb wb : Nat) (M : CS) (vt : Value) (ps : List E6.Ev) (vg : Value) (gs : List Int) : Prop where
  ck : ∃ B F, Ck wr cb B F M (M.taken + 1) ∧ (∀ k, k < w.heap.size → F k = none) ∧ F wb = none ∧ (∀ k, vt.ownBlock = some k → F k = none) ∧ ∀ k, vg.ownBlock = some k → F k = none
  inv : M.inv
  wc : wr.heap[wb]? = some (.cells #[vt] 42 (0, 0))
  wge : w.heap.size ≤ wb
  ot : wr.ownsRow w.heap.size 36 5 vt ps.length (E6.ecells ps)
  og : Own layI 3 wr w.heap.size vg gs
  bel : Below w.heap.size w wr
section
variable {w wr w' : World} {cb wb : Nat} {M : CS} {vt vg : Value} {ps : List E6.Ev} {gs : List Int}
theorem row_not {w : World} {base n k : Nat} {e : TypeId} {z : Nat} {v : Value} {xs : List Value} {cs : Array Value} {t : TypeId} (h : w.ownsRow base e z v n xs) (hk : w.heap[k]? = some (.cells cs t (0, 0))) (hne : e ≠ t) : v.ownBlock ≠ some k := by
  intro hv
  rcases h.2 with ⟨h1, _⟩ | ⟨g, c, cur, h1, _, h2, _⟩
  · rw [h1] at hv; simp [Value.ownBlock] at hv
  · rw [h1] at hv
    simp [Value.ownBlock] at hv
    subst hv
    rw [hk] at h2
    simp at h2
    exact hne h2.2.symm
theorem Sf.on (h : Sf w wr cb wb M vt ps vg gs) (hb : Below wr.heap.size wr w') : Sf w w' cb wb M vt ps vg gs := by
  obtain ⟨B, F, h1, h2⟩ := h.ck
  exact ⟨⟨B, F, h1.below hb, h2⟩, h.inv, (hb.block wb (lt_of_heap h.wc)).trans h.wc, h.wge, own_but (S := fun _ => False) h.ot (But.of_below hb) (fun _ _ e => e), h.og.below hb, h.bel.trans (hb.mono h.bel.size)⟩
theorem Sf.add {M2 : CS} {B : Bl} {F : Nat → Option Lb} (h : Sf w wr cb wb M vt ps vg gs) (hF : (∀ k, k < w.heap.size → F k = none) ∧ F wb = none ∧ (∀ k, vt.ownBlock = some k → F k = none) ∧ ∀ k, vg.ownBlock = some k → F k = none) (hR : CkR wr cb F M2 (M2.taken + 1) w') (hi : M2.inv) : Sf w w' cb wb M2 vt ps vg gs := by
  obtain ⟨B', F', h1, h2, h3⟩ := hR
  obtain ⟨f1, f2, f3, f4⟩ := hF
  have hwl := lt_of_heap h.wc
  refine ⟨⟨B', F', h1, fun k hk => (h2 k (Nat.lt_of_lt_of_le hk h.bel.size)).trans (f1 k hk), (h2 wb hwl).trans f2, fun k hk => (h2 k (h.ot.lt k hk).2).trans (f3 k hk), fun k hk => (h2 k (h.og.lt k hk).2).trans (f4 k hk)⟩, hi, (h3.block wb hwl (fun e => e f2)).trans h.wc, h.wge, own_but h.ot h3 (fun k hk e => e (f3 k hk)), h.og.but h3 (fun k hk e => e (f4 k hk)), h.bel.trans (h3.below h.bel.size (fun k e => ?_))⟩
  by_cases hk : k < w.heap.size
  · exact absurd (f1 k hk) e
  · omega
theorem Sf.wc7 (h : Sf w wr cb wb M vt ps vg gs) (hg : wr.grownBy w' vt.ownBlock) : w'.heap[wb]? = some (.cells #[vt] 42 (0, 0)) :=
  ((But.of_grown (S := fun k => vt.ownBlock = some k) hg (fun k e => e)).block wb (lt_of_heap h.wc) (row_not h.ot h.wc (by decide))).trans h.wc
/-- The list of events has grown, and its place holds the new one. -/
theorem Sf.pushT {vt' : Value} {ps' : List E6.Ev} (h : Sf w wr cb wb M vt ps vg gs) (ho : w'.ownsRow w.heap.size 36 5 vt' ps'.length (E6.ecells ps')) (hg : wr.grownBy w' vt.ownBlock) (hn : vt'.ownBlock = vt.ownBlock ∨ vt'.ownBlock = some wr.heap.size ∨ ∀ k, vt'.ownBlock = some k → wr.heap.size ≤ k) : Sf w (w'.setCell ⟨wb, 0, none⟩ vt') cb wb M vt' ps' vg gs := by
  obtain ⟨B, F, h1, f1, f2, f3, f4⟩ := h.ck
  have hwl := lt_of_heap h.wc
  have hB : But (fun k => vt.ownBlock = some k) wr w' := But.of_grown hg (fun k e => e)
  have hB2 : But (fun k => vt.ownBlock = some k ∨ k = wb) wr (w'.setCell ⟨wb, 0, none⟩ vt') := (hB.mono (fun k e => .inl e)).setCell ⟨wb, 0, none⟩ (fun _ => .inr rfl) vt'
  have hwc : w'.heap[wb]? = some (.cells #[vt] 42 (0, 0)) := (hB.block wb hwl (row_not h.ot h.wc (by decide))).trans h.wc
  have hnv : vt'.ownBlock ≠ some wb := row_not ho hwc (by decide)
  have hgw : vg.ownBlock ≠ some wb := row_not h.og h.wc (by decide)
  have hgt : ∀ k, vg.ownBlock = some k → ¬ vt.ownBlock = some k := E6.own_ne h.og h.ot (by decide)
  refine ⟨⟨B, F, h1.but (X := fun _ => False) hB2 (fun k _ hs l hl => ?_) (FEx.refl _ _) (fun k l hl => Nat.lt_of_lt_of_le (h1.lt k l hl) hB2.size), f1, f2, fun k hk => ?_, f4⟩, h.inv, ?_, h.wge, ownsRow_setCell_other ho (a := ⟨wb, 0, none⟩) hnv vt', h.og.but hB2 (fun k hk e => ?_), ?_⟩
  · rcases hs with hs | hs
    · rw [f3 k hs] at hl; cases hl
    · subst hs; rw [f2] at hl; cases hl
  · have hnew : wr.heap.size ≤ k → F k = none := fun hk => by
      cases hq : F k with
      | none => rfl
      | some l => have := h1.lt k l hq; omega
    rcases hn with hn | hn | hn
    · exact f3 k (hn ▸ hk)
    · rw [hn] at hk; cases hk; exact hnew (Nat.le_refl _)
    · exact hnew (hn k hk)
  · rw [heap_setCell_same w' wb 0 _ _ vt' hwc]
    rfl
  · rcases e with e | e
    · exact hgt k hk e
    · subst e; exact hgw hk
  · have hb2 := hB2.below (B := w.heap.size) h.bel.size (fun k e => by
      rcases e with e | e
      · exact (h.ot.lt k e).1
      · subst e; exact h.wge)
    exact h.bel.trans hb2
theorem Sf.pushG {vg' : Value} {gs' : List Int} (h : Sf w wr cb wb M vt ps vg gs) (ho : Own layI 3 w' w.heap.size vg' gs') (hg : wr.grownBy w' vg.ownBlock) (hn : vg'.ownBlock = vg.ownBlock ∨ vg'.ownBlock = some wr.heap.size) : Sf w w' cb wb M vt ps vg' gs' := by
  obtain ⟨B, F, h1, f1, f2, f3, f4⟩ := h.ck
  have hwl := lt_of_heap h.wc
  have hB : But (fun k => vg.ownBlock = some k) wr w' := But.of_grown hg (fun k e => e)
  have hgw : vg.ownBlock ≠ some wb := row_not h.og h.wc (by decide)
  have hgt : ∀ k, vt.ownBlock = some k → ¬ vg.ownBlock = some k := E6.own_ne h.ot h.og (by decide)
  refine ⟨⟨B, F, h1.but (X := fun _ => False) hB (fun k _ hs l hl => ?_) (FEx.refl _ _) (fun k l hl => Nat.lt_of_lt_of_le (h1.lt k l hl) hB.size), f1, f2, f3, fun k hk => ?_⟩, h.inv, (hB.block wb hwl hgw).trans h.wc, h.wge, own_but h.ot hB (fun k hk e => hgt k hk e), ho, h.bel.trans (hB.below h.bel.size (fun k e => (h.og.lt k e).1))⟩
  · rw [f4 k hs] at hl; cases hl
  · rcases hn with hn | hn
    · exact f4 k (hn ▸ hk)
    · rw [hn] at hk
      cases hk
      cases hq : F wr.heap.size with
      | none => rfl
      | some l => have := h1.lt _ l hq; omega
end
end Go.Proofs.YtafkammiehcdjaaGreatDoor
