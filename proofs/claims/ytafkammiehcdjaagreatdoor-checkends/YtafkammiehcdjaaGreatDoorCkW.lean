/-
  refused.
-/
import Derived.Test.YtafkammiehcdjaaGreatDoorTwA
namespace Go.Proofs.YtafkammiehcdjaaGreatDoor
open Go.RowKit Go.Maps Go.Shelf
theorem erow_cells {w : World} {b off n : Nat} {ps : List E6.Ev} (h : E6.ERow w (some ⟨b, off, none⟩) n ps) : ∀ j u, (E6.ecells ps)[j]? = some u → w.cell? ((⟨b, off, none⟩ : Addr).add j) = some u := by
  intro j u hj
  have hadd : (⟨b, off, none⟩ : Addr).add j = ⟨b, off + j, none⟩ := by unfold Addr.add; split <;> simp_all
  rw [hadd]
  have hlen : (E6.ecells ps).length = ps.length * 5 := by
    clear hj h
    induction ps with
    | nil => rfl
    | cons x l ih => rw [E6.ecells, List.length_append, ih, List.length_cons]; simp [E6.ecell]; omega
  have hlt := (List.getElem?_eq_some_iff.1 hj).1
  have hq : j / 5 < n := by rw [← h.len]; omega
  obtain ⟨b', off', e, he, hej, c0, c1, c2, c3, c4, _⟩ := h.at hq
  cases he
  have hj5 : j = j / 5 * 5 + j % 5 := by omega
  have hm : j % 5 < 5 := Nat.mod_lt _ (by omega)
  rw [hj5, E6.ecells_get hej hm] at hj
  rw [hj5]
  generalize j / 5 = q at *
  generalize j % 5 = r at *
  have hr : r = 0 ∨ r = 1 ∨ r = 2 ∨ r = 3 ∨ r = 4 := by omega
  rcases hr with rfl | rfl | rfl | rfl | rfl
  all_goals simp [E6.ecell] at hj; subst hj
  · exact c0
  · exact c1
  · exact c2
  · exact c3
  · exact c4
theorem ecells_one (ps : List E6.Ev) : ∀ u ∈ E6.ecells ps, u.oneCell' = true := by
  induction ps with
  | nil => intro u hu; cases hu
  | cons x l ih =>
    intro u hu
    rw [E6.ecells] at hu
    rcases List.mem_append.1 hu with hu | hu
    · simp [E6.ecell] at hu; rcases hu with rfl | rfl | rfl | rfl | rfl <;> rfl
    · exact ih u hu
theorem ecells_len (ps : List E6.Ev) : (E6.ecells ps).length = ps.length * 5 := by
  induction ps with
  | nil => rfl
  | cons x l ih => rw [E6.ecells, List.length_append, ih, List.length_cons]; simp [E6.ecell]; omega
/-- 'append(nil, t...)' of events. -/
theorem append_evs (w : World) {ops : Array Oper} {rest : List Oper} {o : Oper} {a : Act} {Q : Exit → Act → World → Prop} (hgd : o.guard = none) (s x : Operand)
    (ho : o.op = .call { callee := .builtin .append, args := #[s, x], argTypes := #[22, 22] }) (base : Nat) (hs : a.eval s = .slice none 0 0)
    (b off m c : Nat) (ps : List E6.Ev) (hx : a.eval x = .slice (some ⟨b, off, none⟩) m c) (hr : E6.ERow w (some ⟨b, off, none⟩) m ps)
    (hm : m * 56 ≤ 140737488355328) (hbase : base ≤ w.heap.size)
    (h : ∀ (a' : Option Addr) (c' : Nat) w', w'.ownsRow base 36 5 (.slice a' m c') m (E6.ecells ps) → w.grownBy w' none → wpList Tryz.prog ops Q rest (a.put o.dst (.slice a' m c')) w') : wpList Tryz.prog ops Q (o :: rest) a w := by
  obtain ⟨i0, hi, hz0, hz1, hz2⟩ := info_parts E6.Tryz.infoEvent
  refine wpList_append_own_at w hgd s x 22 ho base 36 i0 _ 5 56 Tryz.underlying22 hi hz0 hz1 hz2 rfl (by decide) (.slice none 0 0) 0 [] hs (World.ownsRow_nil _ _ _ _) ⟨b, off, none⟩ m c (E6.ecells ps) hx (by rw [ecells_len, hr.len]) (erow_cells hr) (ecells_one ps) (by unfold maxLen; omega) (by omega) hbase ?_
  intro v' w' h1 h2 _ _
  rw [Nat.zero_add, List.nil_append] at h1
  obtain ⟨a', c', rfl⟩ := E6.own_form h1
  exact h a' c' w' h1 h2
theorem erow_s {w : World} {a : Option Addr} {n : Nat} {ps : List E6.Ev} (h : E6.ERow w a n ps) : ∀ f ∈ ps, E6.SRow w f.sa f.ls.length f.ls := by
  intro f hf
  obtain ⟨i, hi, e0⟩ := List.getElem_of_mem hf
  obtain ⟨b, off, e, _, he, _, _, _, _, _, hs⟩ := h.at (i := i) (by rw [← h.len]; exact hi)
  rw [List.getElem?_eq_getElem hi, e0] at he
  cases he
  exact hs
theorem runV_err {es : List E6.Ev} (h : (runV es).2.2 = 0) : (E6.bounds es).2 = 0 := by
  by_cases h1 : (E6.bounds es).2 = 0
  · exact h1
  · unfold runV at h; rw [if_pos h1] at h; exact absurd h h1
theorem ref_math {ps : List E6.Ev} {e : E6.Ev} {M : CS} {i : Nat} (hP : ∀ tail, CS.new.run (ps ++ tail) 0 = M.run tail i) (h3 : (runV (ps ++ [e])).2.2 = 0) (h1 : ¬ (runV (ps ++ [e])).1 < 0) :
    e.chk = 0 ∧ M.why (me e) ≠ 0 ∧ (runV (ps ++ [e])).1 = i ∧ (runV (ps ++ [e])).2.1 = M.why (me e) := by
  have hb := runV_err h3
  rw [runV_zero hb, hP [e]] at h1 ⊢
  dsimp only at h1 ⊢
  rw [CS.run] at h1 ⊢
  by_cases hw : M.why (me e) ≠ 0
  · rw [if_pos hw]
    exact ⟨(bounds_zero hb).2 e (by simp), hw, rfl, rfl⟩
  · rw [if_neg hw] at h1
    exact absurd (by show (-1 : Int) < 0; decide) h1
theorem own_grown {W w2 w3 : World} {ob : Obj} {v : Value} {n : Nat} {xs : List Value} (hb : Below W.heap.size W w2) (ho : w2.ownsRow W.heap.size 36 5 v n xs) (g2 : (w2.alloc ob).grownBy w3 v.ownBlock) : Below W.heap.size W w3 := by
  have hb2 : Below W.heap.size W (w2.alloc ob) := hb.trans ((below_alloc1 w2 _).mono hb.size)
  exact hb2.trans (((But.refl (fun k => W.heap.size ≤ k) _).grown g2 (fun k _ e => ((ho.alloc ob).lt k e).1)).below hb2.size (fun k e => e))
set_option maxRecDepth 8000 in
set_option maxHeartbeats 4000000 in
theorem refused_any {w0 wr : World} {cb b off i c : Nat} {M : CS} {ps : List E6.Ev} {e : E6.Ev} (h : RSt w0 wr cb M) (hK : E6.Kr w0) (hr : E6.ERow wr (some ⟨b, off, none⟩) i ps) (hok : ∀ e ∈ ps, e.ok) (hoe : e.ok) (hse : E6.SRow wr e.sa e.ls.length e.ls)
    (hP : ∀ tail, CS.new.run (ps ++ tail) 0 = M.run tail i) (htk : M.taken = i) (hi : i < 1048576) :
    Calls Tryz.prog 13 #[gPtr cb, .slice (some ⟨b, off, none⟩) i c, .agg #[.int .i64 e.g, .int .i64 e.k, .int .u64 e.o, .int .u64 e.a, .slice e.sa e.ls.length e.sc]] wr fun r w' => r = .returned (.bool true) ∧ RSt w0 w' cb M := by
  obtain ⟨W, hW⟩ : ∃ W, W = wr.alloc (.cells #[.int .i64 e.g, .int .i64 e.k, .int .u64 e.o, .int .u64 e.a, .slice e.sa e.ls.length e.sc] 36) := ⟨_, rfl⟩
  have hb : Below wr.heap.size wr W := by rw [hW]; exact below_alloc1 wr _
  have hsz := hK.size
  have hE : E6.EvB W wr.heap.size e.g e.k e.o e.a e.sa e.ls.length e.sc := by rw [hW]; exact E6.EvB.new
  have HS := hide (h.on hb)
  have HK := hide (hK.below h.bel (by omega))
  have HK0 := hide hK
  have HRw := hide (hr.bel hb)
  have HR0 := hide hr
  have HO := hide hok
  have HOe := hide hoe
  have HSe := hide hse
  have HP := hide hP
  have HTk := hide htk
  have HB := hide hb
  have HW := hide hW
  have HE := hide hE
  have hwz : W.heap.size = wr.heap.size + 1 := by rw [hW, World.size_alloc]
  have HWz := hide hwz
  have HM56 : Hid ((i + 1) * 56 ≤ 140737488355328) := hide (by omega)
  have HI := hide hi
  have hiI : (i : Int) < 1048576 := by omega
  have hrz := Nat.lt_of_lt_of_le (by omega : 0 < w0.heap.size) h.bel.size
  clear h hK hr hok hoe hse hP htk hb hW hE hwz hi hsz
  unfold gPtr
  go_enter Tryz.func13, Tryz.ntmps13
  go_wp2_with (first
    | (at_builtin; rw [← HW.out]; refine append_evs _ rfl _ _ rfl W.heap.size rfl b off i c ps rfl HRw.out (by have := HM56.out; omega) (Nat.le_refl _) ?_
       intro a1 c1 w2 o1 g1
       have b1 : Below W.heap.size W w2 := ⟨g1.os, g1.tape, g1.output, g1.size, fun k hk => g1.block k hk (by simp)⟩
       have hE2 := HE.out.below b1
       have p0 := hE2.c0
       have p1 := hE2.c1
       have p2 := hE2.c2
       have p3 := hE2.c3
       have p4 := hE2.c4
       have hl2 := hE2.lt
       have HE2 := hide hE2
       have HB1 := hide b1
       have HO1 := hide o1
       clear o1 g1 b1 hE2)
    | (at_builtin; refine E6.append_ev _ rfl _ _ rfl W.heap.size (.slice a1 i c1) i ps rfl (HO1.out.alloc _) w2.heap.size e rfl E6.EvB.new HM56.out (Nat.le_trans HB1.out.size (by simp)) ?_
       intro a2 c2 w3 o2 g2 _
       have k2 : Below W.heap.size W w3 := own_grown HB1.out HO1.out g2
       have HB2 := hide k2
       have HO2 := hide o2
       clear o2 g2 k2))
  have hokA : ∀ f ∈ ps ++ [e], f.ok := by
    intro f hf
    rcases List.mem_append.1 hf with hf | hf
    · exact HO.out f hf
    · rw [List.mem_singleton.1 hf]; exact HOe.out
  obtain ⟨a3, c3, hv3, hrow3, hle3, hn3⟩ := E6.erow_own HO2.out (by rw [List.length_append, HR0.out.len]; rfl) (fun f hf => by
    rcases List.mem_append.1 hf with hf | hf
    · exact E6.SRow.bel (E6.SRow.bel (erow_s HR0.out f hf) HB.out) HB2.out
    · rw [List.mem_singleton.1 hf]; exact E6.SRow.bel (E6.SRow.bel HSe.out HB.out) HB2.out)
  cases hv3
  have hS3 := HS.out.on HB2.out
  have HS3 := hide hS3
  have HTw := hide (twin_all a2 (i + 1) c2 (ps ++ [e]) w3 hrow3 hokA HM56.out hn3)
  have hE3 := HE.out.below HB2.out
  have HE3 := hide hE3
  clear hokA hrow3 hle3 hn3 hS3 hE3 p0 p1 p2 p3 p4 hl2
  refine HTw.out.mono ?_
  rintro r w4 ⟨a4, c4, fs, rfl, hrow4, hok4, hv4, _, hb4⟩
  have hS4 := HS3.out.on hb4
  have HRun := hide (Run_any a4 (i + 1) c4 fs w4 (HK0.out.below hS4.bel (by have := HK0.out.size; omega)) hrow4 hok4 (by have := HI.out; omega))
  rw [hv4] at HRun
  have HS4 := hide hS4
  have HE4 := hide (HE3.out.below hb4)
  have HB4 := hide hb4
  obtain ⟨R1, hR1⟩ : ∃ R1, R1 = (runV (ps ++ [e])).1 := ⟨_, rfl⟩
  obtain ⟨R2, hR2⟩ : ∃ R2, R2 = (runV (ps ++ [e])).2.1 := ⟨_, rfl⟩
  obtain ⟨R3, hR3⟩ : ∃ R3, R3 = (runV (ps ++ [e])).2.2 := ⟨_, rfl⟩
  rw [← hR1, ← hR2, ← hR3] at HRun
  have HR1 := hide hR1
  have HR2 := hide hR2
  have HR3 := hide hR3
  clear hrow4 hok4 hv4 hb4 hS4 hR1 hR2 hR3 HTw
  go_wp2_with fail
  refine HRun.out.mono ?_
  rintro r w5 ⟨rfl, hb5⟩
  have HS5 := hide (HS4.out.on hb5)
  have hE5 := HE4.out.below hb5
  have p0 := hE5.c0
  have p1 := hE5.c1
  have p2 := hE5.c2
  have p3 := hE5.c3
  have p4 := hE5.c4
  have hl5 := hE5.lt
  have HSe5 : Hid (E6.SRow w5 e.sa e.ls.length e.ls) := hide (E6.SRow.bel (E6.SRow.bel (E6.SRow.bel (E6.SRow.bel HSe.out HB.out) HB2.out) HB4.out) hb5)
  clear hb5 hE5 HRun
  by_cases h3 : R3 = 0
  · have h3b : (R3 != 0) = false := by simp [h3]
    by_cases h1 : R1 < 0
    · have h1b : decide (R1 < 0) = true := decide_eq_true h1
      go_wp2
      go_ret
      exact ⟨rfl, HS5.out⟩
    · have h1b : decide (R1 < 0) = false := decide_eq_false h1
      obtain ⟨m1, m2, m3, m4⟩ := ref_math HP.out (by rw [← HR3.out]; exact h3) (by rw [← HR1.out]; exact h1)
      rw [← HR1.out] at m3
      rw [← HR2.out] at m4
      have HAd := hide (HS5.out.add (by rw [HTk.out]; have := HI.out; omega) HK0.out e HOe.out HSe5.out)
      unfold gPtr at HAd
      rw [m1] at HAd
      obtain ⟨z1, z2, z3⟩ := add_why (M := M) (by rw [HTk.out]; have := HI.out; omega) (me e)
      rw [z1, z2, z3, if_pos m2, ← m4] at HAd
      subst m3
      clear m1 m2 m4 z1 z2 z3 h1b h1
      have h1b : decide ((i : Int) < 0) = false := by simp
      go_wp2_with fail
      refine HAd.out.mono ?_
      rintro r w6 ⟨rfl, hs6⟩
      have HS6 := hide hs6
      clear hs6 HAd
      go_wp2
      go_ret
      exact ⟨rfl, HS6.out⟩
  · have h3b : (R3 != 0) = true := by simp [h3]
    go_wp2
    go_ret
    exact ⟨rfl, HS5.out⟩
end Go.Proofs.YtafkammiehcdjaaGreatDoor
