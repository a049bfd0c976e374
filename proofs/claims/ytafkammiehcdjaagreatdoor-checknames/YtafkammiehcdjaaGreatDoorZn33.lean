import Derived.Test.YtafkammiehcdjaaGreatDoorZn29
import Derived.Test.YtafkammiehcdjaaGreatDoorZn32
import Derived.Test.YtafkammiehcdjaaGreatDoorZn06
import Derived.ProofKit
import Derived.OpenShut
import Derived.SizedLaws
import Derived.SliceStrings
import Derived.Deep.Slices
/-
  refused.
-/
namespace Go.Proofs.YtafkammiehcdjaaGreatDoor
open Go.RowKit Go.Maps Go.Shelf
theorem erow_cells {w : World} {b off n : Nat} {ps : List E6.Ev} (h : E6.ERow w (some ⟨b, off, none⟩) n ps) : ∀ j u, (E6.ecells ps)[j]? = some u → w.cell? ((⟨b, off, none⟩ : Addr).add j) = some u := by
  intro j u hj
  have hadd : (⟨b, off, none⟩ : Addr).add j = ⟨b, off + j, none⟩ := by unfold Addr.add; split <;> simp_all
  rw [hadd]
  have hlen : (E6.ecells ps).length = ps.length * 5 := by
    clear hj h
    induction ps with
    | nil => rfl
    | cons x l ih => rw [E6.ecells, List.length_append, ih, List.length_cons]; simp [E6.ecell]; omega
  have hlt := (List.getElem?_eq_some_iff.1 hj).1
  have hq : j / 5 < n := by rw [← h.len]; omega
  obtain ⟨b', off', e, he, hej, c0, c1, c2, c3, c4, _⟩ := h.at hq
  cases he
  have hj5 : j = j / 5 * 5 + j % 5 := by omega
  have hm : j % 5 < 5 := Nat.mod_lt _ (by omega)
  rw [hj5, E6.ecells_get hej hm] at hj
  rw [hj5]
  generalize j / 5 = q at *
  generalize j % 5 = r at *
  have hr : r = 0 ∨ r = 1 ∨ r = 2 ∨ r = 3 ∨ r = 4 := by omega
  rcases hr with rfl | rfl | rfl | rfl | rfl
  all_goals simp [E6.ecell] at hj; subst hj
  · exact c0
  · exact c1
  · exact c2
  · exact c3
  · exact c4
theorem ecells_one (ps : List E6.Ev) : ∀ u ∈ E6.ecells ps, u.oneCell' = true := by
  induction ps with
  | nil => intro u hu; cases hu
  | cons x l ih =>
    intro u hu
    rw [E6.ecells] at hu
    rcases List.mem_append.1 hu with hu | hu
    · simp [E6.ecell] at hu; rcases hu with rfl | rfl | rfl | rfl | rfl <;> rfl
    · exact ih u hu
theorem ecells_len (ps : List E6.Ev) : (E6.ecells ps).length = ps.length * 5 := by
  induction ps with
  | nil => rfl
  | cons x l ih => rw [E6.ecells, List.length_append, ih, List.length_cons]; simp [E6.ecell]; omega
/-- 'append(nil, t...)' of events. -/
theorem append_evs (w : World) {ops : Array Oper} {rest : List Oper} {o : Oper} {a : Act} {Q : Exit → Act → World → Prop} (hgd : o.guard = none) (s x : Operand)
    (ho : o.op = .call { callee := .builtin .append, args := #[s, x], argTypes := #[22, 22] }) (base : Nat) (hs : a.eval s = .slice none 0 0)
    (b off m c : Nat) (ps : List E6.Ev) (hx : a.eval x = .slice (some ⟨b, off, none⟩) m c) (hr : E6.ERow w (some ⟨b, off, none⟩) m ps)
    (hm : m * 56 ≤ 140737488355328) (hbase : base ≤ w.heap.size)
    (h : ∀ (a' : Option Addr) (c' : Nat) w', w'.ownsRow base 36 5 (.slice a' m c') m (E6.ecells ps) → w.grownBy w' none → wpList Tryz.prog ops Q rest (a.put o.dst (.slice a' m c')) w') : wpList Tryz.prog ops Q (o :: rest) a w := by
  obtain ⟨i0, hi, hz0, hz1, hz2⟩ := info_parts E6.Tryz.infoEvent
  refine wpList_append_own_at w hgd s x 22 ho base 36 i0 _ 5 56 Tryz.underlying22 hi hz0 hz1 hz2 rfl (by decide) (.slice none 0 0) 0 [] hs (World.ownsRow_nil _ _ _ _) ⟨b, off, none⟩ m c (E6.ecells ps) hx (by rw [ecells_len, hr.len]) (erow_cells hr) (ecells_one ps) (by unfold maxLen; omega) (by omega) hbase ?_
  intro v' w' h1 h2 _ _
  rw [Nat.zero_add, List.nil_append] at h1
  obtain ⟨a', c', rfl⟩ := E6.own_form h1
  exact h a' c' w' h1 h2
theorem erow_s {w : World} {a : Option Addr} {n : Nat} {ps : List E6.Ev} (h : E6.ERow w a n ps) : ∀ f ∈ ps, E6.SRow w f.sa f.ls.length f.ls := by
  intro f hf
  obtain ⟨i, hi, e0⟩ := List.getElem_of_mem hf
  obtain ⟨b, off, e, _, he, _, _, _, _, _, hs⟩ := h.at (i := i) (by rw [← h.len]; exact hi)
  rw [List.getElem?_eq_getElem hi, e0] at he
  cases he
  exact hs
theorem runV_err {es : List E6.Ev} (h : (runV es).2.2 = 0) : (E6.bounds es).2 = 0 := by
  by_cases h1 : (E6.bounds es).2 = 0
  · exact h1
  · unfold runV at h; rw [if_pos h1] at h; exact absurd h h1
theorem ref_math {ps : List E6.Ev} {e : E6.Ev} {M : CS} {i : Nat} (hP : ∀ tail, CS.new.run (ps ++ tail) 0 = M.run tail i) (h3 : (runV (ps ++ [e])).2.2 = 0) (h1 : ¬ (runV (ps ++ [e])).1 < 0) :
    e.chk = 0 ∧ M.why (me e) ≠ 0 ∧ (runV (ps ++ [e])).1 = i ∧ (runV (ps ++ [e])).2.1 = M.why (me e) := by
  have hb := runV_err h3
  rw [runV_zero hb, hP [e]] at h1 ⊢
  dsimp only at h1 ⊢
  rw [CS.run] at h1 ⊢
  by_cases hw : M.why (me e) ≠ 0
  · rw [if_pos hw]
    exact ⟨(bounds_zero hb).2 e (by simp), hw, rfl, rfl⟩
  · rw [if_neg hw] at h1
    exact absurd (by show (-1 : Int) < 0; decide) h1
theorem own_grown {W w2 w3 : World} {ob : Obj} {v : Value} {n : Nat} {xs : List Value} (hb : Below W.heap.size W w2) (ho : w2.ownsRow W.heap.size 36 5 v n xs) (g2 : (w2.alloc ob).grownBy w3 v.ownBlock) : Below W.heap.size W w3 := by
  have hb2 : Below W.heap.size W (w2.alloc ob) := hb.trans ((below_alloc1 w2 _).mono hb.size)
  exact hb2.trans (((But.refl (fun k => W.heap.size ≤ k) _).grown g2 (fun k _ e => ((ho.alloc ob).lt k e).1)).below hb2.size (fun k e => e))
set_option maxRecDepth 8000 in
set_option maxHeartbeats 4000000 in
theorem refused_any {w0 wr : World} {cb b off i c : Nat} {M : CS} {ps : List E6.Ev} {e : E6.Ev} (h : RSt w0 wr cb M) (hK : E6.Kr w0) (hr : E6.ERow wr (some ⟨b, off, none⟩) i ps) (hok : ∀ e ∈ ps, e.ok) (hoe : e.ok) (hse : E6.SRow wr e.sa e.ls.length e.ls)
    (hP : ∀ tail, CS.new.run (ps ++ tail) 0 = M.run tail i) (htk : M.taken = i) (hi : i < 1048576) :
    Calls Tryz.prog 13 #[gPtr cb, .slice (some ⟨b, off, none⟩) i c, .agg #[.int .i64 e.g, .int .i64 e.k, .int .u64 e.o, .int .u64 e.a, .slice e.sa e.ls.length e.sc]] wr fun r w' => r = .returned (.bool true) ∧ RSt w0 w' cb M := by
  obtain ⟨W, hW⟩ : ∃ W, W = wr.alloc (.cells #[.int .i64 e.g, .int .i64 e.k, .int .u64 e.o, .int .u64 e.a, .slice e.sa e.ls.length e.sc] 36) := ⟨_, rfl⟩
  have hb : Below wr.heap.size wr W := by rw [hW]; exact below_alloc1 wr _
  have hsz := hK.size
  have hE : E6.EvB W wr.heap.size e.g e.k e.o e.a e.sa e.ls.length e.sc := by rw [hW]; exact E6.EvB.new
  have HS := hide (h.on hb)
  have HK := hide (hK.below h.bel (by omega))
  have HK0 := hide hK
  have HRw := hide (hr.bel hb)
  have HR0 := hide hr
  have HO := hide hok
  have HOe := hide hoe
  have HSe := hide hse
  have HP := hide hP
  have HTk := hide htk
  have HB := hide hb
  have HW := hide hW
  have HE := hide hE
  have hwz : W.heap.size = wr.heap.size + 1 := by rw [hW, World.size_alloc]
  have HWz := hide hwz
  have HM56 : Hid ((i + 1) * 56 ≤ 140737488355328) := hide (by omega)
  have HI := hide hi
  have hiI : (i : Int) < 1048576 := by omega
  have hrz := Nat.lt_of_lt_of_le (by omega : 0 < w0.heap.size) h.bel.size
  clear h hK hr hok hoe hse hP htk hb hW hE hwz hi hsz
  unfold gPtr
  go_enter Tryz.func13, Tryz.ntmps13
  go_wp2_with (first
    | (at_builtin; rw [← HW.out]; refine append_evs _ rfl _ _ rfl W.heap.size rfl b off i c ps rfl HRw.out (by have := HM56.out; omega) (Nat.le_refl _) ?_
       intro a1 c1 w2 o1 g1
       have b1 : Below W.heap.size W w2 := ⟨g1.os, g1.tape, g1.output, g1.size, fun k hk => g1.block k hk (by simp)⟩
       have hE2 := HE.out.below b1
       have p0 := hE2.c0
       have p1 := hE2.c1
       have p2 := hE2.c2
       have p3 := hE2.c3
       have p4 := hE2.c4
       have hl2 := hE2.lt
       have HE2 := hide hE2
       have HB1 := hide b1
       have HO1 := hide o1
       clear o1 g1 b1 hE2)
    | (at_builtin; refine E6.append_ev _ rfl _ _ rfl W.heap.size (.slice a1 i c1) i ps rfl (HO1.out.alloc _) w2.heap.size e rfl E6.EvB.new HM56.out (Nat.le_trans HB1.out.size (by simp)) ?_
       intro a2 c2 w3 o2 g2 _
       have k2 : Below W.heap.size W w3 := own_grown HB1.out HO1.out g2
       have HB2 := hide k2
       have HO2 := hide o2
       clear o2 g2 k2))
  have hokA : ∀ f ∈ ps ++ [e], f.ok := by
    intro f hf
    rcases List.mem_append.1 hf with hf | hf
    · exact HO.out f hf
    · rw [List.mem_singleton.1 hf]; exact HOe.out
  obtain ⟨a3, c3, hv3, hrow3, hle3, hn3⟩ := E6.erow_own HO2.out (by rw [List.length_append, HR0.out.len]; rfl) (fun f hf => by
    rcases List.mem_append.1 hf with hf | hf
    · exact E6.SRow.bel (E6.SRow.bel (erow_s HR0.out f hf) HB.out) HB2.out
    · rw [List.mem_singleton.1 hf]; exact E6.SRow.bel (E6.SRow.bel HSe.out HB.out) HB2.out)
  cases hv3
  have hS3 := HS.out.on HB2.out
  have HS3 := hide hS3
  have HTw := hide (twin_all a2 (i + 1) c2 (ps ++ [e]) w3 hrow3 hokA HM56.out hn3)
  have hE3 := HE.out.below HB2.out
  have HE3 := hide hE3
  clear hokA hrow3 hle3 hn3 hS3 hE3 p0 p1 p2 p3 p4 hl2
  refine HTw.out.mono ?_
  rintro r w4 ⟨a4, c4, fs, rfl, hrow4, hok4, hv4, _, hb4⟩
  have hS4 := HS3.out.on hb4
  have HRun := hide (Run_any a4 (i + 1) c4 fs w4 (HK0.out.below hS4.bel (by have := HK0.out.size; omega)) hrow4 hok4 (by have := HI.out; omega))
  rw [hv4] at HRun
  have HS4 := hide hS4
  have HE4 := hide (HE3.out.below hb4)
  have HB4 := hide hb4
  obtain ⟨R1, hR1⟩ : ∃ R1, R1 = (runV (ps ++ [e])).1 := ⟨_, rfl⟩
  obtain ⟨R2, hR2⟩ : ∃ R2, R2 = (runV (ps ++ [e])).2.1 := ⟨_, rfl⟩
  obtain ⟨R3, hR3⟩ : ∃ R3, R3 = (runV (ps ++ [e])).2.2 := ⟨_, rfl⟩
  rw [← hR1, ← hR2, ← hR3] at HRun
  have HR1 := hide hR1
  have HR2 := hide hR2
  have HR3 := hide hR3
  clear hrow4 hok4 hv4 hb4 hS4 hR1 hR2 hR3 HTw
  go_wp2_with fail
  refine HRun.out.mono ?_
  rintro r w5 ⟨rfl, hb5⟩
  have HS5 := hide (HS4.out.on hb5)
  have hE5 := HE4.out.below hb5
  have p0 := hE5.c0
  have p1 := hE5.c1
  have p2 := hE5.c2
  have p3 := hE5.c3
  have p4 := hE5.c4
  have hl5 := hE5.lt
  have HSe5 : Hid (E6.SRow w5 e.sa e.ls.length e.ls) := hide (E6.SRow.bel (E6.SRow.bel (E6.SRow.bel (E6.SRow.bel HSe.out HB.out) HB2.out) HB4.out) hb5)
  clear hb5 hE5 HRun
  by_cases h3 : R3 = 0
  · have h3b : (R3 != 0) = false := by simp [h3]
    by_cases h1 : R1 < 0
    · have h1b : decide (R1 < 0) = true := decide_eq_true h1
      go_wp2
      go_ret
      exact ⟨rfl, HS5.out⟩
    · have h1b : decide (R1 < 0) = false := decide_eq_false h1
      obtain ⟨m1, m2, m3, m4⟩ := ref_math HP.out (by rw [← HR3.out]; exact h3) (by rw [← HR1.out]; exact h1)
      rw [← HR1.out] at m3
      rw [← HR2.out] at m4
      have HAd := hide (HS5.out.add (by rw [HTk.out]; have := HI.out; omega) HK0.out e HOe.out HSe5.out)
      unfold gPtr at HAd
      rw [m1] at HAd
      obtain ⟨z1, z2, z3⟩ := add_why (M := M) (by rw [HTk.out]; have := HI.out; omega) (me e)
      rw [z1, z2, z3, if_pos m2, ← m4] at HAd
      subst m3
      clear m1 m2 m4 z1 z2 z3 h1b h1
      have h1b : decide ((i : Int) < 0) = false := by simp
      go_wp2_with fail
      refine HAd.out.mono ?_
      rintro r w6 ⟨rfl, hs6⟩
      have HS6 := hide hs6
      clear hs6 HAd
      go_wp2
      go_ret
      exact ⟨rfl, HS6.out⟩
  · have h3b : (R3 != 0) = true := by simp [h3]
    go_wp2
    go_ret
    exact ⟨rfl, HS5.out⟩
end Go.Proofs.YtafkammiehcdjaaGreatDoor
/-
  CheckNames.
-/
namespace Go.Proofs.YtafkammiehcdjaaGreatDoor
open Go.RowKit Go.Maps Go.Shelf
set_option linter.unusedVariables false
theorem i64_bd {a : Int} (h : (Lit.int .i64 a).wf = true) : -9223372036854775808 ≤ a ∧ a ≤ 9223372036854775807 := by
  have hw : IntKind.i64.min ≤ a ∧ a ≤ IntKind.i64.max := by simpa [Lit.wf] using h
  have e1 : IntKind.i64.min = -9223372036854775808 := by decide
  have e2 : IntKind.i64.max = 9223372036854775807 := by decide
  rw [e1, e2] at hw
  exact hw
/-- The events that stay, in memory of one's own. -/
structure Rst16 (w5 wr : World) (v : Value) (m : Nat) (ps : List E6.Ev) : Prop where
  own : wr.ownsRow w5.heap.size 36 5 v m (E6.ecells ps)
  len : ps.length = m
  bel : Below w5.heap.size w5 wr
theorem filter_snoc {es : List E6.Ev} {j : Nat} {e : E6.Ev} (he : es[j]? = some e) : (es.take (j + 1)).filter (fun e => syncK e.k) = (es.take j).filter (fun e => syncK e.k) ++ (if syncK e.k then [e] else []) := by
  obtain ⟨hl, h9⟩ := List.getElem?_eq_some_iff.1 he
  rw [List.take_succ_eq_append_getElem hl, h9, List.filter_append]
  congr 1
  cases hq : syncK e.k <;> simp [hq]
theorem tail_own {w5 wr w7 : World} {v : Value} {m : Nat} {ps : List E6.Ev} {ob : Obj} (h : Rst16 w5 wr v m ps) (g2 : (wr.alloc ob).grownBy w7 v.ownBlock) : Below w5.heap.size w5 w7 := own_grown h.bel h.own g2
set_option maxRecDepth 8000 in
set_option maxHeartbeats 8000000 in
theorem names_any (a : Option Addr) (n c : Nat) (es : List E6.Ev) (w : World) (hK : E6.Kr w) (hr : E6.ERow w a n es) (hok : ∀ e ∈ es, e.ok) (hn : n * 56 ≤ 140737488355328) (hz : a = none → n = 0 ∧ c = 0) (fac S t : Int) (hf : IsU fac) (hS : IsU S) (ht : -9223372036854775808 ≤ t ∧ t ≤ 9223372036854775807) :
    Calls Tryz.prog 4 #[.slice a n c, .int .u64 fac, .int .u64 S, .int .i64 t] w fun e w' => e = .returned (.bool true) ∧ Below w.heap.size w w' := by
  have HAw := hide (awake_any w hK)
  have HK := hide hK
  have HR := hide hr
  have HO := hide hok
  have HN := hide hn
  have hnI : (n : Int) ≤ 9223372036854775806 := by omega
  have HZ := hide hz
  have hsz := hK.size
  obtain ⟨F, hor⟩ : ∃ F, bits .or .u64 fac 1 = F := ⟨_, rfl⟩
  have hFo : F % 2 = 1 := by rw [← hor, or_one16 fac hf.1 hf.2]; omega
  have HFo := hide hFo
  have HOr := hide hor
  have HS := hide hS
  have HT := hide ht
  obtain ⟨P, hP⟩ : ∃ P, P = (runV es).1 := ⟨_, rfl⟩
  obtain ⟨Y, hY⟩ : ∃ Y, Y = (runV es).2.1 := ⟨_, rfl⟩
  obtain ⟨E, hE⟩ : ∃ E, E = (runV es).2.2 := ⟨_, rfl⟩
  have HP := hide hP
  have HY := hide hY
  have HEr := hide hE
  clear hK hr hok hn hz hP hY hE hor hFo hf hS ht
  go_enter Tryz.func4, Tryz.ntmps4
  go_wp2_with fail
  refine HAw.out.mono ?_
  rintro r w1 ⟨rfl, hb1⟩
  have HB1 := hide hb1
  have HTw := hide (twin_all a n c es w1 (HR.out.bel hb1) HO.out HN.out (fun e => (HZ.out e).2))
  clear hb1 HAw
  go_wp2_with fail
  refine HTw.out.mono ?_
  rintro r w2 ⟨a2, c2, fs, rfl, hrow, hok2, hv, _, hb2⟩
  have HB2 := hide (Below.on HB1.out hb2)
  have HRn := hide (Run_any a2 n c2 fs w2 (HK.out.below HB2.out (by omega)) hrow hok2 hnI)
  rw [hv, ← HP.out, ← HY.out, ← HEr.out] at HRn
  clear hrow hok2 hv hb2 HTw HB1
  go_wp2_with fail
  refine HRn.out.mono ?_
  rintro r w3 ⟨rfl, hb3⟩
  have HB3 := hide (Below.on HB2.out hb3)
  clear hb3 HRn HB2
  by_cases hE0 : E = 0
  · have hEb : (E != 0) = false := by simp [hE0]
    have hb0 : (E6.bounds es).2 = 0 := runV_err (by rw [← HEr.out]; exact hE0)
    have hrun : CS.new.run es 0 = (P, Y) := by rw [HP.out, HY.out, runV_zero hb0]
    obtain ⟨hlen, hchk⟩ := bounds_zero hb0
    rw [HR.out.len] at hlen
    have hl6 : (n : Int) ≤ 1048576 := by omega
    have hbd := run_bd es CS.new 0
    rw [hrun, HR.out.len] at hbd
    have HBd := hide hbd
    have HNm := hide (runV_rn S t HFo.out hb0 HO.out)
    have HRe := hide (renamed_any a n c es w3 (HR.out.bel HB3.out) HO.out HN.out (fun e => (HZ.out e).2) hchk hl6 fac S t F HS.out HT.out HOr.out)
    have HEn : Hid (runV es = (P, Y, 0)) := hide (by rw [runV_zero hb0, hrun])
    subst hE0
    clear hb0 hrun hlen hchk hbd HP HY HEr
    go_wp2_with fail
    refine HRe.out.mono ?_
    rintro r w4 ⟨a4, c4, L, rfl, hrow, hok4, htw, hb4⟩
    have HB4 := hide (Below.on HB3.out hb4)
    have HRn := hide (Run_any a4 n c4 L w4 (HK.out.below HB4.out (by omega)) hrow hok4 hnI)
    rw [runV_twins htw, HNm.out, HEn.out] at HRn
    clear hrow hok4 htw hb4 HRe HB3 HNm
    go_wp2_with fail
    refine HRn.out.mono ?_
    rintro r w5 ⟨rfl, hb5⟩
    have HB5 := hide (Below.on HB4.out hb5)
    clear hb5 HRn HB4
    dsimp only
    rcases HBd.out with ⟨hP1, hY1⟩ | ⟨hP1, hP2, hY1⟩
    · subst hP1
      subst hY1
      have HSy := hide (runV_sync HEn.out)
      clear HBd HEn
      have HI0 : Hid (Rst16 w5 w5 (.slice none 0 0) 0 ((es.take 0).filter (fun e => syncK e.k))) := hide ⟨World.ownsRow_nil _ _ _ _, by simp, Below.refl _ _⟩
      go_wp2
      go_loopw [15, 16] (fun v i wr => ∃ (j m : Nat) (a1 : Option Addr) (c1 : Nat), j ≤ n ∧ m ≤ j ∧ i = .int .i64 j ∧ v = .slice a1 m c1 ∧ Hid (Rst16 w5 wr (.slice a1 m c1) m ((es.take j).filter (fun e => syncK e.k)))) (fun _ i _ => n - (intOf i).toNat)
      case atStart => exact ⟨0, 0, none, 0, Nat.zero_le _, Nat.le_refl _, rfl, rfl, HI0⟩
      case round =>
        obtain ⟨j, m, a1, c1, hj, hmj, rfl, rfl, HI⟩ := hrel
        clear HI0
        by_cases hlt : j < n
        · have hjI : (j : Int) < n := by omega
          have hB := Below.on HB5.out HI.out.bel
          obtain ⟨b, off, e, ha, hej, x0, x1, x2, x3, x4, hs⟩ := (HR.out.bel hB).at hlt
          subst ha
          have HFs := hide (filter_snoc hej)
          clear hej hs hB
          by_cases h1 : e.k = 1
          · have b1 := bne_f h1
            have HQ : Hid (syncK e.k = false) := hide (by unfold syncK; exact decide_eq_false (fun z => z.1 h1))
            have HI2 : Hid (Rst16 w5 wr (.slice a1 m c1) m ((es.take (j + 1)).filter (fun e => syncK e.k))) := hide (by rw [HFs.out, HQ.out]; simpa using HI.out)
            clear HFs HQ 
            go_wp2
            exact ⟨⟨j + 1, m, a1, c1, by omega, by omega, by go_num, rfl, HI2⟩, by simp [intOf]; omega⟩
          · have b1 := bne_t h1
            by_cases h2 : e.k = 2
            · have b2 := bne_f h2
              have HQ : Hid (syncK e.k = false) := hide (by unfold syncK; exact decide_eq_false (fun z => z.2.1 h2))
              have HI2 : Hid (Rst16 w5 wr (.slice a1 m c1) m ((es.take (j + 1)).filter (fun e => syncK e.k))) := hide (by rw [HFs.out, HQ.out]; simpa using HI.out)
              clear HFs HQ 
              go_wp2
              exact ⟨⟨j + 1, m, a1, c1, by omega, by omega, by go_num, rfl, HI2⟩, by simp [intOf]; omega⟩
            · have b2 := bne_t h2
              by_cases h3 : e.k = 22
              · have b3 := bne_f h3
                have HQ : Hid (syncK e.k = false) := hide (by unfold syncK; exact decide_eq_false (fun z => z.2.2.1 h3))
                have HI2 : Hid (Rst16 w5 wr (.slice a1 m c1) m ((es.take (j + 1)).filter (fun e => syncK e.k))) := hide (by rw [HFs.out, HQ.out]; simpa using HI.out)
                clear HFs HQ 
                go_wp2
                exact ⟨⟨j + 1, m, a1, c1, by omega, by omega, by go_num, rfl, HI2⟩, by simp [intOf]; omega⟩
              · have b3 := bne_t h3
                by_cases h4 : e.k < 17
                · have b4 : decide (e.k < 17) = true := decide_eq_true h4
                  have HQ : Hid (syncK e.k = true) := hide (by unfold syncK; exact decide_eq_true (⟨h1, h2, h3, .inl h4⟩))
                  have HM56 : Hid ((m + 1) * 56 ≤ 140737488355328) := hide (by omega)
                  go_wp2_with (first
                    | (at_builtin; refine E6.append_ev _ rfl _ _ rfl w5.heap.size (.slice a1 m c1) m ((es.take j).filter (fun e => syncK e.k)) rfl (HI.out.own.alloc _) wr.heap.size e rfl E6.EvB.new HM56.out (Nat.le_trans HI.out.bel.size (by simp)) ?_
                       intro a3 c3 w7 o2 g2 _
                       have HI2 : Hid (Rst16 w5 w7 (.slice a3 (m + 1) c3) (m + 1) ((es.take (j + 1)).filter (fun e => syncK e.k))) := hide (by
                         rw [HFs.out, HQ.out]
                         exact ⟨o2, by rw [List.length_append, HI.out.len]; rfl, tail_own HI.out g2⟩)
                       clear o2 g2))
                  exact ⟨⟨j + 1, m + 1, a3, c3, by omega, by omega, by go_num, rfl, HI2⟩, by simp [intOf]; omega⟩
                · have b4 : decide (e.k < 17) = false := decide_eq_false h4
                  by_cases h5 : 19 < e.k
                  · have b5 : decide (19 < e.k) = true := decide_eq_true h5
                    have HQ : Hid (syncK e.k = true) := hide (by unfold syncK; exact decide_eq_true (⟨h1, h2, h3, .inr h5⟩))
                    have HM56 : Hid ((m + 1) * 56 ≤ 140737488355328) := hide (by omega)
                    go_wp2_with (first
                      | (at_builtin; refine E6.append_ev _ rfl _ _ rfl w5.heap.size (.slice a1 m c1) m ((es.take j).filter (fun e => syncK e.k)) rfl (HI.out.own.alloc _) wr.heap.size e rfl E6.EvB.new HM56.out (Nat.le_trans HI.out.bel.size (by simp)) ?_
                         intro a3 c3 w7 o2 g2 _
                         have HI2 : Hid (Rst16 w5 w7 (.slice a3 (m + 1) c3) (m + 1) ((es.take (j + 1)).filter (fun e => syncK e.k))) := hide (by
                           rw [HFs.out, HQ.out]
                           exact ⟨o2, by rw [List.length_append, HI.out.len]; rfl, tail_own HI.out g2⟩)
                         clear o2 g2))
                    exact ⟨⟨j + 1, m + 1, a3, c3, by omega, by omega, by go_num, rfl, HI2⟩, by simp [intOf]; omega⟩
                  · have b5 : decide (19 < e.k) = false := decide_eq_false h5
                    have HQ : Hid (syncK e.k = false) := hide (by unfold syncK; exact decide_eq_false (fun z => z.2.2.2.elim h4 h5))
                    have HI2 : Hid (Rst16 w5 wr (.slice a1 m c1) m ((es.take (j + 1)).filter (fun e => syncK e.k))) := hide (by rw [HFs.out, HQ.out]; simpa using HI.out)
                    clear HFs HQ 
                    go_wp2
                    exact ⟨⟨j + 1, m, a1, c1, by omega, by omega, by go_num, rfl, HI2⟩, by simp [intOf]; omega⟩
        · have h9 : j = n := by omega
          subst h9
          rw [← HR.out.len, List.take_length] at HI
          have hB := Below.on HB5.out HI.out.bel
          have hrows := HR.out.bel hB
          obtain ⟨a6, c6, hv6, hrow6, hmc, hz6⟩ := E6.erow_own HI.out.own HI.out.len (fun f hf => erow_s hrows f ((List.mem_filter.1 hf).1))
          cases hv6
          have hok6 : ∀ f ∈ es.filter (fun e => syncK e.k), f.ok := fun f hf => HO.out f ((List.mem_filter.1 hf).1)
          have HTw := hide (twin_all a1 m c1 _ wr hrow6 hok6 (by have := HN.out; omega) hz6)
          have HB6 := hide hB
          clear hB hrows hrow6 hmc hz6 hok6
          go_wp2_with fail
          refine HTw.out.mono ?_
          rintro r w6 ⟨a7, c7, gs, rfl, hrow7, hok7, hv7, _, hb7⟩
          have HB7 := hide (Below.on HB6.out hb7)
          have HRn := hide (Run_any a7 m c7 gs w6 (HK.out.below HB7.out (by omega)) hrow7 hok7 (by omega))
          rw [hv7, HSy.out] at HRn
          clear hrow7 hok7 hv7 hb7 HTw
          go_wp2_with fail
          refine HRn.out.mono ?_
          rintro r w8 ⟨rfl, hb8⟩
          have HB8 := hide (Below.on HB7.out hb8)
          clear hb8 HRn
          go_wp2
          go_ret
          exact ⟨rfl, HB8.out⟩
    · have hd1 : decide (0 ≤ P) = true := decide_eq_true (by omega)
      clear HBd hP1 hP2 hY1
      go_wp2
      go_ret
      exact ⟨rfl, HB5.out⟩
  · have hEb : (E != 0) = true := by simp [hE0]
    clear hE0
    go_wp2
    go_ret
    exact ⟨rfl, HB3.out⟩
end Go.Proofs.YtafkammiehcdjaaGreatDoor
/-
  Events that came in.
-/
namespace Go.Proofs.YtafkammiehcdjaaGreatDoor.E6
open Go.ChangeShapes Go.WideShapes Go.ChangeAt Go.RowKit
theorem add_at (b off i : Nat) : (⟨b, off, none⟩ : Addr).add i = ⟨b, off + i, none⟩ := by unfold Addr.add; split <;> simp_all
theorem bytes9 : Tryz.prog.bytesOf 9 = 16 := by kernel_rfl
theorem weights_all {H : Type} {P : Program} {e : TypeId} {d : DataW H} {n : Nat} : ∀ {l : List (DataW H)}, d ∈ l → n ∈ d.weights P e → n ∈ DataW.weightsAll P e l
  | [], h, _ => by cases h
  | x :: r, h, hn => by
    rw [DataW.weightsAll, List.mem_append]
    rcases List.mem_cons.1 h with rfl | h
    · exact .inl hn
    · exact .inr (weights_all h hn)
theorem open_strs_in {H : Type} {enc : TypeId × Value → H} {W : World} {v : Value} {fuel : Nat} {d : DataW H} {p : List MemPlace}
    (hf : DataW.trod enc Tryz.prog W 0 (fun _ => true) true fuel 34 [v] = some (d, p)) (hw : ∀ n ∈ d.weights Tryz.prog 34, n ≤ reachBytes) :
    ∃ (z : List ByteArray) (ai : Option Addr) (ci : Nat), v = .slice ai z.length ci ∧ SRow W ai z.length z ∧ z.length ≤ ci ∧ z.length ≤ 8796093021952 ∧ (∀ s ∈ z, s.size ≤ maxLen) ∧ (ai = none → z.length = 0 ∧ ci = 0) := by
  rcases open_strings Tryz.underlying34 Tryz.underlying9 (by kernel_rfl) hf with ⟨hcs, _⟩ | ⟨x, l, c, zs, hcs, _, hl, hm, hz, hx, hcell, hwz⟩
  · simp at hcs
    subst hcs
    exact ⟨[], none, 0, rfl, ⟨rfl, .inl rfl⟩, Nat.le_refl _, by simp, by simp, fun _ => ⟨rfl, rfl⟩⟩
  · simp at hcs
    subst hcs
    simp only [Prod.mk.injEq] at hx
    have hz' : zs.length = c := by simpa using hz
    have hs := hw (((strs (zs.take l) : List (DataW H)).length + (strs (zs.drop l) : List (DataW H)).length) * Tryz.prog.bytesOf 9) (by rw [hx.1]; simp [DataW.weights, Tryz.underlying34])
    rw [bytes9] at hs
    simp only [strs, List.length_map, List.length_take, List.length_drop, reachBytes] at hs
    have hlen : (zs.take l).length = l := by rw [List.length_take]; omega
    refine ⟨zs.take l, some x, c, by rw [hlen], ?_, by omega, by omega, fun s hs => hwz s (List.mem_of_mem_take hs), fun h => (by cases h)⟩
    rw [hlen]
    refine ⟨hlen, ?_⟩
    by_cases h0 : l = 0
    · exact .inl h0
    · right
      obtain ⟨b, off, sp⟩ := x
      have h1 := hcell 0 (by omega)
      have hsp : sp = none := by simpa [Addr.add] using World.cell?_spot h1
      subst hsp
      refine ⟨b, off, rfl, fun i hi => ?_⟩
      have := hcell i (by omega)
      rw [add_at] at this
      rw [this]
      congr 2
      rw [List.getD_eq_getElem?_getD, List.getD_eq_getElem?_getD, List.getElem?_take_of_lt hi]
instance : Inhabited Ev := ⟨⟨0, 0, 0, 0, none, 0, []⟩⟩
theorem ocells3 : Tryz.prog.cellsOf 3 = 1 := by kernel_rfl
theorem ocellsU : Tryz.prog.cellsOf 33 = 1 := by kernel_rfl
theorem ocellsS : Tryz.prog.cellsOf 34 = 1 := by kernel_rfl
theorem ocellsE : Tryz.prog.cellsOf 36 = 5 := by kernel_rfl
theorem obytesE : Tryz.prog.bytesOf 36 = 56 := by kernel_rfl
theorem u64_bd {a : Int} (h : (Lit.int .u64 a).wf = true) : 0 ≤ a ∧ a ≤ 18446744073709551615 := by
  have hw : IntKind.u64.min ≤ a ∧ a ≤ IntKind.u64.max := by simpa [Lit.wf] using h
  have e1 : IntKind.u64.min = 0 := by decide
  have e2 : IntKind.u64.max = 18446744073709551615 := by decide
  rw [e1, e2] at hw
  exact hw
theorem ofive {α : Type} {l : List α} (h : l.length = 5) : ∃ a b c d e, l = [a, b, c, d, e] := by
  match l, h with
  | [a, b, c, d, e], _ => exact ⟨a, b, c, d, e, rfl⟩
/-- Five cells that are read as an event. -/
theorem open_ev_in {H : Type} {enc : TypeId × Value → H} {W : World} {cs : List Value} {fuel : Nat} {d : DataW H} {p : List MemPlace}
    (hf : DataW.trod enc Tryz.prog W 0 (fun _ => true) true fuel 36 cs = some (d, p)) (hw : ∀ n ∈ d.weights Tryz.prog 36, n ≤ reachBytes) :
    ∃ e : Ev, cs = ecell e ∧ e.ok ∧ e.at W := by
  obtain ⟨xs, k, _, hxd, hlen, hxs, hfs⟩ := DataW.trod_struct Tryz.underlying36 hf
  rw [ocellsE] at hlen
  have g0 := hfs 0 _ rfl
  have g1 := hfs 1 _ rfl
  have g2 := hfs 2 _ rfl
  have g3 := hfs 3 _ rfl
  have g4 := hfs 4 _ rfl
  obtain ⟨y0, y1, y2, y3, y4, rfl⟩ := ofive hxs
  obtain ⟨v0, v1, v2, v3, v4, rfl⟩ := ofive hlen
  simp [ocells3, ocellsU, ocellsS] at g0 g1 g2 g3 g4
  obtain ⟨g, e0, _, _⟩ := DataW.trod_int Tryz.underlying3 g0
  obtain ⟨k', e1, _, _⟩ := DataW.trod_int Tryz.underlying3 g1
  obtain ⟨o, e2, _, w2⟩ := DataW.trod_int Tryz.underlying33 g2
  obtain ⟨a, e3, _, w3⟩ := DataW.trod_int Tryz.underlying33 g3
  obtain ⟨z, ai, ci, e4, hs, hzc, hzl, hz, hnil⟩ := open_strs_in g4 (fun n hn => hw n (by
    rw [(Prod.mk.inj hxd).1]
    simp [DataW.weights, Tryz.underlying36, DataW.weightsEach, hn]))
  simp at e0 e1 e2 e3
  subst e0 e1 e2 e3 e4
  exact ⟨⟨g, k', o, a, ai, ci, z⟩, rfl, ⟨u64_bd w2, u64_bd w3, hzl, hz, hzc, hnil⟩, hs⟩
set_option maxRecDepth 20000 in
theorem open_ev {H : Type} {enc : TypeId × Value → H} {W : World} {b0 : Nat} {r : Reach} {v : Value} {d : DataW H} {p : List MemPlace} {ts : List TypeId} {ds : List (DataW H)} {j : Nat}
    (hv : Value.okWide Tryz.prog W r b0 36 v) (h : DataW.Trod enc Tryz.prog W 0 (fun _ => true) true 36 v d p)
    (hsz : (DataW.weightsEach Tryz.prog ts ds).all (· ≤ reachBytes) = true) (ht : ts[j]? = some 36) (hd : ds[j]? = some d) :
    ∃ e : Ev, v = .agg #[.int .i64 e.g, .int .i64 e.k, .int .u64 e.o, .int .u64 e.a, .slice e.sa e.ls.length e.sc] ∧ e.ok ∧ e.at W := by
  obtain ⟨cs, rfl, hcs⟩ := okWide_struct Tryz.underlying36 hv
  obtain ⟨fuel, hf⟩ := h
  obtain ⟨e, h1, h2, h3⟩ := open_ev_in hf (fun n hn => by
    have := List.all_eq_true.1 hsz _ (DataW.weights_mem_each ht hd n hn)
    simpa using this)
  refine ⟨e, ?_, h2, h3⟩
  have h4 : cs.toList = ecell e := h1
  congr 1
  exact Array.toList_inj.1 h4
set_option maxRecDepth 20000 in
/-- A list of events that came in. -/
theorem open_evs {H : Type} {enc : TypeId × Value → H} {W : World} {a : Option Addr} {len cap : Nat} {d : DataW H} {p : List MemPlace} {ts : List TypeId} {ds : List (DataW H)} {j : Nat}
    (h : DataW.Trod enc Tryz.prog W 0 (fun _ => true) true 22 (.slice a len cap) d p)
    (hsz : (DataW.weightsEach Tryz.prog ts ds).all (· ≤ reachBytes) = true) (ht : ts[j]? = some 22) (hd : ds[j]? = some d) :
    ∃ es, ERow W a len es ∧ (∀ e ∈ es, e.ok) ∧ len * 56 ≤ 140737488355328 ∧ len ≤ cap ∧ (a = none → len = 0 ∧ cap = 0) := by
  obtain ⟨fuel, hf⟩ := h
  rcases Deep.open_slice Tryz.underlying22 hf with ⟨hcs, _⟩ | ⟨x, l, c, m, n, D, Pl, hcs, _, hl, hm, hmm, hx, hel⟩
  · simp [Value.cells] at hcs
    obtain ⟨rfl, rfl, rfl⟩ := hcs
    exact ⟨[], ⟨rfl, .inl rfl⟩, by simp, by omega, by omega, fun _ => ⟨rfl, rfl⟩⟩
  · simp [Value.cells] at hcs
    obtain ⟨rfl, rfl, rfl⟩ := hcs
    simp only [Prod.mk.injEq] at hx
    have hm' : m = cap := by simpa using hmm
    subst hm'
    have hall : ∀ n ∈ d.weights Tryz.prog 22, n ≤ reachBytes := fun n hn => by
      have := List.all_eq_true.1 hsz _ (DataW.weights_mem_each ht hd n hn)
      simpa using this
    rw [hx.1] at hall
    have hlen := hall (((List.range len).map D).length + ((List.range (m - len)).map fun j => D (len + j)).length |> (· * Tryz.prog.bytesOf 36)) (by simp [DataW.weights, Tryz.underlying22])
    rw [obytesE] at hlen
    simp only [List.length_map, List.length_range, reachBytes] at hlen
    have each : ∀ i, i < len → ∃ q : Ev, q.ok ∧ q.at W ∧ ∀ t, t < 5 → W.cell? (x.add (i * 5 + t)) = (ecell q)[t]? := by
      intro i hi
      obtain ⟨cs', h1, h2⟩ := hel i (by omega)
      rw [ocellsE] at h1
      obtain ⟨_, hl5, hcell⟩ := World.cells?_some h1
      obtain ⟨q, e1, e2, e3⟩ := open_ev_in h2 (fun n hn => hall n (by
        simp only [DataW.weights, Tryz.underlying22, List.mem_cons, List.mem_append]
        exact .inr (.inl (weights_all (List.mem_map.2 ⟨i, List.mem_range.2 hi, rfl⟩) hn))))
      refine ⟨q, e2, e3, fun t ht5 => ?_⟩
      have := hcell t (by omega)
      rw [Deep.add_add] at this
      rw [this, e1]
    obtain ⟨f, hch⟩ := Deep.choose_lt each
    have hget : ∀ i e, ((List.range len).map f)[i]? = some e → i < len ∧ f i = e := by
      intro i e he
      have hi : i < len := by have := (List.getElem?_eq_some_iff.1 he).1; simpa using this
      exact ⟨hi, by simpa [hi] using he⟩
    refine ⟨(List.range len).map f, ⟨by simp, ?_⟩, ?_, by omega, by omega, fun h => by cases h⟩
    · by_cases h0 : len = 0
      · exact .inl h0
      · right
        obtain ⟨b, off, sp⟩ := x
        have h1 := (hch 0 (by omega)).2.2 0 (by omega)
        have hsp : sp = none := by
          have : (ecell (f 0))[0]? = some (.int .i64 (f 0).g) := rfl
          rw [this] at h1
          simpa [Addr.add] using World.cell?_spot h1
        subst hsp
        refine ⟨b, off, rfl, fun i e he => ?_⟩
        obtain ⟨hi, rfl⟩ := hget i e he
        obtain ⟨_, hat, hc⟩ := hch i hi
        have hc' : ∀ t, t < 5 → W.cell? ⟨b, off + i * 5 + t, none⟩ = (ecell (f i))[t]? := fun t ht5 => by
          have := hc t ht5
          rw [add_at, ← Nat.add_assoc] at this
          exact this
        exact ⟨hc' 0 (by omega), hc' 1 (by omega), hc' 2 (by omega), hc' 3 (by omega), hc' 4 (by omega), hat⟩
    · intro e he
      obtain ⟨i, hi, rfl⟩ := List.mem_map.1 he
      exact (hch i (List.mem_range.1 hi)).1
end Go.Proofs.YtafkammiehcdjaaGreatDoor.E6
