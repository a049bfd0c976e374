/-
  SliceTakes.
-/
import Derived.Test.YtchanbiioegegaaSlG
namespace Go.Proofs.Ytchanbiioegegaa
open Go.RowKit Go.Maps
set_option linter.unusedVariables false
theorem row_len {α : Type} {y : Lay α} {w : World} {a : Option Addr} {n : Nat} {L : List α} (h : TRow y w a n L) : L.length = n := h.len
theorem sInfoB : (Try.prog.info? 4).map (fun i => (i.zero, i.size, i.bytes)) = some (some (.bool false), 1, 1) := by kernel_rfl
/-- Twins of twins of the first events. -/
theorem twins_via {w0 w1 x0 x1 : World} {es gs ps qs : List E6.Ev} {n : Nat} {v u : Value} (hg : E6.Twins es gs) (h : E6.Tw w0 w1 gs n ps v) (k : E6.Tw x0 x1 es n qs u) : E6.Twins qs ps := by
  refine E6.twins_of (by rw [h.len, k.len]) fun i f hf => ?_
  obtain ⟨g, h1, ⟨a1, a2, a3, a4, a5⟩, _⟩ := h.each i f hf
  have hl := (List.getElem?_eq_some_iff.1 hf).1
  have hq : qs[i]? = some (qs[i]'(by rw [k.len, ← h.len]; exact hl)) := List.getElem?_eq_getElem _
  refine ⟨_, hq, ?_⟩
  obtain ⟨e, h2, ⟨b1, b2, b3, b4, b5⟩, _⟩ := k.each i _ hq
  obtain ⟨c1, c2, c3, c4, c5⟩ := hg.get h2 h1
  exact ⟨by rw [a1, b1, c1], by rw [a2, b2, c2], by rw [a3, b3, c3], by rw [a4, b4, c4], by rw [a5, b5, c5]⟩
theorem pk_twins {es gs : List E6.Ev} (hg : E6.Twins es gs) {P : List Nat} (hP : ∀ p ∈ P, p < es.length) : E6.Twins (pkE es P) (pkE gs P) := by
  refine E6.twins_of (by rw [pkE_len, pkE_len]) fun i f hf => ?_
  have hl := (List.getElem?_eq_some_iff.1 hf).1
  rw [pkE_len] at hl
  have hp : P[i]? = some P[i] := List.getElem?_eq_getElem hl
  have hlt := hP _ (List.getElem_mem hl)
  have he : es[P[i]]? = some es[P[i]] := List.getElem?_eq_getElem hlt
  have hg2 : gs[P[i]]? = some (gs[P[i]]'(by rw [hg.len]; exact hlt)) := List.getElem?_eq_getElem _
  refine ⟨_, pkE_at hp he, ?_⟩
  have h1 := pkE_at hp hg2
  rw [hf] at h1
  cases h1
  exact hg.get he hg2
theorem twins_viaP {w0 w1 x0 x1 : World} {es gs ps qs : List E6.Ev} {P : List Nat} {n : Nat} {v u : Value} (hg : E6.Twins es gs) (h : E6.Tw w0 w1 (pkE gs P) n ps v) (k : E6.Tw x0 x1 (pkE es P) n qs u) (hP : ∀ p ∈ P, p < es.length) : E6.Twins qs ps :=
  twins_via (pk_twins hg hP) h k
set_option maxRecDepth 8000 in
set_option maxHeartbeats 8000000 in
theorem takes_any (a : Option Addr) (n c : Nat) (es : List E6.Ev) (a1 : Option Addr) (n1 c1 : Nat) (ks : List Bool) (q : Int) (w : World) (hr : E6.ERow w a n es) (hok : ∀ e ∈ es, e.ok) (hn : n * 56 ≤ 140737488355328) (hc0 : a = none → c = 0) (hb : TRow sB w a1 n1 ks) (hb0 : a1 = none → n1 = 0 ∧ c1 = 0) (hn1 : n1 * 1 ≤ 140737488355328) :
    Calls Try.prog 3 #[.slice a n c, .slice a1 n1 c1, .int .i64 q] w fun e w' => e = .returned (.bool true) ∧ Below w.heap.size w w' := by
  have HTw := hide (E6.twin_any a n c es w hr hok hn hc0)
  have HR := hide hr
  have HO := hide hok
  have HN := hide hn
  have HB := hide hb
  have HB0 := hide hb0
  have hnM : (n : Int) ≤ 9223372036854775806 := by omega
  have hn1M : (n1 : Int) ≤ 9223372036854775806 := by omega
  have HN1 := hide hn1
  have HLes := hide hr.len
  obtain ⟨i0, hi0, hz0, hz1, hz2⟩ := info_parts sInfoB
  clear hr hok hn hb hb0 hn1 hc0
  go_enter Try.func3, Try.ntmps3
  go_wp2_with fail
  refine HTw.out.mono ?_
  rintro r w1 ⟨fs, v, rfl, htw⟩
  obtain ⟨ga, gc, rfl, hgr, hgc⟩ := htw.form
  have HG := hide htw
  have HGr := hide hgr
  have HGo := hide (htw.ok HO.out)
  have HGt := hide (htw.twins HLes.out)
  clear htw hgr HTw
  go_wp2_with (at_builtin; refine append_lay sB _ 23 4 i0 _ 1 Try.underlying23 hi0 hz0 hz1 hz2 rfl rfl _ _ rfl w1.heap.size (.slice none 0 0) [] rfl (Own.nil _ _ _ _) a1 n1 c1 ks rfl (HB.out.below HG.out.bel) HB0.out ?b1 ?b2 (Nat.le_refl _) ?_)
  case b1 => unfold maxLen; have := HN1.out; simp; omega
  case b2 => have := HN1.out; simp; omega
  intro v2 w2 o2 g2 l2
  have hb2 : Below w1.heap.size w1 w2 := ⟨g2.os, g2.tape, g2.output, g2.size, fun k hk => g2.block k hk (by simp [Value.ownBlock])⟩
  obtain ⟨ca, cc, rfl, _, _⟩ := own_form o2
  have hkl : ks.length = n1 := HB.out.len
  rw [hkl] at o2 ⊢
  have HCh := hide (o2.row hkl)
  have HB2 := hide (Below.on HG.out.bel hb2)
  have HGb := hide hb2
  clear o2 g2 l2 hb2 hi0 hz0 hz1 hz2 hkl
  have HPre : Hid (Calls Try.prog 5 #[.slice ga n gc, .int .i64 q] w2 fun r w3 => ∃ (pa : Option Addr) (pn pc : Nat) (er : Int) (ps : List E6.Ev), r = .returned (.tuple #[.slice pa pn pc, .int .i64 er]) ∧ Below w2.heap.size w2 w3 ∧ E6.ERow w3 pa pn ps ∧ Hid (Calls Try.prog 6 #[.slice a n c, .int .i64 q] w3 fun r w4 => ∃ (qa : Option Addr) (qc : Nat) (qs : List E6.Ev), r = .returned (.tuple #[.slice qa pn qc, .int .i64 er]) ∧ Below w3.heap.size w3 w4 ∧ E6.ERow w4 qa pn qs ∧ E6.Twins qs ps ∧ (pn : Int) ≤ 9223372036854775806 ∧ ∀ e ∈ qs, (e.ls.length : Int) ≤ 9223372036854775806)) := hide (by
    by_cases hq : q < 0 ∨ (n : Int) < q
    · refine (prefix_bad ga n gc q w2 hq).mono ?_
      rintro r w3 ⟨rfl, rfl⟩
      refine ⟨none, 0, 0, 220, [], rfl, Below.refl _ _, ⟨rfl, .inl rfl⟩, hide ?_⟩
      refine (rprefix_bad a n c q w3 hq).mono ?_
      rintro r w4 ⟨rfl, rfl⟩
      exact ⟨none, 0, [], rfl, Below.refl _ _, ⟨rfl, .inl rfl⟩, trivial, by omega, fun e he => by cases he⟩
    · obtain ⟨k, rfl⟩ : ∃ k : Nat, q = (k : Int) := ⟨q.toNat, by omega⟩
      have hk : k ≤ n := by omega
      have hw2 := HGr.out.bel HGb.out
      refine (prefix_ok ga n gc k fs w2 hw2 HGo.out HN.out hk).mono ?_
      rintro r w3 ⟨ps, v, rfl, hT⟩
      obtain ⟨pa, pc, rfl, hpr, _⟩ := hT.form
      refine ⟨pa, k, pc, 0, ps, rfl, hT.bel, hpr, hide ?_⟩
      refine (rprefix_ok a n c k es w3 ((HR.out.bel HB2.out).bel hT.bel) HO.out HN.out hk).mono ?_
      rintro r w4 ⟨qs, u, rfl, hU⟩
      obtain ⟨qa, qc, rfl, hqr, _⟩ := hU.form
      refine ⟨qa, qc, qs, rfl, hU.bel, hqr, twins_via HGt.out hT hU, by omega, tw_small hU HO.out⟩)
  have HTk : Hid (∀ X, Below w2.heap.size w2 X → Calls Try.prog 8 #[.slice ga n gc, .slice ca n1 cc] X fun r w3 => ∃ (pa : Option Addr) (pn pc : Nat) (er : Int) (ps : List E6.Ev) (ia : Option Addr) (ic : Nat) (P : List Int), r = .returned (.tuple #[.slice pa pn pc, .slice ia pn ic, .int .i64 er]) ∧ Below X.heap.size X w3 ∧ E6.ERow w3 pa pn ps ∧ TRow sI w3 ia pn P ∧ Hid (Calls Try.prog 9 #[.slice a n c, .slice a1 n1 c1] w3 fun r w4 => ∃ (qa : Option Addr) (qc : Nat) (qs : List E6.Ev) (ja : Option Addr) (jc : Nat), r = .returned (.tuple #[.slice qa pn qc, .slice ja pn jc, .int .i64 er]) ∧ Below w3.heap.size w3 w4 ∧ E6.ERow w4 qa pn qs ∧ TRow sI w4 ja pn P ∧ E6.Twins qs ps ∧ (pn : Int) ≤ 9223372036854775806 ∧ ∀ e ∈ qs, (e.ls.length : Int) ≤ 9223372036854775806)) := hide (fun X hX => by
    by_cases hq : n1 = n
    · subst hq
      have hw2 := (HGr.out.bel HGb.out).bel hX
      refine (take_ok ga n1 gc fs ca cc ks X hw2 HGo.out HN.out (HCh.out.below hX)).mono ?_
      rintro r w3 ⟨ps, pa, pc, ia, ic, rfl, hT, hL⟩
      obtain ⟨pa', pc', hv, hpr, _⟩ := hT.form
      obtain ⟨rfl, rfl⟩ : pa = pa' ∧ pc = pc' := by cases hv; exact ⟨rfl, rfl⟩
      have hlr : TRow sI w3 ia (plc ks n1).length (intP (plc ks n1)) := hL.own.row (intP_len _)
      refine ⟨pa, _, pc, 0, ps, ia, ic, intP (plc ks n1), rfl, hT.bel, hpr, hlr, hide ?_⟩
      refine (rtake_ok a n1 c es a1 c1 ks w3 ((HR.out.bel (Below.on HB2.out hX)).bel hT.bel) HO.out HN.out ((HB.out.below (Below.on HB2.out hX)).below hT.bel)).mono ?_
      rintro r w4 ⟨qs, qa, qc, ja, jc, rfl, hU, hM⟩
      obtain ⟨qa', qc', hv, hqr, _⟩ := hU.form
      obtain ⟨rfl, rfl⟩ : qa = qa' ∧ qc = qc' := by cases hv; exact ⟨rfl, rfl⟩
      have hle := plc_le ks n1
      refine ⟨qa, qc, qs, ja, jc, rfl, hU.bel, hqr, hM.own.row (intP_len _), twins_viaP HGt.out hT hU (fun p hp => by rw [HLes.out]; exact plc_lt ks n1 p hp), by omega, tw_small hU (ok_pk HO.out (fun p hp => by rw [HLes.out]; exact plc_lt ks n1 p hp))⟩
    · refine (take_bad ga n gc ca n1 cc X hq).mono ?_
      rintro r w3 ⟨rfl, rfl⟩
      refine ⟨none, 0, 0, 220, [], none, 0, [], rfl, Below.refl _ _, ⟨rfl, .inl rfl⟩, TRow.nil _ _ _, hide ?_⟩
      refine (rtake_bad a n c a1 n1 c1 w3 hq).mono ?_
      rintro r w4 ⟨rfl, rfl⟩
      exact ⟨none, 0, [], none, 0, rfl, Below.refl _ _, ⟨rfl, .inl rfl⟩, TRow.nil _ _ _, trivial, by omega, fun e he => by cases he⟩)
  have HEs : Hid (∀ e ∈ es, (e.ls.length : Int) ≤ 9223372036854775806) := hide (fun e he => by have := (HO.out e he).len; omega)
  go_wp2_with fail
  refine HPre.out.mono ?_
  rintro r w3 ⟨pa, pn, pc, er, ps, rfl, hb3, hp3, HRp⟩
  have HB3 := hide hb3
  have HP3 := hide hp3
  clear hb3 hp3 HPre
  go_wp2_with fail
  refine HRp.out.mono ?_
  rintro r w4 ⟨qa, qc, qs, rfl, hb4, hq4, ht4, hpn, hqs⟩
  have HB4 := hide (Below.on HB3.out hb4)
  have HSm := hide (s_trace qa pn qc qs pa pc ps w4 hq4 (HP3.out.bel hb4) ht4 hqs hpn)
  have bee : (er != er) = false := by simp
  clear hb4 hq4 ht4 hqs HRp HP3 HB3
  go_wp2_with fail
  refine HSm.out.mono ?_
  rintro r w5 ⟨rfl, hb5⟩
  have HB5 := hide (Below.on HB4.out hb5)
  clear hb5 HSm HB4 bee hpn
  go_wp2_with fail
  refine (HTk.out w5 HB5.out).mono ?_
  rintro r w6 ⟨pa6, pn6, pc6, er6, ps6, ia6, ic6, P6, rfl, hb6, hp6, hi6, HRt⟩
  have HB6 := hide hb6
  have HP6 := hide hp6
  have HI6 := hide hi6
  clear hb6 hp6 hi6 HTk
  go_wp2_with fail
  refine HRt.out.mono ?_
  rintro r w7 ⟨qa7, qc7, qs7, ja7, jc7, rfl, hb7, hq7, hj7, ht7, hpn7, hqs7⟩
  have HB7 := hide (Below.on HB5.out (Below.on HB6.out hb7))
  have HSm := hide (s_trace qa7 pn6 qc7 qs7 pa6 pc6 ps6 w7 hq7 (HP6.out.bel hb7) ht7 hqs7 hpn7)
  have HJ7 := hide (And.intro (HI6.out.below hb7) hj7)
  have HPN := hide hpn7
  have bee : (er6 == er6) = true := by simp
  clear hb7 hq7 ht7 hqs7 HRt HP6 HB6 hj7 HI6 hpn7
  go_wp2_with fail
  refine HSm.out.mono ?_
  rintro r w8 ⟨rfl, hb8⟩
  have HSi := hide (s_ints ia6 ja7 pn6 ic6 jc7 P6 w8 (HJ7.out.1.below hb8) (HJ7.out.2.below hb8) HPN.out)
  have HB8 := hide (Below.on HB7.out hb8)
  clear hb8 HSm HB7
  go_wp2_with fail
  refine HSi.out.mono ?_
  rintro r w9 ⟨rfl, hb9⟩
  have HB9 := hide (Below.on HB8.out hb9)
  have HSm := hide (s_trace a n c es ga gc fs w9 ((HR.out.bel HB2.out).bel HB9.out) ((HGr.out.bel HGb.out).bel HB9.out) HGt.out HEs.out hnM)
  clear hb9 HSi HB8
  go_wp2_with fail
  refine HSm.out.mono ?_
  rintro r w10 ⟨rfl, hb10⟩
  have HB10 := hide (Below.on HB9.out hb10)
  have HSb := hide (s_bools ca a1 n1 cc c1 ks w10 (HCh.out.below HB10.out) ((HB.out.below HB2.out).below HB10.out) hn1M)
  clear hb10 HSm HB9
  go_wp2_with fail
  refine HSb.out.mono ?_
  rintro r w11 ⟨rfl, hb11⟩
  have HB11 := hide (Below.on HB2.out (Below.on HB10.out hb11))
  clear hb11 HSb HB10
  go_wp2
  go_ret
  exact ⟨rfl, HB11.out⟩
end Go.Proofs.Ytchanbiioegegaa
