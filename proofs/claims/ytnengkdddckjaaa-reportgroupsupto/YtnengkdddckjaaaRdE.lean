/-
  ReportGroups.
-/
import Derived.Test.YtnengkdddckjaaaRdD
namespace Go.Proofs.Ytnengkdddckjaaa
open Go.RowKit Go.Maps
set_option linter.unusedVariables false
theorem below_none {w w' : World} (h : w.grownBy w' none) : Below w.heap.size w w' := ⟨h.os, h.tape, h.output, h.size, fun q hq => h.block q hq (by simp)⟩
set_option maxRecDepth 8000 in
set_option maxHeartbeats 16000000 in
theorem groups_any (es : List E6.Ev) (a : Option Addr) (n c : Nat) (ra : Option Addr) (m rc : Nat) (rs : List (Int × Int)) (w : World) (h : E6.ERow w a n es) (hr : TRow sR w ra m rs) (hok : ∀ e ∈ es, e.ok) (hc0 : a = none → c = 0) (hr0 : ra = none → m = 0 ∧ rc = 0) (hmc : m ≤ rc) (hn : n ≤ 1048576) (hm : m ≤ 1048576)
    (hMs : ∀ f ∈ es, f.ls.length ≤ 1048576) :
    Calls Try.prog 3 #[.slice a n c, .slice ra m rc] w fun e w' => e = .returned (.bool true) ∧ Below w.heap.size w w' := by
  have HTw := hide (E6.twin_any a n c es w h hok (by omega) hc0)
  have HE := hide h
  have HR := hide hr
  have HOk := hide hok
  have HMs := hide hMs
  have HN := hide (And.intro hn hm)
  have HMc := hide hmc
  have HR0 := hide hr0
  have hmI : (m : Int) ≤ 1048576 := by omega
  have hnI : (n : Int) ≤ 1048576 := by omega
  have HRl := hide hr.len
  have HEl := hide h.len
  clear h hr hok hc0 hr0 hmc hMs
  go_enter Try.func3, Try.ntmps3
  go_wp2_with fail
  refine HTw.out.mono ?_
  rintro e9 w1 ⟨fs, v, rfl, hTw⟩
  have hTs := hTw.twins HEl.out
  have hfo := hTw.ok HOk.out
  have hb1 := hTw.bel
  obtain ⟨au, cu, hv, hrow1, _⟩ := hTw.form
  subst hv
  have hau : au = none → cu = 0 := fun h5 => by
    obtain ⟨a7, c7, h7, h8, _⟩ := own_form hTw.own
    simp only [Value.slice.injEq] at h7
    obtain ⟨h9, _, h10⟩ := h7
    rw [h10]
    exact (h8 (by rw [← h9]; exact h5)).2
  have HAu := hide hau
  clear hau
  have hfM : ∀ f ∈ fs, f.ls.length ≤ 1048576 := fun f hf => by
    obtain ⟨i, hi⟩ := List.getElem?_of_mem hf
    obtain ⟨e, he, ht, _⟩ := hTw.each i f hi
    have := HMs.out e (List.mem_of_getElem? he)
    rw [ht.2.2.2.2]
    exact this
  have HFo := hide hfo
  have HFM := hide hfM
  have HTs := hide hTs
  have HU1 := hide hrow1
  have HB1 := hide hb1
  have HGr : Hid (∀ (X : World) (ag : Option Addr) (mm cg : Nat) (L : List (Int × Int)), E6.ERow X au n fs → TRow sR X ag mm L → mm ≤ 1048576 → Calls Try.prog 5 #[.slice au n cu, .slice ag mm cg] X (GuR (gres es n L) X)) := hide (fun X ag mm cg L h1 h2 h3 => by
    rw [← gres_twin HTs.out]
    exact (group_any fs au n cu ag mm cg L 1048577 X h1 h2 hn h3 (by omega) HFo.out (fun f hf => by have := HFM.out f hf; omega)).mono fun e w' h9 => gu_of h9)
  have HRg : Hid (∀ X : World, Below w.heap.size w X → Calls Try.prog 6 #[.slice a n c, .slice ra m rc] X (GuR (gres es n rs) X)) := hide (fun X hX =>
    (rgroup_any es a n c ra m rc rs X (HE.out.bel hX) (HR.out.below hX) hn hm HMs.out).mono fun e w' h9 => ru_of h9)
  have HGl := hide (gres_len es n rs)
  have HGl2 := hide (gres_len es n (rs.take (m / 2)))
  obtain ⟨P, hP⟩ : ∃ P, gres es n rs = P := ⟨_, rfl⟩
  obtain ⟨⟨G, C⟩, E⟩ := P
  obtain ⟨P2, hP2⟩ : ∃ P, gres es n (rs.take (m / 2)) = P := ⟨_, rfl⟩
  obtain ⟨⟨G2, C2⟩, E2⟩ := P2
  have HP := hide hP
  have HP2 := hide hP2
  rw [HP.out] at HGl
  rw [HP2.out] at HGl2
  clear hP hP2
  obtain ⟨i0, hi0', hz0, hz1, hz2⟩ := info_parts infoR
  obtain ⟨i1, gi, gz0, gz1, gz2⟩ := info_parts infoI
  clear hTs hfo hb1 hrow1 hfM hTw HTw
  go_wp2_with (at_builtin; refine append_lay sR _ 23 33 i0 _ 16 Try.underlying23 hi0' hz0 hz1 hz2 rfl rfl (.tmp 34) (.tmp 35) rfl w1.heap.size _ [] rfl (Own.nil _ _ _ _) _ _ _ rs rfl (HR.out.below HB1.out) HR0.out (by have := HN.out; unfold maxLen; simp; omega) (by have := HN.out; simp; omega) (Nat.le_refl _) ?_; intro gv w2 hown2 hgr2 hl2; have HW2 : Hid (Own sR 33 w2 w1.heap.size gv rs) := hide hown2; have HB2 : Hid (Below w1.heap.size w1 w2) := hide (below_none hgr2); clear hown2 hgr2 hl2; obtain ⟨ag, cg, hgv, hg0, hgc⟩ := own_form HW2.out; rw [HRl.out] at hgv hg0 hgc; subst hgv)
  have HX2 := hide (Below.on HB1.out HB2.out)
  have HG0 := hide (And.intro hg0 hgc)
  clear hg0 hgc
  have HC := hide (by have h9 := HGr.out w2 ag m cg rs (HU1.out.bel HB2.out) (HW2.out.row HRl.out) HN.out.2; rw [HP.out] at h9; exact h9)
  go_wp2_with fail
  refine HC.out.mono ?_
  rintro e9 w3 ⟨lv, kv, rfl, h1, h2, h3, h4⟩
  have HO3 := hide h1
  have HK3 := hide h2
  have HA3 := hide h3
  have HB3 := hide h4
  obtain ⟨al, cl, hf1, h6, h7⟩ := own_form h1
  obtain ⟨ak, ck, hf2, h8, h9⟩ := own_form h2
  subst hf1
  subst hf2
  clear h1 h2 h3 h4 h6 h7 h8 h9 HC
  have HX3 := hide (Below.on HX2.out HB3.out)
  have HC := hide (by have h9 := HRg.out w3 HX3.out; rw [HP.out] at h9; exact h9)
  go_wp2_with fail
  refine HC.out.mono ?_
  rintro e9 w4 ⟨rv, zv, rfl, h1, h2, h3, h4⟩
  have HO4 := hide h1
  have HK4 := hide h2
  have HA4 := hide h3
  have HB4 := hide h4
  obtain ⟨ar, cr, hf1, h6, h7⟩ := own_form h1
  obtain ⟨az, cz, hf2, h8, h9⟩ := own_form h2
  subst hf1
  subst hf2
  clear h1 h2 h3 h4 h6 h7 h8 h9 HC
  have HX4 := hide (Below.on HX3.out HB4.out)
  have HU4 := hide (((HU1.out.bel HB2.out).bel HB3.out).bel HB4.out)
  have HGv4 := hide ((HW2.out.below HB3.out).below HB4.out)
  have HC := hide (by have h9 := HGr.out w4 ag m cg rs HU4.out (HGv4.out.row HRl.out) HN.out.2; rw [HP.out] at h9; exact h9)
  go_wp2_with fail
  refine HC.out.mono ?_
  rintro e9 w5 ⟨xv, yv, rfl, h1, h2, h3, h4⟩
  have HO5 := hide h1
  have HK5 := hide h2
  have HA5 := hide h3
  have HB5 := hide h4
  obtain ⟨ax, cx, hf1, h6, h7⟩ := own_form h1
  obtain ⟨ay, cy, hf2, h8, h9⟩ := own_form h2
  subst hf1
  subst hf2
  clear h1 h2 h3 h4 h6 h7 h8 h9 HC
  have HX5 := hide (Below.on HX4.out HB5.out)
  obtain ⟨mh, hmh⟩ : ∃ mh, mh = m / 2 := ⟨_, rfl⟩
  have hdiv : (m : Int) / 2 = (mh : Int) := by omega
  have hmh0 : (0 : Int) ≤ (mh : Int) := by omega
  have hmhc : (mh : Int) ≤ (cg : Int) := by have := HG0.out.2; omega
  have hmhc2 : mh ≤ cg := by omega
  have HMh := hide hmh
  clear hmh
  have HU5 := hide (HU4.out.bel HB5.out)
  have HGv5 := hide (HGv4.out.below HB5.out)
  have HC := hide (by have h9 := HGr.out w5 ag mh cg (rs.take mh) HU5.out ((HGv5.out.row HRl.out).cut mh (by have := HMh.out; omega)) (by have := HN.out.2; have := HMh.out; omega); rw [HMh.out, HP2.out] at h9; rw [← HMh.out] at h9; exact h9)
  go_wp2_with fail
  refine HC.out.mono ?_
  rintro e9 w6 ⟨ov, qv, rfl, h1, h2, h3, h4⟩
  have HO6 := hide h1
  have HK6 := hide h2
  have HB6 := hide h4
  obtain ⟨ao, co, hf1, h6, h7⟩ := own_form h1
  obtain ⟨aq, cq, hf2, h8, h9⟩ := own_form h2
  subst hf1
  subst hf2
  have HZ6 := hide h6
  have HY6 := hide h8
  have HG2l := hide (show G2.length ≤ 1048576 ∧ C2.length ≤ 1048576 by have h5 := HGl2.out; have h6 := HN.out.2; have h7 : (rs.take (m / 2)).length ≤ m := (by rw [List.length_take]; omega); omega)
  clear h1 h2 h3 h4 h6 h7 h8 h9 HC hmhc hmhc2 hdiv hmh0
  have HX6 := hide (Below.on HX5.out HB6.out)
  go_wp2_with (at_builtin; first | (refine append_lay sR _ 23 33 i0 _ 16 Try.underlying23 hi0' hz0 hz1 hz2 rfl rfl (.tmp 69) (.tmp 70) rfl w6.heap.size _ [] rfl (Own.nil _ _ _ _) _ _ _ G2 rfl (HO6.out.row rfl) HZ6.out (by have := HG2l.out; unfold maxLen; simp; omega) (by have := HG2l.out; simp; omega) (Nat.le_refl _) ?_; intro kv w7 hown7 hgr7 hl7; have HW7 : Hid (Own sR 33 w7 w6.heap.size kv G2) := hide hown7; have HB7 : Hid (Below w6.heap.size w6 w7) := hide (below_none hgr7); clear hown7 hgr7 hl7) | (refine append_lay sI _ 25 3 i1 _ 8 Try.underlying25 gi gz0 gz1 gz2 rfl rfl (.tmp 72) (.tmp 73) rfl w7.heap.size _ [] rfl (Own.nil _ _ _ _) _ _ _ C2 rfl ((HK6.out.below HB7.out).row rfl) HY6.out (by have := HG2l.out; unfold maxLen; simp; omega) (by have := HG2l.out; simp; omega) (Nat.le_refl _) ?_; intro jv w8 hown8 hgr8 hl8; have HW8 : Hid (Own sI 3 w8 w7.heap.size jv C2) := hide hown8; have HB8 : Hid (Below w7.heap.size w7 w8) := hide (below_none hgr8); clear hown8 hgr8 hl8))
  obtain ⟨ae, ce, hf1, _, _⟩ := own_form HW7.out
  obtain ⟨aj, cj, hf2, _, _⟩ := own_form HW8.out
  subst hf1
  subst hf2
  have HGB := hide (show C.length = G.length ∧ G.length ≤ 1048576 by have h5 := HGl.out; have h6 := HN.out.2; have h7 := HRl.out; have h8 : C.length = G.length := h5.1; have h9 : G.length ≤ rs.length := h5.2; omega)
  have hb38 := Below.on (Below.on (Below.on (Below.on HB4.out HB5.out) HB6.out) HB7.out) HB8.out
  have hb48 := Below.on (Below.on (Below.on HB5.out HB6.out) HB7.out) HB8.out
  have hb58 := Below.on (Below.on HB6.out HB7.out) HB8.out
  have hb68 := Below.on HB7.out HB8.out
  have HL8 := hide (HO3.out.below hb38)
  have HK8 := hide (HK3.out.below hb38)
  have HR8 := hide (HO4.out.below hb48)
  have HZ8 := hide (HK4.out.below hb48)
  have HT8 := hide (HO5.out.below hb58)
  have HV8 := hide (HK5.out.below hb58)
  have HP8 := hide (HO6.out.below hb68)
  have HQ8 := hide (HK6.out.below hb68)
  have HE8 := hide (HW7.out.below HB8.out)
  have hb28 := Below.on HB3.out hb38
  have HB28 := hide hb28
  have HX8 := hide (Below.on (Below.on HX6.out HB7.out) HB8.out)
  have HS1 := hide (fun (X : World) (hX : Below w8.heap.size w8 X) => s_races al ar G.length cl cr G X ((HL8.out.below hX).row rfl) ((HR8.out.below hX).row rfl) (by have := HGB.out; omega))
  have HS2 := hide (fun (X : World) (hX : Below w8.heap.size w8 X) => s_ints ak az C.length ck cz C X ((HK8.out.below hX).row rfl) ((HZ8.out.below hX).row rfl) (by have := HGB.out; omega))
  have HS3 := hide (fun (X : World) (hX : Below w8.heap.size w8 X) => s_races ax ar G.length cx cr G X ((HT8.out.below hX).row rfl) ((HR8.out.below hX).row rfl) (by have := HGB.out; omega))
  have HS4 := hide (fun (X : World) (hX : Below w8.heap.size w8 X) => s_ints ay az C.length cy cz C X ((HV8.out.below hX).row rfl) ((HZ8.out.below hX).row rfl) (by have := HGB.out; omega))
  have HS5 := hide (fun (X : World) (hX : Below w2.heap.size w2 X) => s_races ag ra m cg rc rs X ((HW2.out.below hX).row HRl.out) (HR.out.below (Below.on HX2.out hX)) (by have := HN.out; omega))
  have HS6 := hide (fun (X : World) (hX : Below w2.heap.size w2 X) => s_trace a n c es au cu fs X (HE.out.bel (Below.on HX2.out hX)) ((HU1.out.bel HB2.out).bel hX) HTs.out (fun e he => by have := HMs.out e he; omega) (by have := HN.out; omega))
  have hEE : (E != E) = false := by simp
  clear hb38 hb48 hb58 hb68 hb28
  refine (HS1.out w8 (Below.refl _ _)).mono ?_
  rintro e9 X1 ⟨rfl, x1⟩
  go_wp2_with fail
  refine (HS2.out X1 x1).mono ?_
  rintro e9 X2 ⟨rfl, y2⟩
  have x2 := Below.on x1 y2
  go_wp2_with fail
  refine (HS3.out X2 x2).mono ?_
  rintro e9 X3 ⟨rfl, y3⟩
  have x3 := Below.on x2 y3
  go_wp2_with fail
  refine (HS4.out X3 x3).mono ?_
  rintro e9 X4 ⟨rfl, y4⟩
  have x4 := Below.on x3 y4
  go_wp2_with fail
  refine (HS5.out X4 (Below.on HB28.out x4)).mono ?_
  rintro e9 X5 ⟨rfl, y5⟩
  have x5 := Below.on x4 y5
  go_wp2_with fail
  refine (HS6.out X5 (Below.on HB28.out x5)).mono ?_
  rintro e9 w9 ⟨rfl, y6⟩
  have x6 := Below.on x5 y6
  have HB9 := hide x6
  clear x1 x2 x3 x4 x5 x6 y2 y3 y4 y5 y6
  go_wp2_with fail
  have hs23 := HB3.out.size
  have hs34 := HB4.out.size
  have hs45 := HB5.out.size
  have hs56 := HB6.out.size
  have hs67 := HB7.out.size
  have hs78 := HB8.out.size
  have hs89 := HB9.out.size
  obtain ⟨B, hB⟩ : ∃ B : Nat → Prop, B = fun q => (w2.heap.size ≤ q ∧ q < w3.heap.size) ∨ w9.heap.size ≤ q := ⟨_, rfl⟩
  have HBd := hide hB
  have HNR := hide (show ∀ g, (Value.slice ar G.length cr).ownBlock = some g → ¬ B g from fun g hg hBg => by have h5 := (HR8.out.below HB9.out).lt g hg; rw [hB] at hBg; have h6 : (w2.heap.size ≤ g ∧ g < w3.heap.size) ∨ w9.heap.size ≤ g := hBg; omega)
  have HNZ := hide (show ∀ g, (Value.slice az C.length cz).ownBlock = some g → ¬ B g from fun g hg hBg => by have h5 := (HZ8.out.below HB9.out).lt g hg; rw [hB] at hBg; have h6 : (w2.heap.size ≤ g ∧ g < w3.heap.size) ∨ w9.heap.size ≤ g := hBg; omega)
  have HNT := hide (show ∀ g, (Value.slice ax G.length cx).ownBlock = some g → ¬ B g from fun g hg hBg => by have h5 := (HT8.out.below HB9.out).lt g hg; rw [hB] at hBg; have h6 : (w2.heap.size ≤ g ∧ g < w3.heap.size) ∨ w9.heap.size ≤ g := hBg; omega)
  have HNV := hide (show ∀ g, (Value.slice ay C.length cy).ownBlock = some g → ¬ B g from fun g hg hBg => by have h5 := (HV8.out.below HB9.out).lt g hg; rw [hB] at hBg; have h6 : (w2.heap.size ≤ g ∧ g < w3.heap.size) ∨ w9.heap.size ≤ g := hBg; omega)
  have HNP := hide (show ∀ g, (Value.slice ao G2.length co).ownBlock = some g → ¬ B g from fun g hg hBg => by have h5 := (HP8.out.below HB9.out).lt g hg; rw [hB] at hBg; have h6 : (w2.heap.size ≤ g ∧ g < w3.heap.size) ∨ w9.heap.size ≤ g := hBg; omega)
  have HNQ := hide (show ∀ g, (Value.slice aq C2.length cq).ownBlock = some g → ¬ B g from fun g hg hBg => by have h5 := (HQ8.out.below HB9.out).lt g hg; rw [hB] at hBg; have h6 : (w2.heap.size ≤ g ∧ g < w3.heap.size) ∨ w9.heap.size ≤ g := hBg; omega)
  have HNE := hide (show ∀ g, (Value.slice ae G2.length ce).ownBlock = some g → ¬ B g from fun g hg hBg => by have h5 := (HE8.out.below HB9.out).lt g hg; rw [hB] at hBg; have h6 : (w2.heap.size ≤ g ∧ g < w3.heap.size) ∨ w9.heap.size ≤ g := hBg; omega)
  have HNJ := hide (show ∀ g, (Value.slice aj C2.length cj).ownBlock = some g → ¬ B g from fun g hg hBg => by have h5 := (HW8.out.below HB9.out).lt g hg; rw [hB] at hBg; have h6 : (w2.heap.size ≤ g ∧ g < w3.heap.size) ∨ w9.heap.size ≤ g := hBg; omega)
  obtain ⟨Φ, hΦ⟩ : ∃ Φ : World → Prop, Φ = fun Y => Below w2.heap.size w2 Y ∧ Own sR 33 Y w3.heap.size (.slice ar G.length cr) G ∧ Own sI 3 Y w3.heap.size (.slice az C.length cz) C ∧ Own sR 33 Y w4.heap.size (.slice ax G.length cx) G ∧ Own sI 3 Y w4.heap.size (.slice ay C.length cy) C ∧ Own sR 33 Y w5.heap.size (.slice ao G2.length co) G2 ∧ Own sI 3 Y w5.heap.size (.slice aq C2.length cq) C2 ∧ Own sR 33 Y w6.heap.size (.slice ae G2.length ce) G2 ∧ Own sI 3 Y w7.heap.size (.slice aj C2.length cj) C2 ∧ w9.heap.size ≤ Y.heap.size := ⟨_, rfl⟩
  have HPh := hide hΦ
  have HSt := hide (show ∀ Y Z, Φ Y → But B Y Z → Φ Z from fun Y Z hY hb => by
    rw [hΦ] at hY ⊢
    obtain ⟨z0, zR, zZ, zT, zV, zP, zQ, zE, zJ, z9⟩ := hY
    refine ⟨z0.trans (hb.below z0.size (fun q hq => by rw [hB] at hq; have h6 : (w2.heap.size ≤ q ∧ q < w3.heap.size) ∨ w9.heap.size ≤ q := hq; omega)), zR.but hb HNR.out, zZ.but hb HNZ.out, zT.but hb HNT.out, zV.but hb HNV.out, zP.but hb HNP.out, zQ.but hb HNQ.out, zE.but hb HNE.out, zJ.but hb HNJ.out, Nat.le_trans z9 hb.size⟩)
  have HF9 := hide (show Φ w9 by rw [hΦ]; exact ⟨Below.on HB28.out HB9.out, HR8.out.below HB9.out, HZ8.out.below HB9.out, HT8.out.below HB9.out, HV8.out.below HB9.out, HP8.out.below HB9.out, HQ8.out.below HB9.out, HE8.out.below HB9.out, HW8.out.below HB9.out, Nat.le_refl _⟩)
  have HL9 := hide (HL8.out.below HB9.out)
  have HK9 := hide (HK8.out.below HB9.out)
  have HBl := hide (show ∀ q, w2.heap.size ≤ q → q < w3.heap.size → B q from fun q h1 h2 => by rw [hB]; exact .inl ⟨h1, h2⟩)
  have HBn := hide (show ∀ q, w9.heap.size ≤ q → B q from fun q h1 => by rw [hB]; exact .inr h1)
  have hGI : (G.length : Int) ≤ 1048576 := by have := HGB.out; omega
  have HLt3 := hide HO3.out.lt
  have HKt3 := hide HK3.out.lt
  have HQ1 : Hid (∀ Z, Φ Z → Calls Try.prog 7 #[.slice ax G.length cx, .slice ar G.length cr] Z fun e w' => e = .returned (.bool true) ∧ Below Z.heap.size Z w') := hide (fun Z hZ => by rw [HPh.out] at hZ; obtain ⟨z0, zR, zZ, zT, zV, zP, zQ, zE, zJ, z9⟩ := hZ; exact s_races ax ar G.length cx cr G Z (zT.row rfl) (zR.row rfl) (by have := HGB.out; omega))
  have HQ2 : Hid (∀ Z, Φ Z → Calls Try.prog 8 #[.slice ay C.length cy, .slice az C.length cz] Z fun e w' => e = .returned (.bool true) ∧ Below Z.heap.size Z w') := hide (fun Z hZ => by rw [HPh.out] at hZ; obtain ⟨z0, zR, zZ, zT, zV, zP, zQ, zE, zJ, z9⟩ := hZ; exact s_ints ay az C.length cy cz C Z (zV.row rfl) (zZ.row rfl) (by have := HGB.out; omega))
  have HQ3 : Hid (∀ Z, Φ Z → Calls Try.prog 7 #[.slice ao G2.length co, .slice ae G2.length ce] Z fun e w' => e = .returned (.bool true) ∧ Below Z.heap.size Z w') := hide (fun Z hZ => by rw [HPh.out] at hZ; obtain ⟨z0, zR, zZ, zT, zV, zP, zQ, zE, zJ, z9⟩ := hZ; exact s_races ao ae G2.length co ce G2 Z (zP.row rfl) (zE.row rfl) (by have := HG2l.out; omega))
  have HQ4 : Hid (∀ Z, Φ Z → Calls Try.prog 8 #[.slice aq C2.length cq, .slice aj C2.length cj] Z fun e w' => e = .returned (.bool true) ∧ Below Z.heap.size Z w') := hide (fun Z hZ => by rw [HPh.out] at hZ; obtain ⟨z0, zR, zZ, zT, zV, zP, zQ, zE, zJ, z9⟩ := hZ; exact s_ints aq aj C2.length cq cj C2 Z (zQ.row rfl) (zJ.row rfl) (by have := HG2l.out; omega))
  have HQ5 : Hid (∀ Z, Φ Z → Own sR 33 Z w3.heap.size (.slice ar G.length cr) G) := hide (fun Z hZ => by rw [HPh.out] at hZ; obtain ⟨z0, zR, zZ, zT, zV, zP, zQ, zE, zJ, z9⟩ := hZ; exact zR)
  have HQ6 : Hid (∀ Z, Φ Z → Own sI 3 Z w3.heap.size (.slice az C.length cz) C) := hide (fun Z hZ => by rw [HPh.out] at hZ; obtain ⟨z0, zR, zZ, zT, zV, zP, zQ, zE, zJ, z9⟩ := hZ; exact zZ)
  have HStB := hide (fun (Y Z : World) (hY : Φ Y) (hb : Below Y.heap.size Y Z) => HSt.out Y Z hY (But.of_below hb))
  clear hB hΦ hs23 hs34 hs45 hs56 hs67 hs78 hs89 HR8 HZ8 HT8 HV8 HP8 HQ8 HE8 HW8 HO3 HK3 HO4 HK4 HO5 HK5 HO6 HK6 HL8 HK8 HS1 HS2 HS3 HS4 HU4 HU5 HGv4 HGv5 hEE
  go_loopw [21] (fun iv wr => ∃ (i : Nat) (L : List (Int × Int)) (N : List Int), i ≤ G.length ∧ iv = .int .i64 i ∧ L.length = G.length ∧ N.length = C.length ∧ Hid (Own sR 33 wr w2.heap.size (.slice al G.length cl) L) ∧ Hid (Own sI 3 wr w2.heap.size (.slice ak C.length ck) N) ∧ Hid (Φ wr)) (fun iv _ => G.length - (intOf iv).toNat)
  case atStart => exact ⟨0, G, C, Nat.zero_le _, rfl, rfl, rfl, HL9, HK9, HF9⟩
  case round =>
    obtain ⟨i, L, N, hi, rfl, hLl, hNl, HL, HNn, HF⟩ := hrel
    by_cases hlt : i < G.length
    · have hiI : (i : Int) < (G.length : Int) := by omega
      have hi0 : (0 : Int) ≤ (i : Int) := by omega
      have hCG := HGB.out.1
      have hiC : (i : Int) < (C.length : Int) := by omega
      obtain ⟨gl, c9, hsl, _, _, _⟩ := HL.out.frm (by omega)
      rw [hLl] at hsl
      simp only [Value.slice.injEq] at hsl
      obtain ⟨hal, _, hcl⟩ := hsl
      obtain ⟨gn, c8, hsn, _, _, _⟩ := HNn.out.frm (by omega)
      rw [hNl] at hsn
      simp only [Value.slice.injEq] at hsn
      obtain ⟨hak, _, hck⟩ := hsn
      subst hal
      subst hak
      subst hcl
      subst hck
      have hne : gn ≠ gl := fun e => by
        obtain ⟨cur, h5⟩ := own_ty HL.out (b := gl) rfl
        exact own_ne_cells HNn.out h5 (by decide) (by rw [e]; rfl)
      have hne2 : gl ≠ gn := fun e => hne e.symm
      have hx : L[i]? = some (L.getD i (0, 0)) := by rw [List.getD_eq_getElem?_getD, List.getElem?_eq_getElem (by omega)]; rfl
      have hy : N[i]? = some (N.getD i 0) := by rw [List.getD_eq_getElem?_getD, List.getElem?_eq_getElem (by omega)]; rfl
      have k0 := HL.out.cell hx 0 rfl
      have k1 := HL.out.cell hx 1 rfl
      have f0 := HL.out.frozen (i * 2)
      have f1 := HL.out.frozen (i * 2 + 1)
      have k2 := HNn.out.cell hy 0 rfl
      rw [Nat.add_zero, show i * sI.z = i from Nat.mul_one i] at k2
      rw [show i * sR.z + 0 = i * 2 from rfl] at k0
      rw [show i * sR.z + 1 = i * 2 + 1 from rfl] at k1
      have f2 := HNn.out.frozen i
      have HLt := hide hlt
      have hbl : B gl := HBl.out _ (HLt3.out gl rfl).1 (HLt3.out gl rfl).2
      have hbn : B gn := HBl.out _ (HKt3.out gn rfl).1 (HKt3.out gn rfl).2
      have ht1 : But (fun q => q = gl) wr ((wr.setCell ⟨gl, i * 2, none⟩ (.int .i64 (-3))).setCell ⟨gl, i * 2 + 1, none⟩ (.int .i64 (-4))) := ((But.refl (fun q => q = gl) wr).setCell ⟨gl, i * 2, none⟩ (fun _ => rfl) _).setCell ⟨gl, i * 2 + 1, none⟩ (fun _ => rfl) _
      have hL2 : Own sR 33 ((wr.setCell ⟨gl, i * 2, none⟩ (.int .i64 (-3))).setCell ⟨gl, i * 2 + 1, none⟩ (.int .i64 (-4))) w2.heap.size (.slice (some ⟨gl, 0, none⟩) G.length cl) (L.set i (-3, -4)) := HL.out.set hLl (by omega) (-3, -4)
      have hN2 := HNn.out.but ht1 (fun g h1 h2 => by
        have h5 : gn = g := by simpa [Value.ownBlock] using h1
        exact hne (h5.trans h2))
      have hF2 := HSt.out _ _ HF.out (ht1.mono (T := B) (fun q e => by rw [e]; exact hbl))
      obtain ⟨W2, hW2⟩ : ∃ W2, W2 = (wr.setCell ⟨gl, i * 2, none⟩ (.int .i64 (-3))).setCell ⟨gl, i * 2 + 1, none⟩ (.int .i64 (-4)) := ⟨_, rfl⟩
      have HW2e := hide hW2
      rw [← hW2] at hL2 hN2 hF2
      have k3 := hN2.cell hy 0 rfl
      rw [Nat.add_zero, show i * sI.z = i from Nat.mul_one i] at k3
      have f3 := hN2.frozen i
      have ht2 : But (fun q => q = gn) W2 (W2.setCell ⟨gn, i, none⟩ (.int .i64 (-5))) := (But.refl (fun q => q = gn) W2).setCell ⟨gn, i, none⟩ (fun _ => rfl) _
      have hN3 := hN2.setU (t := 0) (u := .int .i64 (-5)) (a' := -5) hNl hy (by decide) rfl
      rw [Nat.add_zero, show i * sI.z = i from Nat.mul_one i] at hN3
      have hL3 := hL2.but ht2 (fun g h1 h2 => by
        have h5 : gl = g := by simpa [Value.ownBlock] using h1
        exact hne2 (h5.trans h2))
      have hF3 := HSt.out _ _ hF2 (ht2.mono (T := B) (fun q e => by rw [e]; exact hbn))
      have HE3 := hide (And.intro hL3 (And.intro hN3 hF3))
      rw [hW2] at k3 f3
      clear hx hy hbl hbn ht1 hL2 hN2 hF2 hW2 ht2 hN3 hL3 hF3
      go_wp2
      rw [← HW2e.out]
      have hlt := HLt.out
      exact ⟨⟨i + 1, L.set i (-3, -4), N.set i (-5), by omega, by go_num, by rw [List.length_set]; exact hLl, by rw [List.length_set]; exact hNl, hide HE3.out.1, hide HE3.out.2.1, hide HE3.out.2.2⟩, by simp [intOf]; omega⟩
    · have hi9 : i = G.length := by omega
      have hiI : ¬ (i : Int) < (G.length : Int) := by omega
      have HL0 : Hid (Own sR 33 wr w2.heap.size (.slice al G.length cl) L ∧ L.length = G.length ∧ Own sI 3 wr w2.heap.size (.slice ak C.length ck) N ∧ N.length = C.length ∧ (∀ q, (Value.slice al G.length cl).ownBlock = some q → B q) ∧ (∀ q, (Value.slice ak C.length ck).ownBlock = some q → B q)) := hide ⟨HL.out, hLl, HNn.out, hNl, fun q h => HBl.out q (HLt3.out q h).1 (HLt3.out q h).2, fun q h => HBl.out q (HKt3.out q h).1 (HKt3.out q h).2⟩
      clear hlt hi hi9 hLl hNl HL HNn
      obtain ⟨wO, rfl⟩ : ∃ x, x = wr := ⟨wr, rfl⟩
      have HZ9 := hide (show ∀ Y, Φ Y → w9.heap.size ≤ Y.heap.size ∧ Below w2.heap.size w2 Y from fun Y hY => by
        rw [HPh.out] at hY
        exact ⟨hY.2.2.2.2.2.2.2.2.2, hY.1⟩)
      have hs29 : w2.heap.size ≤ w9.heap.size := (HZ9.out w9 HF9.out).2.size
      have HS29 := hide hs29
      clear hs29
      go_wp2
      go_loopw [7, 8, 22] (fun lv nv iv wr => ∃ (i : Nat) (L : List (Int × Int)) (N : List Int), i ≤ 70 ∧ iv = .int .i64 i ∧ Hid (L.length = G.length + i ∧ N.length = C.length + i) ∧ Hid (Own sR 33 wr w2.heap.size lv L) ∧ Hid (Own sI 3 wr w2.heap.size nv N) ∧ Hid ((∀ q, lv.ownBlock = some q → B q) ∧ (∀ q, nv.ownBlock = some q → B q)) ∧ Hid (Φ wr)) (fun _ _ iv _ => 70 - (intOf iv).toNat)
      case atStart => exact ⟨0, L, N, by omega, rfl, hide ⟨HL0.out.2.1, HL0.out.2.2.2.1⟩, hide HL0.out.1, hide HL0.out.2.2.1, hide HL0.out.2.2.2.2, HF⟩
      case round =>
        clear HL0 HF
        obtain ⟨i, L, N, hi, rfl, HLn, HL, HNn, HBb, HF⟩ := hrel
        obtain ⟨alx, clx, hlx, _, _⟩ := own_form HL.out
        obtain ⟨anx, cnx, hnx, _, _⟩ := own_form HNn.out
        subst hlx
        subst hnx
        obtain ⟨wP, rfl⟩ : ∃ x, x = wr := ⟨wr, rfl⟩
        by_cases hlt : i < 70
        · have hiI : (i : Int) < 70 := by omega
          have hi0 : (0 : Int) ≤ (i : Int) := by omega
          have HLb := hide (show L.length ≤ 1048646 ∧ N.length ≤ 1048646 by have h5 := HLn.out; have h6 := HGB.out; omega)
          have HSz : Hid (w2.heap.size ≤ wP.heap.size) := hide (HZ9.out _ HF.out).2.size
          have HAp : Hid (∀ q, (Value.slice alx L.length clx).ownBlock = some q → (Value.slice anx N.length cnx).ownBlock ≠ some q) := hide (fun q h3 h5 => by
            obtain ⟨cur, e⟩ := own_ty HL.out h3
            exact own_ne_cells HNn.out e (by decide) h5)
          have HLt := hide hlt
          go_wp2_with (at_builtin; first | (refine append_lay sR _ 23 33 i0 _ 16 Try.underlying23 hi0' hz0 hz1 hz2 rfl rfl (.tmp 131) (.tmp 135) rfl w2.heap.size _ L rfl (HL.out.below (below_alloc1 _ _)) _ _ _ [(-100 - (i : Int), 0)] rfl (TRow.one (heap_new _ _)) (fun e => by cases e) (by have := HLb.out; unfold maxLen; simp; omega) (by have := HLb.out; simp; omega) (by have := HSz.out; simp; omega) ?_; intro v4 w4 hown4 hgr4 hl4; have HN4 := hide ((HNn.out.below (below_alloc1 wP _)).but (But.of_grown (S := fun k => (Value.slice alx L.length clx).ownBlock = some k) hgr4 (fun k e => e)) (fun g h1 h2 => HAp.out g h2 h1)); have HSz4 : Hid (w2.heap.size ≤ w4.heap.size) := hide (Nat.le_trans HSz.out (Nat.le_trans (by simp) hgr4.size)); have HW4 := hide hown4; have HR4 := hide hgr4; have HL4 := hide hl4; clear hown4 hgr4 hl4) | (refine append_lay sI _ 25 3 i1 _ 8 Try.underlying25 gi gz0 gz1 gz2 rfl rfl (.tmp 137) (.tmp 140) rfl w2.heap.size _ N rfl (HN4.out.below (below_alloc1 _ _)) _ _ _ [-100 - (i : Int)] rfl (TRow.one (heap_new _ _)) (fun e => by cases e) (by have := HLb.out; unfold maxLen; simp; omega) (by have := HLb.out; simp; omega) (by have := HSz4.out; simp; omega) ?_; intro v6 w6' hown6 hgr6 hl6; have HW6' := hide hown6; have HR6 := hide hgr6; have HL6 := hide hl6; clear hown6 hgr6 hl6))
          have hof6 : Own sR 33 w6' w2.heap.size v4 (L ++ [(-100 - (i : Int), 0)]) := (HW4.out.below (below_alloc1 w4 _)).but (But.of_grown (S := fun k => (Value.slice anx N.length cnx).ownBlock = some k) HR6.out (fun k e => e)) (fun g h1 h2 => by
            obtain ⟨cur, e⟩ := own_ty HW4.out h1
            exact own_ne_cells HN4.out e (by decide) h2)
          have hB4 : But B wP w4 := (But.of_below (below_alloc1 wP _)).grown HR4.out (fun k _ e => HBb.out.1 k e)
          have hB6 : But B wP w6' := (hB4.on (below_alloc1 w4 _)).grown HR6.out (fun k _ e => HBb.out.2 k e)
          have hz9 := (HZ9.out _ HF.out).1
          have hq4 : ∀ q, v4.ownBlock = some q → B q := fun q hq => by
            rcases HL4.out with e | e
            · exact HBb.out.1 q (e.symm.trans hq)
            · have e2 : q = _ := Option.some.inj (hq.symm.trans e)
              exact HBn.out q (by rw [e2]; simp; omega)
          have hq6 : ∀ q, v6.ownBlock = some q → B q := fun q hq => by
            rcases HL6.out with e | e
            · exact HBb.out.2 q (e.symm.trans hq)
            · have e2 : q = _ := Option.some.inj (hq.symm.trans e)
              have := hB4.size
              exact HBn.out q (by rw [e2]; simp; omega)
          have hlt := HLt.out
          have hln := HLn.out
          exact ⟨⟨i + 1, _, _, by omega, by go_num, hide ⟨by simp; omega, by simp; omega⟩, hide hof6, hide HW6'.out, hide ⟨hq4, hq6⟩, hide (HSt.out _ _ HF.out hB6)⟩, by simp [intOf]; omega⟩
        · have hi9 : i = 70 := by omega
          have hiI : ¬ (i : Int) < 70 := by omega
          have hLL : (L.length : Int) = (G.length : Int) + 70 := by have := HLn.out; omega
          have hNL : (N.length : Int) = (C.length : Int) + 70 := by have := HLn.out; omega
          have hCI : (C.length : Int) ≤ 1048576 := by have := HGB.out; omega
          clear hlt hi
          go_wp2_with fail
          refine (HQ1.out _ HF.out).mono ?_
          rintro e9 Y1 ⟨rfl, y1⟩
          have HF1 := hide (HStB.out _ _ HF.out y1)
          clear y1
          go_wp2_with fail
          refine (HQ2.out _ HF1.out).mono ?_
          rintro e9 Y2 ⟨rfl, y2⟩
          have HF2 := hide (HStB.out _ _ HF1.out y2)
          clear y2
          go_wp2_with fail
          refine (HQ3.out _ HF2.out).mono ?_
          rintro e9 Y3 ⟨rfl, y3⟩
          have HF3 := hide (HStB.out _ _ HF2.out y3)
          clear y3
          go_wp2_with fail
          refine (HQ4.out _ HF3.out).mono ?_
          rintro e9 Y4 ⟨rfl, y4⟩
          have HF4 := hide (HStB.out _ _ HF3.out y4)
          clear y4
          go_wp2_with fail
          have HB24 := hide (HZ9.out _ HF4.out).2
          have hU4 := (HU1.out.bel HB2.out).bel HB24.out
          have hT4 := (HW2.out.below HB24.out).row HRl.out
          have HC : Hid (Calls Try.prog 5 #[.slice au n cu, .slice ag m cg] Y4 (GuR ((G, C), E) Y4)) := hide (by have h9 := HGr.out Y4 ag m cg rs hU4 hT4 HN.out.2; rw [HP.out] at h9; exact h9)
          clear hU4 hT4
          refine HC.out.mono ?_
          rintro e9 w10 ⟨lv2, kv2, rfl, h1, h2, h3, h4⟩
          have HL10 := hide h1
          have HK10 := hide h2
          have HB10 := hide h4
          have HF10 := hide (HStB.out _ _ HF4.out h4)
          obtain ⟨al2, cl2, hf1, _, _⟩ := own_form h1
          obtain ⟨ak2, ck2, hf2, _, _⟩ := own_form h2
          subst hf1
          subst hf2
          have hB210 := hide (Below.on HB24.out h4)
          clear h1 h2 h3 h4 HC
          have HC1 : Hid (∀ X, Below w10.heap.size w10 X → Calls Try.prog 7 #[.slice al2 G.length cl2, .slice ar G.length cr] X fun e w' => e = .returned (.bool true) ∧ Below X.heap.size X w') := hide (fun X hX => s_races al2 ar G.length cl2 cr G X ((HL10.out.below hX).row rfl) (((HQ5.out _ HF10.out).below hX).row rfl) (by have := HGB.out; omega))
          have HC2 : Hid (∀ X, Below w10.heap.size w10 X → Calls Try.prog 8 #[.slice ak2 C.length ck2, .slice az C.length cz] X fun e w' => e = .returned (.bool true) ∧ Below X.heap.size X w') := hide (fun X hX => s_ints ak2 az C.length ck2 cz C X ((HK10.out.below hX).row rfl) (((HQ6.out _ HF10.out).below hX).row rfl) (by have := HGB.out; omega))
          have hEE : (E != E) = false := by simp
          go_wp2_with fail
          refine (HC1.out _ (Below.refl _ _)).mono ?_
          rintro e9 Z1 ⟨rfl, z1⟩
          go_wp2_with fail
          refine (HC2.out _ z1).mono ?_
          rintro e9 Z2 ⟨rfl, z2⟩
          have z2 := Below.on z1 z2
          go_wp2_with fail
          refine (HS5.out _ (Below.on hB210.out z2)).mono ?_
          rintro e9 w11 ⟨rfl, z3⟩
          have HB11 := hide (Below.on hB210.out (Below.on z2 z3))
          clear z1 z2 z3 HC1 HC2 HF1 HF2 HF3 HF4 HF10 HL10 HK10 HB10 hB210 HB24 HQ1 HQ2 HQ3 HQ4 HQ5 HQ6 HSt HStB HPh HF HLn HL HNn HBb HZ9 HS29 HBl HBn HBd hLL hNL hEE
          have HGi := hide (HW2.out.below HB11.out)
          have HSp := hide (show w1.heap.size ≤ w2.heap.size ∧ w2.heap.size ≤ w11.heap.size from ⟨HB2.out.size, HB11.out.size⟩)
          have HGlt := hide HW2.out.lt
          have HBo := hide (Below.on HB2.out HB11.out)
          go_wp2_with fail
          go_loopw [23] (fun iv wr => ∃ (i : Nat) (L : List (Int × Int)), i ≤ m ∧ iv = .int .i64 i ∧ Hid (L.length = m) ∧ Hid (Own sR 33 wr w1.heap.size (.slice ag m cg) L) ∧ Hid (Below w1.heap.size w1 wr)) (fun iv _ => m + 1 - (intOf iv).toNat)
          case atStart => exact ⟨0, rs, Nat.zero_le _, rfl, HRl, HGi, HBo⟩
          case round =>
            obtain ⟨i, L, hi, rfl, HLm, HL, HBi⟩ := hrel
            obtain ⟨wP, rfl⟩ : ∃ x, x = wr := ⟨wr, rfl⟩
            have hi0 : (0 : Int) ≤ (i : Int) := by omega
            have hiB : (i : Int) ≤ 1048576 := by omega
            by_cases hlt : 2 * i + 1 < m
            · have hlI : 2 * (i : Int) + 1 < (m : Int) := by omega
              obtain ⟨j, hj⟩ : ∃ j, j = m - 1 - i := ⟨_, rfl⟩
              have hjI : (m : Int) - 1 - (i : Int) = (j : Int) := by omega
              have hj0 : (0 : Int) ≤ (j : Int) := by omega
              have hjm : (j : Int) < (m : Int) := by omega
              have him : (i : Int) < (m : Int) := by omega
              have hij : i < j := by omega
              have hLm := HLm.out
              obtain ⟨g, c9, hsl, _, _, _⟩ := HL.out.frm (by omega)
              rw [hLm] at hsl
              simp only [Value.slice.injEq] at hsl
              obtain ⟨hag, _, hcg⟩ := hsl
              subst hag
              subst hcg
              obtain ⟨⟨p, q⟩, hx⟩ : ∃ x, L[i]? = some x := ⟨_, List.getElem?_eq_getElem (by omega)⟩
              obtain ⟨⟨p', q'⟩, hy⟩ : ∃ x, L[j]? = some x := ⟨_, List.getElem?_eq_getElem (by omega)⟩
              have k0 : wP.cell? ⟨g, i * 2, none⟩ = some (.int .i64 p) := HL.out.cell hx 0 rfl
              have k1 : wP.cell? ⟨g, i * 2 + 1, none⟩ = some (.int .i64 q) := HL.out.cell hx 1 rfl
              have k2 : wP.cell? ⟨g, j * 2, none⟩ = some (.int .i64 p') := HL.out.cell hy 0 rfl
              have k3 : wP.cell? ⟨g, j * 2 + 1, none⟩ = some (.int .i64 q') := HL.out.cell hy 1 rfl
              have f0 := HL.out.frozen (i * 2)
              have f1 := HL.out.frozen (i * 2 + 1)
              have f2 := HL.out.frozen (j * 2)
              have f3 := HL.out.frozen (j * 2 + 1)
              have q0 : ¬ j * 2 = i * 2 := by omega
              have q1 : ¬ j * 2 = i * 2 + 1 := by omega
              have q2 : ¬ j * 2 + 1 = i * 2 := by omega
              have q3 : ¬ i * 2 = j * 2 := by omega
              have q4 : ¬ i * 2 = j * 2 + 1 := by omega
              have q5 : ¬ i * 2 + 1 = j * 2 := by omega
              have hgw : g < wP.heap.size := (HL.out.lt g rfl).2
              have hgw2 : ¬ g = wP.heap.size := by omega
              have hgw3 : ¬ wP.heap.size = g := by omega
              obtain ⟨W1, hW1⟩ : ∃ W1, W1 = (wP.setCell ⟨g, i * 2, none⟩ (.int .i64 p')).setCell ⟨g, i * 2 + 1, none⟩ (.int .i64 q') := ⟨_, rfl⟩
              have ht1 : But (fun k => k = g) wP W1 := by rw [hW1]; exact ((But.refl (fun k => k = g) wP).setCell ⟨g, i * 2, none⟩ (fun _ => rfl) _).setCell ⟨g, i * 2 + 1, none⟩ (fun _ => rfl) _
              have hL1 : Own sR 33 W1 w1.heap.size (.slice (some ⟨g, 0, none⟩) m cg) (L.set i (p', q')) := by rw [hW1]; exact HL.out.set hLm (by omega) (p', q')
              have hL2 : Own sR 33 ((W1.setCell ⟨g, j * 2, none⟩ (.int .i64 p)).setCell ⟨g, j * 2 + 1, none⟩ (.int .i64 q)) w1.heap.size (.slice (some ⟨g, 0, none⟩) m cg) ((L.set i (p', q')).set j (p, q)) := hL1.set (by rw [List.length_set]; exact hLm) (by rw [List.length_set]; omega) (p, q)
              have ht2 : But (fun k => k = g) W1 ((W1.setCell ⟨g, j * 2, none⟩ (.int .i64 p)).setCell ⟨g, j * 2 + 1, none⟩ (.int .i64 q)) := ((But.refl (fun k => k = g) W1).setCell ⟨g, j * 2, none⟩ (fun _ => rfl) _).setCell ⟨g, j * 2 + 1, none⟩ (fun _ => rfl) _
              have hg1 : w1.heap.size ≤ g := (HL.out.lt g rfl).1
              have h5 : Below w1.heap.size w1 W1 := HBi.out.trans (ht1.below HBi.out.size (fun k e => by rw [e]; exact hg1))
              have hbw : Below w1.heap.size w1 ((W1.setCell ⟨g, j * 2, none⟩ (.int .i64 p)).setCell ⟨g, j * 2 + 1, none⟩ (.int .i64 q)) := h5.trans (ht2.below h5.size (fun k e => by rw [e]; exact hg1))
              rw [hW1] at hL2 hbw
              have HE3 := hide (And.intro (hL2.below (below_alloc1 _ (.cells #[.int .i64 p, .int .i64 q] 33))) (Below.on hbw (below_alloc1 _ (.cells #[.int .i64 p, .int .i64 q] 33))))
              have HLt := hide hlt
              have HLl := hide (show ((L.set i (p', q')).set j (p, q)).length = m by rw [List.length_set, List.length_set]; exact hLm)
              clear hx hy ht1 hL1 hL2 ht2 hbw hW1 hlt hj hLm hg1 h5
              go_wp2_with fail
              have hlt := HLt.out
              exact ⟨⟨i + 1, _, by omega, by go_num, hide HLl.out, hide HE3.out.1, hide HE3.out.2⟩, by simp [intOf]; omega⟩
            · have hlI : ¬ 2 * (i : Int) + 1 < (m : Int) := by omega
              obtain ⟨P3, hP3⟩ : ∃ P, gres es n L = P := ⟨_, rfl⟩
              obtain ⟨⟨G3, C3⟩, E3⟩ := P3
              have HP3 := hide hP3
              have HGl3 := hide (show C3.length = G3.length ∧ G3.length ≤ 1048576 by
                have h5 := gres_len es n L
                rw [hP3] at h5
                have h6 := HN.out.2
                have h7 := HLm.out
                have h8 : C3.length = G3.length := h5.1
                have h9 : G3.length ≤ L.length := h5.2
                omega)
              have HTL := hide (HL.out.row HLm.out)
              clear hlt hP3
              go_wp2_with (at_builtin; refine append_lay sR _ 23 33 i0 _ 16 Try.underlying23 hi0' hz0 hz1 hz2 rfl rfl (.tmp 239) (.tmp 240) rfl wP.heap.size _ [] rfl (Own.nil _ _ _ _) _ _ _ L rfl HTL.out HG0.out.1 (by have := HN.out; unfold maxLen; simp; omega) (by have := HN.out; simp; omega) (Nat.le_refl _) ?_; intro pv w12 hown12 hgr12 hl12; have HW12 : Hid (Own sR 33 w12 wP.heap.size pv L) := hide hown12; have HB12 : Hid (Below wP.heap.size wP w12) := hide (below_none hgr12); clear hown12 hgr12 hl12; obtain ⟨apx, cpx, hpv, _, _⟩ := own_form HW12.out; rw [HLm.out] at hpv; subst hpv)
              have HB112 := hide (Below.on HBi.out HB12.out)
              have hU12 := HU1.out.bel HB112.out
              have hT12 := HTL.out.below HB12.out
              have HC : Hid (Calls Try.prog 5 #[.slice au n cu, .slice ag m cg] w12 (GuR ((G3, C3), E3) w12)) := hide (by have h9 := HGr.out w12 ag m cg L hU12 hT12 HN.out.2; rw [HP3.out] at h9; exact h9)
              clear hU12 hT12
              refine HC.out.mono ?_
              rintro e9 w13 ⟨lv3, kv3, rfl, h1, h2, h3, h4⟩
              have HL13 := hide h1
              have HK13 := hide h2
              have HB13 := hide h4
              obtain ⟨al3, cl3, hf1, _, _⟩ := own_form h1
              obtain ⟨ak3, ck3, hf2, _, _⟩ := own_form h2
              subst hf1
              subst hf2
              clear h1 h2 h3 h4 HC
              have HB113 := hide (Below.on HB112.out HB13.out)
              have HTw2 := hide (E6.twin_any au n cu fs w13 (HU1.out.bel HB113.out) HFo.out (by have := HN.out; omega) HAu.out)
              go_wp2_with fail
              refine HTw2.out.mono ?_
              rintro e9 w14 ⟨fs2, v2, rfl, hTw2⟩
              have hTs2 := hTw2.twins (HU1.out.len)
              have hfo2 := hTw2.ok HFo.out
              have HB14 := hide hTw2.bel
              obtain ⟨au2, cu2, hv2, hrow2, _⟩ := hTw2.form
              subst hv2
              have hfM2 : ∀ f ∈ fs2, f.ls.length + 1 ≤ 1048577 := fun f hf => by
                obtain ⟨i, hi⟩ := List.getElem?_of_mem hf
                obtain ⟨e, he, ht, _⟩ := hTw2.each i f hi
                have := HFM.out e (List.mem_of_getElem? he)
                rw [ht.2.2.2.2]
                omega
              have hcp : TRow sR w14 apx m L := ((HW12.out.below HB13.out).below HB14.out).row HLm.out
              have HC : Hid (Calls Try.prog 5 #[.slice au2 n cu2, .slice apx m cpx] w14 (GuR ((G3, C3), E3) w14)) := hide (by
                have h9 := (group_any fs2 au2 n cu2 apx m cpx L 1048577 w14 hrow2 hcp HN.out.1 HN.out.2 (by omega) hfo2 hfM2).mono fun e w' h9 => gu_of h9
                rw [gres_twin hTs2, gres_twin HTs.out, HP3.out] at h9
                exact h9)
              clear hTs2 hfo2 hrow2 hfM2 hcp hTw2 HTw2
              go_wp2_with fail
              refine HC.out.mono ?_
              rintro e9 w15 ⟨lv4, kv4, rfl, h1, h2, h3, h4⟩
              have HL15 := hide h1
              have HK15 := hide h2
              have HB15 := hide h4
              obtain ⟨al4, cl4, hf1, _, _⟩ := own_form h1
              obtain ⟨ak4, ck4, hf2, _, _⟩ := own_form h2
              subst hf1
              subst hf2
              clear h1 h2 h3 h4 HC
              have HB1315 := hide (Below.on HB14.out HB15.out)
              have HD1 : Hid (Calls Try.prog 7 #[.slice al3 G3.length cl3, .slice al4 G3.length cl4] w15 fun e w' => e = .returned (.bool true) ∧ Below w15.heap.size w15 w') := hide (s_races al3 al4 G3.length cl3 cl4 G3 w15 ((HL13.out.below HB1315.out).row rfl) (HL15.out.row rfl) (by have := HGl3.out; omega))
              have HD2 : Hid (∀ X, Below w15.heap.size w15 X → Calls Try.prog 8 #[.slice ak3 C3.length ck3, .slice ak4 C3.length ck4] X fun e w' => e = .returned (.bool true) ∧ Below X.heap.size X w') := hide (fun X hX => s_ints ak3 ak4 C3.length ck3 ck4 C3 X (((HK13.out.below HB1315.out).below hX).row rfl) ((HK15.out.below hX).row rfl) (by have := HGl3.out; omega))
              have hE3 : (E3 == E3) = true := by simp
              go_wp2_with fail
              refine HD1.out.mono ?_
              rintro e9 V1 ⟨rfl, z1⟩
              go_wp2_with fail
              refine (HD2.out _ z1).mono ?_
              rintro e9 V2 ⟨rfl, z2⟩
              have HBe := hide (Below.on (Below.on (Below.on HB113.out HB1315.out) z1) z2)
              clear z1 z2
              go_wp2_with fail
              go_ret
              exact ⟨rfl, Below.on HB1.out HBe.out⟩
end Go.Proofs.Ytnengkdddckjaaa
