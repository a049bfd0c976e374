/-
  The document's Group.
-/
import Derived.Test.YtnengkdddckjaaaRdB
namespace Go.Proofs.Ytnengkdddckjaaa
open Go.RowKit Go.Maps
set_option linter.unusedVariables false
/-- What the document's Group answers. -/
def GrR (es : List E6.Ev) (n : Nat) (rs : List (Int × Int)) (w : World) (e : Ending) (w' : World) : Prop :=
  (rs.all (vdB n) = true ∧ ∃ fv cv, e = .returned (.tuple #[fv, cv, .int .i64 0]) ∧ Own sR 33 w' w.heap.size fv (grp es rs).1 ∧ Own sI 3 w' w.heap.size cv (grp es rs).2 ∧ Below w.heap.size w w') ∨
  (rs.all (vdB n) = false ∧ e = .returned (.tuple #[.slice none 0 0, .slice none 0 0, .int .i64 180]) ∧ Below w.heap.size w w')
/-- The search for a group. -/
theorem fi_none (P : Int × Int → Bool) (G : List (Int × Int)) (h : ∀ (j : Nat) (g : Int × Int), G[j]? = some g → P g = false) : G.findIdx? P = none := by
  rw [List.findIdx?_eq_none_iff]
  intro g hg
  obtain ⟨k, hk⟩ := List.getElem?_of_mem hg
  exact h k g hk
theorem fi_some (P : Int × Int → Bool) (G : List (Int × Int)) (k : Nat) (g : Int × Int) (hk : G[k]? = some g) (hg : P g = true) (h : ∀ (j : Nat) (g : Int × Int), j < k → G[j]? = some g → P g = false) : G.findIdx? P = some k := by
  obtain ⟨hl, he⟩ := List.getElem?_eq_some_iff.1 hk
  rw [List.findIdx?_eq_some_iff_getElem]
  refine ⟨hl, by rw [he]; exact hg, fun j hj => ?_⟩
  have := h j _ hj (List.getElem?_eq_getElem (by omega))
  simp [this]
theorem grp_sub (es : List E6.Ev) : ∀ (n : Nat) (rs : List (Int × Int)), rs.length = n → ∀ g ∈ (grp es rs).1, g ∈ rs
  | 0, rs, h => by
    have e := List.length_eq_zero_iff.1 h
    subst e
    intro g hg
    cases hg
  | n + 1, rs, h => by
    rcases List.eq_nil_or_concat rs with e | ⟨xs, x, e⟩
    · subst e; simp at h
    · rw [List.concat_eq_append] at e
      subst e
      have hl : xs.length = n := by simpa using h
      have ih := grp_sub es n xs hl
      rw [grp_snoc]
      generalize grp es xs = P at ih ⊢
      obtain ⟨G, C⟩ := P
      unfold gst
      cases hf : List.findIdx? (fun g => alB es g x) G with
      | some k =>
        intro g hg
        exact List.mem_append.2 (.inl (ih g hg))
      | none =>
        intro g hg
        have hg2 : g ∈ G ++ [x] := hg
        rcases List.mem_append.1 hg2 with h9 | h9
        · exact List.mem_append.2 (.inl (ih g h9))
        · exact List.mem_append.2 (.inr h9)
structure Gd (w0 w : World) (G : List (Int × Int)) (C : List Int) (fv cv : Value) : Prop where
  of : Own sR 33 w w0.heap.size fv G
  oc : Own sI 3 w w0.heap.size cv C
  bel : Below w0.heap.size w0 w
theorem Gd.below {w0 w w' : World} {G : List (Int × Int)} {C : List Int} {fv cv : Value} (h : Gd w0 w G C fv cv) (hb : Below w.heap.size w w') : Gd w0 w' G C fv cv := ⟨h.of.below hb, h.oc.below hb, Below.on h.bel hb⟩
theorem Gd.apart {w0 w : World} {G : List (Int × Int)} {C : List Int} {fv cv : Value} (h : Gd w0 w G C fv cv) {q : Nat} (h1 : fv.ownBlock = some q) : cv.ownBlock ≠ some q := fun h2 => by
  obtain ⟨a, e⟩ := own_ty h.of h1
  exact own_ne_cells h.oc e (by decide) h2
set_option maxRecDepth 8000 in
set_option maxHeartbeats 8000000 in
theorem rgroup_any (es : List E6.Ev) (a : Option Addr) (n c : Nat) (ra : Option Addr) (m rc : Nat) (rs : List (Int × Int)) (w : World) (h : E6.ERow w a n es) (hr : TRow sR w ra m rs) (hn : n ≤ 1048576) (hm : m ≤ 1048576)
    (hMs : ∀ f ∈ es, f.ls.length ≤ 1048576) :
    Calls Try.prog 6 #[.slice a n c, .slice ra m rc] w (GrR es n rs w) := by
  have HE := hide h
  have HN := hide hn
  have HR := hide hr
  have HMs := hide hMs
  have hrl : rs.length = m := hr.len
  have hmI : (m : Int) ≤ 1048576 := by omega
  clear h hr hn hm hMs
  go_enter Try.func6, Try.ntmps6
  go_wp2
  go_loopw [9] (fun iv wr => ∃ i : Nat, i ≤ m ∧ iv = .int .i64 i ∧ Hid ((rs.take i).all (vdB n) = true) ∧ Hid (Below w.heap.size w wr)) (fun iv _ => m - (intOf iv).toNat)
  case atStart => exact ⟨0, Nat.zero_le _, rfl, hide rfl, hide (Below.refl _ _)⟩
  case round =>
    obtain ⟨i, hi, rfl, HA, HB⟩ := hrel
    by_cases hlt : i < m
    · have hiI : (i : Int) < (m : Int) := by omega
      have hi0 : (0 : Int) ≤ (i : Int) := by omega
      obtain ⟨x, hx⟩ : ∃ x, rs[i]? = some x := ⟨_, List.getElem?_eq_getElem (by omega)⟩
      obtain ⟨rb, off, hra, _, hc⟩ := (HR.out.below HB.out).at (by omega)
      have d0 : wr.cell? ⟨rb, off + i * 2, none⟩ = some (.int .i64 x.1) := by have := hc i x hx 0 _ rfl; exact this
      have d1 : wr.cell? ⟨rb, off + i * 2 + 1, none⟩ = some (.int .i64 x.2) := by have := hc i x hx 1 _ rfl; exact this
      have HC := hide (is_any a n c x.1 x.2 wr HN.out)
      have HX : Hid ((rs.take (i + 1)).all (vdB n) = vdB n x) := hide (by
        obtain ⟨h1, h2⟩ := List.getElem?_eq_some_iff.1 hx
        rw [← List.take_append_getElem h1, h2, List.all_append, HA.out]
        simp)
      have HX2 : Hid (vdB n x = false → rs.all (vdB n) = false) := hide (fun h9 => by
        rw [List.all_eq_false]
        exact ⟨x, List.mem_of_getElem? hx, by rw [h9]; decide⟩)
      clear hc hx
      subst hra
      have HLt := hide hlt
      go_wp2_with fail
      refine HC.out.mono ?_
      rintro e9 X1 ⟨rfl, hb1⟩
      have HB1 := hide (Below.on HB.out hb1)
      clear hb1 HC
      cases hvd : vdB n (x.1, x.2) with
      | true =>
        have HX3 : Hid ((rs.take (i + 1)).all (vdB n) = true) := hide (by rw [HX.out]; exact hvd)
        clear hvd
        go_wp2
        have hlt := HLt.out
        exact ⟨⟨i + 1, by omega, by go_num, HX3, HB1⟩, by simp [intOf]; omega⟩
      | false =>
        have HX3 : Hid (rs.all (vdB n) = false) := hide (HX2.out hvd)
        clear hvd
        go_wp2
        go_ret3
        exact .inr ⟨HX3.out, rfl, HB1.out⟩
    · have hi9 : i = m := by omega
      have hiI : ¬ (i : Int) < (m : Int) := by omega
      have hall : rs.all (vdB n) = true := by
        have := HA.out
        rwa [hi9, ← hrl, List.take_length] at this
      have HAll := hide hall
      have HG0 : Hid (Gd w wr [] [] (.slice none 0 0) (.slice none 0 0)) := hide ⟨Own.nil _ _ _ _, Own.nil _ _ _ _, HB.out⟩
      clear hlt hi hall
      obtain ⟨wO, rfl⟩ : ∃ x, x = wr := ⟨wr, rfl⟩
      go_wp2
      go_loopw [7, 8, 10] (fun sf sc iv wr => ∃ (i : Nat) (G : List (Int × Int)) (C : List Int), i ≤ m ∧ iv = .int .i64 i ∧ Hid (grp es (rs.take i) = (G, C)) ∧ Hid (Gd w wr G C sf sc)) (fun _ _ iv _ => m - (intOf iv).toNat)
      case atStart => exact ⟨0, [], [], Nat.zero_le _, rfl, hide rfl, HG0⟩
      case round =>
        clear HG0
        obtain ⟨i, G, C, hi, rfl, HP, HGd⟩ := hrel
        obtain ⟨h1, h2, h3⟩ := grp_len es (rs.take i) i (by rw [List.length_take]; omega)
        have h4 := grp_sub es i (rs.take i) (by rw [List.length_take]; omega)
        rw [HP.out] at h1 h2 h3 h4
        have HLn := hide h1
        have HGl := hide h2
        have HCb := hide h3
        have HSub := hide h4
        obtain ⟨af, cf, hsf, _, _⟩ := own_form HGd.out.of
        obtain ⟨ac, cc, hsc, _, _⟩ := own_form HGd.out.oc
        clear h1 h2 h3 h4
        subst hsf
        subst hsc
        obtain ⟨wP, rfl⟩ : ∃ x, x = wr := ⟨wr, rfl⟩
        by_cases hlt : i < m
        · have hiI : (i : Int) < (m : Int) := by omega
          have hi0 : (0 : Int) ≤ (i : Int) := by omega
          obtain ⟨x, hx⟩ : ∃ x, rs[i]? = some x := ⟨_, List.getElem?_eq_getElem (by omega)⟩
          have hval : ∀ y ∈ rs, ∃ p q : Nat, y = ((p : Int), (q : Int)) ∧ p < n ∧ q < n := fun y hy => by
            have := List.all_eq_true.1 HAll.out y hy
            unfold vdB at this
            have h9 := of_decide_eq_true this
            exact ⟨y.1.toNat, y.2.toNat, Prod.ext (by simp; omega) (by simp; omega), by omega, by omega⟩
          obtain ⟨p, q, hxe, hpn, hqn⟩ := hval x (List.mem_of_getElem? hx)
          subst hxe
          obtain ⟨rb, off, hra, _, hc⟩ := HR.out.at (by omega)
          have d0 : w.cell? ⟨rb, off + i * 2, none⟩ = some (.int .i64 (p : Int)) := by have := hc i _ hx 0 _ rfl; exact this
          have d1 : w.cell? ⟨rb, off + i * 2 + 1, none⟩ = some (.int .i64 (q : Int)) := by have := hc i _ hx 1 _ rfl; exact this
          have HD := hide (And.intro d0 d1)
          have HX : Hid (grp es (rs.take (i + 1)) = gst es (G, C) ((p : Int), (q : Int))) := hide (by
            obtain ⟨h1, h2⟩ := List.getElem?_eq_some_iff.1 hx
            rw [← List.take_append_getElem h1, h2, grp_snoc, HP.out])
          have HVal : Hid (∀ y ∈ G, ∃ p q : Nat, y = ((p : Int), (q : Int)) ∧ p < n ∧ q < n) := hide (fun y hy => hval y (List.mem_of_mem_take (HSub.out y hy)))
          have HPQ := hide (And.intro hpn hqn)
          have HLt := hide hlt
          clear d0 d1 hval hx hc hpn hqn
          subst hra
          go_wp2
          go_loopw [11, 12] (fun av kv wr => ∃ (k : Nat) (A : Int), k ≤ G.length ∧ kv = .int .i64 k ∧ av = .int .i64 A ∧ Hid (Gd w wr G C (.slice af G.length cf) (.slice ac C.length cc)) ∧ Hid ((A = -1 ∧ ∀ (j : Nat) (g : Int × Int), j < k → G[j]? = some g → alB es g ((p : Int), (q : Int)) = false) ∨ (∃ k' : Nat, A = k' ∧ G.findIdx? (fun g => alB es g ((p : Int), (q : Int))) = some k'))) (fun _ kv _ => G.length - (intOf kv).toNat)
          case atStart => exact ⟨0, -1, Nat.zero_le _, rfl, rfl, HGd, hide (.inl ⟨rfl, fun j g hj => by omega⟩)⟩
          case round =>
            obtain ⟨k, A, hk, rfl, rfl, HQ, HI⟩ := hrel
            by_cases hA : A < 0
            · by_cases hkl : k < G.length
              · have hkI : (k : Int) < (G.length : Int) := by omega
                have hk0 : (0 : Int) ≤ (k : Int) := by omega
                obtain ⟨wQ, rfl⟩ : ∃ x, x = wr := ⟨wr, rfl⟩
                obtain ⟨g, c9, hsl, _, _, _⟩ := HQ.out.of.frm (by omega)
                simp only [Value.slice.injEq] at hsl
                obtain ⟨haf, _, hcf⟩ := hsl
                subst haf
                subst hcf
                obtain ⟨y, hy⟩ : ∃ y, G[k]? = some y := ⟨_, List.getElem?_eq_getElem hkl⟩
                obtain ⟨p', q', hye, hpn', hqn'⟩ := HVal.out y (List.mem_of_getElem? hy)
                subst hye
                have k0 : wQ.cell? ⟨g, k * 2, none⟩ = some (.int .i64 (p' : Int)) := by have h9 := HQ.out.of.cell hy 0 rfl; exact h9
                have k1 : wQ.cell? ⟨g, k * 2 + 1, none⟩ = some (.int .i64 (q' : Int)) := by have h9 := HQ.out.of.cell hy 1 rfl; exact h9
                have e0 := E6.cell_bel HD.out.1 HQ.out.bel
                have e1 := E6.cell_bel HD.out.2 HQ.out.bel
                have HSL : Hid (∀ X, Below wQ.heap.size wQ X → X.cell? ⟨g, k * 2, none⟩ = some (.int .i64 (p' : Int)) ∧ X.cell? ⟨g, k * 2 + 1, none⟩ = some (.int .i64 (q' : Int)) ∧ X.cell? ⟨rb, off + i * 2, none⟩ = some (.int .i64 (p : Int)) ∧ X.cell? ⟨rb, off + i * 2 + 1, none⟩ = some (.int .i64 (q : Int))) := hide (fun X hX => ⟨E6.cell_bel k0 hX, E6.cell_bel k1 hX, E6.cell_bel e0 hX, E6.cell_bel e1 hX⟩)
                have HC1 := hide (alike_any es a n c p' q' p q wQ.drew (HE.out.bel (Below.on HQ.out.bel ((Below.refl _ _).drew))) HN.out hpn' hqn' HPQ.out.1 HPQ.out.2 HMs.out)
                have HV : Hid ((alB es ((p' : Int), (q' : Int)) ((p : Int), (q : Int)) = true → A = -1 → G.findIdx? (fun g => alB es g ((p : Int), (q : Int))) = some k) ∧ (alB es ((p' : Int), (q' : Int)) ((p : Int), (q : Int)) = false → A = -1 → ∀ (j : Nat) (g : Int × Int), j < k + 1 → G[j]? = some g → alB es g ((p : Int), (q : Int)) = false)) := hide (by
                  rcases HI.out with ⟨_, hI⟩ | ⟨k', hk', _⟩
                  · refine ⟨fun h _ => fi_some _ G k _ hy h hI, fun h _ j g hj hg => ?_⟩
                    by_cases hjk : j = k
                    · subst hjk
                      rw [hy] at hg
                      cases hg
                      exact h
                    · exact hI j g (by omega) hg
                  · omega)
                have hGB : (G.length : Int) ≤ 1048576 := by have := HGl.out; omega
                have HA1 : Hid (A = -1) := hide (by
                  rcases HI.out with ⟨h9, _⟩ | ⟨k', hk', _⟩
                  · exact h9
                  · omega)
                generalize alB es ((p' : Int), (q' : Int)) ((p : Int), (q : Int)) = V at HC1 HV
                have HX0 := hide (Below.refl wQ.heap.size wQ)
                have HX1 := hide ((Below.refl wQ.heap.size wQ).drew)
                have HKl := hide hkl
                clear hy hpn' hqn' k0 k1 e0 e1
                go_wp2_with fail
                go_region_held3 (fun X => X.cell? ⟨g, k * 2, none⟩ = some (.int .i64 (p' : Int)) ∧ X.cell? ⟨g, k * 2 + 1, none⟩ = some (.int .i64 (q' : Int)) ∧ X.cell? ⟨rb, off + i * 2, none⟩ = some (.int .i64 (p : Int)) ∧ X.cell? ⟨rb, off + i * 2 + 1, none⟩ = some (.int .i64 (q : Int)))
                  (first | with_reducible exact HSL.out _ HX0.out | with_reducible exact HSL.out _ HX1.out | with_reducible exact HSL.out _ HX2.out)
                  (first | (go_at_call 13; go_must (refine HC1.out.mono ?_; rintro e9 X1 ⟨rfl, hb9⟩; have HX2 : Hid (Below wQ.heap.size wQ X1) := hide (Below.on HX1.out hb9); clear hb9)))
                have HQ2 := hide (HQ.out.below HX2.out)
                clear HC1 HSL HX0 HX1 HX2
                cases V with
                | true =>
                  have HF := hide (HV.out.1 rfl HA1.out)
                  go_wp2
                  have hkl := HKl.out
                  exact ⟨⟨k + 1, (k : Int), by omega, by go_num, rfl, HQ2, hide (.inr ⟨k, rfl, HF.out⟩)⟩, by simp [intOf]; omega⟩
                | false =>
                  have HF := hide (HV.out.2 rfl HA1.out)
                  go_wp2
                  have hkl := HKl.out
                  exact ⟨⟨k + 1, A, by omega, by go_num, rfl, HQ2, hide (.inl ⟨HA1.out, HF.out⟩)⟩, by simp [intOf]; omega⟩
              · have hkI : ¬ (k : Int) < (G.length : Int) := by omega
                have hk9 : k = G.length := by omega
                have HNx : Hid (grp es (rs.take (i + 1)) = (G ++ [((p : Int), (q : Int))], C ++ [1])) := hide (by
                  rw [HX.out]
                  unfold gst
                  have hf : G.findIdx? (fun g => alB es g ((p : Int), (q : Int))) = none := by
                    rcases HI.out with ⟨_, hI⟩ | ⟨k', hk', _⟩
                    · exact fi_none _ G (fun j g hg => hI j g (by have := (List.getElem?_eq_some_iff.1 hg).1; omega) hg)
                    · omega
                  rw [hf])
                obtain ⟨wQ, rfl⟩ : ∃ x, x = wr := ⟨wr, rfl⟩
                have HGb : Hid (G.length + 1 ≤ 1048577 ∧ C.length + 1 ≤ 1048577) := hide (by have := HGl.out; have := HLn.out; omega)
                have e0 := E6.cell_bel HD.out.1 HQ.out.bel
                have e1 := E6.cell_bel HD.out.2 HQ.out.bel
                have HSz : Hid (w.heap.size ≤ wQ.heap.size) := hide HQ.out.bel.size
                have HOf := hide HQ.out.of
                have HOc := hide HQ.out.oc
                have HAp : Hid (∀ q, (Value.slice af G.length cf).ownBlock = some q → (Value.slice ac C.length cc).ownBlock ≠ some q) := hide (fun q h => HQ.out.apart h)
                obtain ⟨i0, hi0', hz0, hz1, hz2⟩ := info_parts infoR
                obtain ⟨i1, gi, gz0, gz1, gz2⟩ := info_parts infoI
                clear hkl hk hk9 HI
                go_wp2_with (at_builtin; first | (refine append_lay sR _ 23 33 i0 _ 16 Try.underlying23 hi0' hz0 hz1 hz2 rfl rfl (.tmp 57) (.tmp 62) rfl w.heap.size _ G rfl (HOf.out.below (below_alloc1 _ _)) _ _ _ [((p : Int), (q : Int))] rfl (TRow.one (heap_new _ _)) (fun e => by cases e) (by have := HGb.out; unfold maxLen; simp; omega) (by have := HGb.out; simp; omega) (by have := HSz.out; simp; omega) ?_; intro v4 w4 hown4 hgr4 hl4; have HOc4 := hide ((HOc.out.below (below_alloc1 wQ _)).but (But.of_grown (S := fun k => (Value.slice af G.length cf).ownBlock = some k) hgr4 (fun k e => e)) (fun g h1 h2 => HAp.out g h2 h1)); have HSz4 : Hid (w.heap.size ≤ w4.heap.size) := hide (Nat.le_trans HSz.out (Nat.le_trans (by simp) hgr4.size)); have HW4 := hide hown4; have HR4 := hide hgr4; clear hown4 hgr4 hl4) | (refine append_lay sI _ 25 3 i1 _ 8 Try.underlying25 gi gz0 gz1 gz2 rfl rfl (.tmp 64) (.tmp 65) rfl w.heap.size _ C rfl (HOc4.out.below (below_alloc1 _ _)) _ _ _ [1] rfl (TRow.one (heap_new _ _)) (fun e => by cases e) (by have := HGb.out; unfold maxLen; simp; omega) (by have := HGb.out; simp; omega) (by have := HSz4.out; simp; omega) ?_; intro v6 w6 hown6 hgr6 hl6; have HW6 := hide hown6; have HR6 := hide hgr6; clear hown6 hgr6 hl6))
                have hof6 : Own sR 33 w6 w.heap.size v4 (G ++ [((p : Int), (q : Int))]) := (HW4.out.below (below_alloc1 w4 _)).but (But.of_grown (S := fun k => (Value.slice ac C.length cc).ownBlock = some k) HR6.out (fun k e => e)) (fun g h1 h2 => by
                  obtain ⟨cur, e⟩ := own_ty HW4.out h1
                  exact own_ne_cells HOc4.out e (by decide) h2)
                have hB4 : Below w.heap.size w w4 := HQ.out.bel.trans (((But.of_below (S := fun k => (Value.slice af G.length cf).ownBlock = some k) (below_alloc1 wQ _)).grown HR4.out (fun k _ e => e)).below HSz.out (fun k e => (HOf.out.lt k e).1))
                have hB6 : Below w.heap.size w w6 := hB4.trans (((But.of_below (S := fun k => (Value.slice ac C.length cc).ownBlock = some k) (below_alloc1 w4 _)).grown HR6.out (fun k _ e => e)).below HSz4.out (fun k e => (HOc.out.lt k e).1))
                have hlt := HLt.out
                exact ⟨⟨i + 1, _, _, by omega, by go_num, HNx, hide ⟨hof6, HW6.out, hB6⟩⟩, by simp [intOf]; omega⟩
            · have HF : Hid (∃ k' : Nat, A = k' ∧ G.findIdx? (fun g => alB es g ((p : Int), (q : Int))) = some k') := hide (by
                rcases HI.out with ⟨h9, _⟩ | h9
                · omega
                · exact h9)
              obtain ⟨k', hAk, hfi⟩ := HF.out
              have hkC : k' < C.length := by
                rw [List.findIdx?_eq_some_iff_getElem] at hfi
                obtain ⟨h9, _⟩ := hfi
                have := HLn.out
                omega
              have HNx : Hid (grp es (rs.take (i + 1)) = (G, C.set k' (C.getD k' 0 + 1))) := hide (by
                rw [HX.out]
                unfold gst
                rw [hfi])
              obtain ⟨wQ, rfl⟩ : ∃ x, x = wr := ⟨wr, rfl⟩
              obtain ⟨g, c9, hsl, _, _, _⟩ := HQ.out.oc.frm (by omega)
              simp only [Value.slice.injEq] at hsl
              obtain ⟨hac, _, hcc⟩ := hsl
              subst hac
              subst hcc
              have hy0 : C[k']? = some (C.getD k' 0) := by rw [List.getD_eq_getElem?_getD, List.getElem?_eq_getElem hkC]; rfl
              have hyb := HCb.out _ (List.mem_of_getElem? hy0)
              obtain ⟨y, hy⟩ : ∃ y, C.getD k' 0 = y := ⟨_, rfl⟩
              rw [hy] at hy0 hyb HNx
              have hyB : y ≤ 1048576 := by omega
              have hy1 : 0 ≤ y := hyb.1
              have cy := HQ.out.oc.cell hy0 0 rfl
              rw [Nat.add_zero, show k' * sI.z = k' from Nat.mul_one k'] at cy
              have fy := HQ.out.oc.frozen k'
              have hset := HQ.out.oc.setU (t := 0) (u := .int .i64 (y + 1)) (a' := y + 1) rfl hy0 (by decide) rfl
              rw [Nat.add_zero, show k' * sI.z = k' from Nat.mul_one k'] at hset
              have hbt := (But.refl (fun q => q = g) wQ).setCell ⟨g, k', none⟩ (fun _ => rfl) (.int .i64 (y + 1))
              have hof := HQ.out.of.but hbt (fun q h1 h2 => HQ.out.apart h1 (by rw [h2]; rfl))
              have HG3 : Hid (Gd w (wQ.setCell ⟨g, k', none⟩ (.int .i64 (y + 1))) G (C.set k' (y + 1)) (.slice af G.length cf) (.slice (some ⟨g, 0, none⟩) C.length cc)) := hide ⟨hof, hset, HQ.out.bel.trans (hbt.below HQ.out.bel.size (fun q e => by rw [e]; exact (HQ.out.oc.lt g rfl).1))⟩
              subst hAk
              have hk0 : (0 : Int) ≤ (k' : Int) := by omega
              have hkI : (k' : Int) < (C.length : Int) := by omega
              have hA0 : ¬ (k' : Int) < 0 := by omega
              have hcl : (C.length : Int) ≤ 1048576 := by have := HLn.out; have := HGl.out; omega
              clear hA hy0 hyb hset hbt hof hfi hkC hy HF HI
              rcases Int.lt_or_le (k : Int) (G.length : Int) with hkl | hkl
              · go_wp2
                have hlt := HLt.out
                exact ⟨⟨i + 1, _, _, by omega, by go_num, HNx, HG3⟩, by simp [intOf]; omega⟩
              · have hkl2 : ¬ (k : Int) < (G.length : Int) := by omega
                go_wp2
                have hlt := HLt.out
                exact ⟨⟨i + 1, _, _, by omega, by go_num, HNx, HG3⟩, by simp [intOf]; omega⟩
        · have hi9 : i = m := by omega
          have hiI : ¬ (i : Int) < (m : Int) := by omega
          have HF : Hid (GrR es n rs w (.returned (.tuple #[.slice af G.length cf, .slice ac C.length cc, .int .i64 0])) wP) := hide (by
            have h1 := HP.out
            rw [hi9, ← hrl, List.take_length] at h1
            refine .inl ⟨HAll.out, ?_⟩
            rw [h1]
            exact ⟨_, _, rfl, HGd.out.of, HGd.out.oc, HGd.out.bel⟩)
          clear hlt hi hi9
          go_wp2
          go_ret3
          exact HF.out
end Go.Proofs.Ytnengkdddckjaaa
