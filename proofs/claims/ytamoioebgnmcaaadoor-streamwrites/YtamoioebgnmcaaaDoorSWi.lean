/-
  Put of a writer and of the document's beside it.
-/
import Derived.Test.YtamoioebgnmcaaaDoorSWh
namespace Go.Proofs.YtamoioebgnmcaaaDoor
open Go.RowKit
theorem Row.nilE (w : World) : Row w none 0 [] := ⟨rfl, by intro i; simp, .inl rfl⟩
/-- The bodies of records where the last one has no room. -/
theorem cut_two {lim : Int} {cur : List Rc} {r : Rc} (hp : Part lim cur) (_hne : cur ≠ []) (hlim : 64 ≤ lim) (hf : lim < ((encs St.zero cur).length : Int) + ((text (fin St.zero cur) r).length : Int)) (ht : text St.zero r ≠ []) : cutS lim.toNat [] St.zero (cur ++ [r]) = [encs St.zero cur, text St.zero r] := by
  have key : ∀ (l pre : List Rc), pre ++ l = cur → cutS lim.toNat (encs St.zero pre) (fin St.zero pre) (l ++ [r]) = [encs St.zero cur, text St.zero r] := by
    intro l
    induction l with
    | nil =>
      intro pre h
      rw [List.append_nil] at h
      rw [List.nil_append, cutS, h, if_pos (by omega), cutS, if_neg ht]
    | cons x l ih =>
      intro pre h
      have hl : (encs St.zero (pre ++ [x])).length ≤ (encs St.zero cur).length := by
        rw [← h, show pre ++ x :: l = (pre ++ [x]) ++ l by simp]
        exact encs_mono _ _ _
      have hlen := hp.len
      rw [encs_snoc, List.length_append] at hl
      rw [List.cons_append, cutS, if_neg (by omega)]
      have h9 := ih (pre ++ [x]) (by rw [← h]; simp)
      rw [encs_snoc, fin_snoc] at h9
      exact h9
  exact key cur [] rfl
/-- What a pair's call answers, once the document has answered too. -/
structure Done (B : Nat) (M : Nat → Prop) (n0 : Nat) (W w2 : World) (p q : Nat) (lim : Int) (xa : Option Addr) (xn xc : Nat) (ya : Option Addr) (zs : List Int) (cur : List Rc) (C Bn : Nat) (av : Option Addr) (cv : Nat) (ra : Option Addr) (rc : Nat) (least : Int) : Prop where
  wp : WP B w2 p q lim cur C Bn av cv ra rc least
  but : But M W w2
  rx : Row w2 xa xn zs
  ry : Row w2 ya xn zs
  sp : Spo w2 xa xn xc (WM p q av Bn cv ra C rc)
  new : ∀ z, WM p q av Bn cv ra C rc z → M z ∨ n0 ≤ z
  old : xn = 0 ∨ ∃ g, xa = some ⟨g, 0, none⟩ ∧ M g
  sm : (xn : Int) ≤ 1048576
section
variable {B p q C Bn cv rc : Nat} {w : World} {lim least : Int} {cur : List Rc} {av ra : Option Addr}
theorem Done.same {W w2 : World} (h : WP B W p q lim cur C Bn av cv ra rc least) (hb : Below W.heap.size W w2) (n0 : Nat) : Done B (WM p q av Bn cv ra C rc) n0 W w2 p q lim none 0 0 none [] cur C Bn av cv ra rc least :=
  ⟨h.below hb, But.of_below hb, Row.nilE _, Row.nilE _, .inl rfl, fun _ hz => .inl hz, .inl rfl, by decide⟩
theorem WP.ne (h : WP B w p q lim cur C Bn av cv ra rc least) : p ≠ q ∧ (Value.slice av Bn cv).ownBlock ≠ some p ∧ (Value.slice av Bn cv).ownBlock ≠ some q ∧ (Value.slice ra C rc).ownBlock ≠ some p ∧ (Value.slice ra C rc).ownBlock ≠ some q := by
  refine ⟨fun e => ?_, own_ne_cells h.own h.wri (by decide), own_ne_cells h.own h.rwi (by decide), own_ne_cells h.ro h.wri (by decide), own_ne_cells h.ro h.rwi (by decide)⟩
  have h1 := h.wri
  rw [e, h.rwi] at h1
  have h2 := Option.some.inj h1
  injection h2 with _ h3 _
  exact absurd h3 (by decide)
set_option maxHeartbeats 1600000 in
theorem put_wp (h : WP B w p q lim cur C Bn av cv ra rc least) (t k o a s : Int) (hr : (⟨t, k, o, a, s⟩ : Rc).ok) (hK : Kn w) (hlim : 64 ≤ lim ∧ lim ≤ 1048576) :
    Calls Tryd.prog 28 #[.pointer (some ⟨p, 0, none⟩), .agg #[.int .i64 t, .int .i64 k, .int .u64 o, .int .u64 a, .int .i64 s]] w fun e w1 => ∃ xa xn xc E zs, e = .returned (.tuple #[.slice xa xn xc, .int .i64 E]) ∧ But (WM p q av Bn cv ra C rc) w w1 ∧
      ∀ W, Below w1.heap.size w1 W → Calls Tryd.prog 31 #[.pointer (some ⟨q, 0, none⟩), .agg #[.int .i64 t, .int .i64 k, .int .u64 o, .int .u64 a, .int .i64 s]] W fun e2 w2 => ∃ ya yc cur' C' Bn' av' cv' ra' rc' least', e2 = .returned (.tuple #[.slice ya xn yc, .int .i64 E]) ∧ Done B (WM p q av Bn cv ra C rc) w.heap.size W w2 p q lim xa xn xc ya zs cur' C' Bn' av' cv' ra' rc' least' := by
  by_cases hE : putE St.zero ⟨t, k, o, a, s⟩ = 0
  · by_cases hlow : t < least
    · refine (wput_low t k o a s hK h.wri hE hr hlow).mono ?_
      rintro e w1 ⟨rfl, hb1⟩
      refine ⟨none, 0, 0, 80, [], rfl, But.of_below hb1, fun W hW => ?_⟩
      have hP := (h.below hb1).below hW
      have hf : flt (least - 1) ⟨t, k, o, a, s⟩ = 80 := flt_low hE (by dsimp only; omega)
      have hR := rwput_bad t k o a s hP.rwi hr (by rw [hf]; decide)
      rw [hf] at hR
      refine hR.mono ?_
      rintro e2 w2 ⟨rfl, hb2⟩
      exact ⟨none, 0, cur, C, Bn, av, cv, ra, rc, least, rfl, Done.same hP hb2 _⟩
    · have hput := putE_upon hE h.part.may (by have := h.finc; dsimp only; omega)
      have hok := putE_ok hE
      have hbl9 : ((encs St.zero cur).length : Int) ≤ 1048576 := by have := h.part.len; have := hlim.2; omega
      have hCI : (C : Int) ≤ 1048576 := by have := h.cle; have := h.lm; omega
      have hbn := h.bn
      have hf : flt (least - 1) ⟨t, k, o, a, s⟩ = 0 := flt_ok hE (by dsimp only; omega)
      have hne := h.ne
      by_cases hroom : ((encs St.zero cur).length : Int) + ((text (fin St.zero cur) ⟨t, k, o, a, s⟩).length : Int) ≤ lim
      · have hpart : Part lim (cur ++ [⟨t, k, o, a, s⟩]) := h.part.snoc hE hr (by have := h.lstc; dsimp only; omega) (by have := h.finc; dsimp only; omega) hroom
        refine (wput_room (b := encs St.zero cur) t k o a s hK (by rw [hbn]; exact h.wri) (by rw [hbn]; exact h.own) h.size hE hr hput hlow hlim.2 hbl9 (by omega) hCI hroom).mono ?_
        rintro e w1 ⟨g, c, rfl, hW1, hO1, hb1, hl1⟩
        rw [hbn] at hb1 hl1
        refine ⟨none, 0, 0, 0, [], rfl, hb1.mono (fun z e => e.elim (fun e => .inl e) (fun e => .inr (.inr (.inl e)))), fun W hW => ?_⟩
        have q1 := (hb1.block q (lt_of_heap h.rwi) (fun e => e.elim (fun e => hne.1 e.symm) (fun e => hne.2.2.1 e))).trans h.rwi
        have o1 := own_but h.ro hb1 (fun z hz e => by
          rcases e with e | e
          · exact hne.2.2.2.1 (by rw [← e]; exact hz)
          · exact own_types h.own h.ro (by decide) z e hz)
        have q2 := (hW.block q (lt_of_heap q1)).trans q1
        have hR := rwput_ok t k o a s q2 (own_below o1 hW) (Nat.le_trans h.size (Nat.le_trans hb1.size hW.size)) hr hf (by omega) hpart.str hpart.ok hlim (cut_one hpart (by simp) hlim.1)
        refine hR.mono ?_
        rintro e2 w2 ⟨g5, c5, rfl, hq2, ho2, hb2, hl2⟩
        have p1 := (hW.block p (lt_of_heap hW1)).trans hW1
        have hpW : (Value.slice ra C rc).ownBlock ≠ some p := hne.2.2.2.1
        have p2 := (hb2.block p (lt_of_heap p1) (fun e => e.elim (fun e => hne.1 e) (fun e => hpW e))).trans p1
        have oW := own_below hO1 hW
        have oW2 := own_but oW hb2 (fun z hz e => by
          rcases e with e | e
          · exact own_ne_cells oW q2 (by decide) (by rw [← e]; exact hz)
          · exact own_types oW (own_below o1 hW) (by decide) z hz e)
        refine ⟨none, 0, cur ++ [⟨t, k, o, a, s⟩], C + 1, (encs St.zero (cur ++ [⟨t, k, o, a, s⟩])).length, some ⟨g, 0, none⟩, c, some ⟨g5, 0, none⟩, c5, t + 1, rfl, ?_⟩
        refine ⟨⟨by rw [List.length_append, h.cl]; rfl, rfl, ?_, ?_, ?_, ho2, hpart, by rw [lst_snoc]; exact Int.le_refl _, by rw [fin_snoc]; exact Int.le_refl _, by have := h.cle; omega, by dsimp only at hok; omega, Nat.le_trans h.size (Nat.le_trans hb1.size (Nat.le_trans hW.size hb2.size)), h.pge⟩, hb2.mono (fun z e => e.elim (fun e => .inr (.inl e)) (fun e => .inr (.inr (.inr e)))), Row.nilE _, Row.nilE _, .inl rfl, fun z hz => ?_, .inl rfl, by decide⟩
        · rw [encs_snoc, fin_snoc]; exact p2
        · rw [encs_snoc]; exact oW2
        · rw [show t + 1 - 1 = t by omega]; exact hq2
        · rcases hz with e | e | e | e
          · exact .inl (.inl e)
          · exact .inl (.inr (.inl e))
          · have e9 : g = z := Option.some.inj e
            subst e9
            rcases hl1 with e | e
            · exact .inl (.inr (.inr (.inl e)))
            · exact .inr e
          · have e9 : g5 = z := Option.some.inj e
            subst e9
            rcases hl2 with e | e
            · exact .inl (.inr (.inr (.inr e)))
            · exact .inr (Nat.le_trans hb1.size (Nat.le_trans hW.size e))
      · have hT := text_len hput hr
        have hfull : lim < ((encs St.zero cur).length : Int) + ((text (fin St.zero cur) ⟨t, k, o, a, s⟩).length : Int) := by omega
        have hbp : 0 < Bn := by rw [← hbn]; omega
        obtain ⟨gv, cv', e9, _, hgvl⟩ := own_some h.own hbp
        cases e9
        have hcne : cur ≠ [] := fun e => by rw [e] at hbn; simp [encs] at hbn; omega
        refine (wput_full (b := encs St.zero cur) t k o a s hK (by rw [hbn]; exact h.wri) (by rw [hbn]; exact h.own) h.size hE hr hput hlow hlim.2 hbl9 (by omega) hCI hfull).mono ?_
        rw [hbn]
        rintro e w1 ⟨g, c, rfl, hW1, hO1, hb1⟩
        refine ⟨some ⟨gv, 0, none⟩, Bn, Bn, 0, encs St.zero cur, rfl, hb1.mono (fun z e => .inl e), fun W hW => ?_⟩
        have q1 := (hb1.block q (lt_of_heap h.rwi) (fun e => hne.1 (e : q = p).symm)).trans h.rwi
        have o1 := own_but h.ro hb1 (fun z hz e => hne.2.2.2.1 (by rw [← (e : z = p)]; exact hz))
        have v1 := own_but h.own hb1 (fun z hz e => hne.2.1 (by rw [← (e : z = p)]; exact hz))
        have q2 := (hW.block q (lt_of_heap q1)).trans q1
        have hstr : strE 0 (cur ++ [⟨t, k, o, a, s⟩]) = 0 := strE_snoc _ _ _ h.part.str hE (by have := h.lstc; dsimp only; omega)
        have hok2 : ∀ x ∈ cur ++ [(⟨t, k, o, a, s⟩ : Rc)], x.ok := fun x hx => by
          rcases List.mem_append.1 hx with e | e
          · exact h.part.ok x e
          · rw [List.mem_singleton.1 e]; exact hr
        have hcut : cutS lim.toNat [] St.zero (cur ++ [⟨t, k, o, a, s⟩]) = [encs St.zero cur, text St.zero ⟨t, k, o, a, s⟩] := cut_two h.part hcne hlim.1 hfull (by have := text_len hE hr; intro e; rw [e] at this; simp at this)
        have hR := rwput_full t k o a s q2 (own_below o1 hW) (Nat.le_trans h.size (Nat.le_trans hb1.size hW.size)) hr hf (by omega) hstr hok2 hlim _ hcut h.part.u8
        rw [hbn] at hR
        refine hR.mono ?_
        rintro e2 w2 ⟨g5, ai, ci, rfl, ry, hq2, ho2, hb2, hsz5⟩
        have p1 := (hW.block p (lt_of_heap hW1)).trans hW1
        have p2 := (hb2.block p (lt_of_heap p1) (fun e => e.elim (fun e => hne.1 e) (fun e => hne.2.2.2.1 e))).trans p1
        have oW := own_below hO1 hW
        have oW2 := own_but oW hb2 (fun z hz e => by
          rcases e with e | e
          · exact own_ne_cells oW q2 (by decide) (by rw [← e]; exact hz)
          · exact own_types oW (own_below o1 hW) (by decide) z hz e)
        have vW := own_below v1 hW
        have vW2 := own_but vW hb2 (fun z hz e => by
          rcases e with e | e
          · exact own_ne_cells vW q2 (by decide) (by rw [← e]; exact hz)
          · exact own_types vW (own_below o1 hW) (by decide) z hz e)
        have hgg := (hO1.lt g rfl).1
        have hpart1 : Part lim [⟨t, k, o, a, s⟩] := Part.one hlim.1 hE hr
        have he1 : encs St.zero [(⟨t, k, o, a, s⟩ : Rc)] = text St.zero ⟨t, k, o, a, s⟩ := List.append_nil _
        obtain ⟨cs, hcs1, hcs2, hcs3⟩ := own_spo vW2
        refine ⟨ai, ci, [⟨t, k, o, a, s⟩], 1, (encs St.zero [(⟨t, k, o, a, s⟩ : Rc)]).length, some ⟨g, 0, none⟩, c, some ⟨g5, 0, none⟩, 1, t + 1, rfl, ?_⟩
        refine ⟨⟨rfl, rfl, ?_, ?_, ?_, ho2, hpart1, Int.le_refl _, Int.le_refl _, by dsimp only at hok; omega, by dsimp only at hok; omega, Nat.le_trans h.size (Nat.le_trans hb1.size (Nat.le_trans hW.size hb2.size)), h.pge⟩, hb2.mono (fun z e => e.elim (fun e => .inr (.inl e)) (fun e => .inr (.inr (.inr e)))), own_row_u8 vW2 (u8_of_mem h.part.u8), ry, .inr ⟨gv, cs, rfl, hcs1, hcs2, hcs3, fun hm => ?_, Nat.le_refl _⟩, fun z hz => ?_, .inr ⟨gv, rfl, .inr (.inr (.inl rfl))⟩, by rw [← hbn]; exact hbl9⟩
        · rw [he1]; exact p2
        · rw [he1]; exact own_mono oW2 h.size
        · rw [show t + 1 - 1 = t by omega]; exact hq2
        · rcases hm with e | e | e | e
          · exact hne.2.1 (by rw [e]; rfl)
          · exact hne.2.2.1 (by rw [e]; rfl)
          · have e9 : g = gv := Option.some.inj e
            omega
          · have e9 : g5 = gv := Option.some.inj e
            have := hb1.size
            have := hW.size
            omega
        · rcases hz with e | e | e | e
          · exact .inl (.inl e)
          · exact .inl (.inr (.inl e))
          · have e9 : g = z := Option.some.inj e
            subst e9
            exact .inr hgg
          · have e9 : g5 = z := Option.some.inj e
            subst e9
            exact .inr (Nat.le_trans hb1.size (Nat.le_trans hW.size hsz5))
  · refine (wput_bad t k o a s hK h.wri hE).mono ?_
    rintro e w1 ⟨rfl, hb1⟩
    refine ⟨none, 0, 0, _, [], rfl, But.of_below hb1, fun W hW => ?_⟩
    have hP := (h.below hb1).below hW
    have hf : flt (least - 1) ⟨t, k, o, a, s⟩ = putE St.zero ⟨t, k, o, a, s⟩ := flt_bad hE
    have hR := rwput_bad t k o a s hP.rwi hr (by rw [hf]; exact hE)
    rw [hf] at hR
    refine hR.mono ?_
    rintro e2 w2 ⟨rfl, hb2⟩
    exact ⟨none, 0, cur, C, Bn, av, cv, ra, rc, least, rfl, Done.same hP hb2 _⟩
end
end Go.Proofs.YtamoioebgnmcaaaDoor
