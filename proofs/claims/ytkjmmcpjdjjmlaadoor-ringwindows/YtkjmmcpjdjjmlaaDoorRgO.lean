/-
  handOut, Snapshot.
-/
import Derived.Test.YtkjmmcpjdjjmlaaDoorRgH
namespace Go.Proofs.YtkjmmcpjdjjmlaaDoor
open Go.RowKit Go.Maps Go.Shelf
theorem Evs.noStr {w : World} {base : Nat} {v : Value} {es : List Ev} (h : Evs w base v es) : NoStr w (fun q => v.ownBlock = some q) := by
  intro k cur fr hk hc
  obtain ⟨cur', hc'⟩ := own_ty h.own hk
  rw [hc'] at hc
  simp at hc
theorem map_set_same {es : List Ev} {j : Nat} {e e' : Ev} (h : es[j]? = some e) (he : e'.ab = e.ab) : (es.set j e').map Ev.ab = es.map Ev.ab := by
  apply List.ext_getElem?
  intro q
  rw [List.getElem?_map, List.getElem?_map]
  by_cases hq : q = j
  · subst hq
    rw [List.getElem?_set_self (get_lt h), h, Option.map_some, Option.map_some, he]
  · rw [List.getElem?_set_ne (fun e9 => hq e9.symm)]
set_option maxRecDepth 8000 in
set_option maxHeartbeats 2000000 in
theorem hand_any {w : World} {base : Nat} {v : Value} {es : List Ev} (h : Evs w base v es) (hn : (es.length : Int) ≤ 65536) :
    Calls Tryd.prog 16 #[v] w fun e w' => e = .returned v ∧ (∃ es', Evs w' base v es' ∧ es'.map Ev.ab = es.map Ev.ab) ∧ But (fun q => v.ownBlock = some q) w w' := by
  obtain ⟨a, c, rfl, h0, hc⟩ := h.form
  obtain ⟨n, hnl⟩ : ∃ n, n = es.length := ⟨_, rfl⟩
  rw [← hnl] at h h0 hc hn ⊢
  have HH := hide h
  have HL := hide hnl
  clear h h0 hc hnl
  go_enter Tryd.func16, Tryd.ntmps16
  go_wp2_with fail
  go_loopw [6] (fun si wr => ∃ (j : Nat) (es1 : List Ev), si = .int .i64 j ∧ j ≤ n ∧ Evs wr base (.slice a n c) es1 ∧ es1.map Ev.ab = es.map Ev.ab ∧ But (fun q => (Value.slice a n c).ownBlock = some q) w wr) (fun si _ => n - (intOf si).toNat)
  case atStart => exact ⟨0, es, rfl, Nat.zero_le _, HH.out, rfl, But.refl _ _⟩
  case round =>
    obtain ⟨j, es1, rfl, hj, hE, hm, hB⟩ := hrel
    have HE := hide hE
    have HM := hide hm
    have HB := hide hB
    clear hE hm hB
    by_cases hlt : j < n
    · have hl1 : es1.length = n := by have h9 := congrArg List.length HM.out; rw [List.length_map, List.length_map] at h9; rw [h9, ← HL.out]
      have hjI : (j : Int) < n := by omega
      obtain ⟨e, he⟩ : ∃ e, es1[j]? = some e := ⟨_, List.getElem?_eq_getElem (by omega)⟩
      obtain ⟨g, c', hv, _, hg, _⟩ := HE.out.own.frm (by omega)
      have hva : a = some ⟨g, 0, .none⟩ := by injection hv
      clear hv
      subst hva
      have HL1 := hide hl1
      have HEe := hide he
      have hst := HE.out.stk e (List.mem_of_getElem? he)
      have x4 := HE.out.own.cell he 4 rfl
      have e4 : j * layE.z + 4 = j * 5 + 4 := rfl
      rw [e4] at x4
      have HC := hide (cloneS wr e.sa e.ls.length e.sc e.ls hst.row.tr hst.nil (by have := hst.few; omega))
      have HST := hide hst
      clear hst he hl1
      go_wp2_with fail
      refine HC.out.mono ?_
      rintro r w2 ⟨v', rfl, ho2, hb2⟩
      obtain ⟨a2, c2, rfl, _, _⟩ := own_form ho2
      have hE2 := HE.out.below hb2
      have y4 := cell_bel x4 hb2
      have f4 := hE2.own.frozen (j * 5 + 4)
      have S2 := hE2.own.setU (i := j) (t := 4) (u := .slice a2 e.ls.length c2) (a' := ⟨e.g, e.k, e.o, e.a, a2, c2, e.ls⟩) HL1.out HEe.out (by decide) rfl
      rw [e4] at S2
      have hk : But (fun q => (Value.slice (some ⟨g, 0, .none⟩) n c).ownBlock = some q) w2 (w2.setCell ⟨g, j * 5 + 4, .none⟩ (.slice a2 e.ls.length c2)) := (But.refl (fun q => (Value.slice (some ⟨g, 0, .none⟩) n c).ownBlock = some q) w2).setCell ⟨g, j * 5 + 4, .none⟩ (fun _ => rfl) _
      have hfin : Evs (w2.setCell ⟨g, j * 5 + 4, .none⟩ (.slice a2 e.ls.length c2)) base (.slice (some ⟨g, 0, .none⟩) n c) (es1.set j ⟨e.g, e.k, e.o, e.a, a2, c2, e.ls⟩) := by
        refine ⟨S2, fun e' he' => ?_⟩
        rcases List.mem_or_eq_of_mem_set he' with h1 | h1
        · exact (hE2.stk e' h1).but hk hE2.noStr
        · rw [h1]
          have h9 : Stk w2 ⟨e.g, e.k, e.o, e.a, a2, c2, e.ls⟩ := ⟨ho2.mono (Nat.zero_le _), HST.out.few⟩
          exact h9.but hk hE2.noStr
      have HF := hide hfin
      have HB2 := hide ((HB.out.on hb2).trans hk (fun _ _ e9 => e9))
      clear S2 hk hfin hE2 ho2 hb2 x4 HC e4
      go_wp2
      exact ⟨⟨j + 1, _, by go_num, by omega, HF.out, (map_set_same (e' := ⟨e.g, e.k, e.o, e.a, a2, c2, e.ls⟩) HEe.out rfl).trans HM.out, HB2.out⟩, by simp [intOf]; omega⟩
    · go_wp2
      go_ret
      exact ⟨rfl, ⟨es1, HE.out, HM.out⟩, HB.out⟩
set_option maxRecDepth 8000 in
theorem snap_any {w : World} {rb b size : Nat} {es : List Ev} {T : List Ab} (h : Rg w rb b size es T) :
    Calls Tryd.prog 7 #[.pointer (some ⟨rb, 0, .none⟩)] w fun e w' => ∃ v es', e = .returned v ∧ Evs w' w.heap.size v es' ∧ es'.map Ev.ab = T.drop (T.length - size) ∧ Below w.heap.size w w' := by
  have HH := hide (held_any h)
  have hl : ((T.drop (T.length - size)).length : Int) ≤ 65536 := by have := h.big; rw [List.length_drop]; omega
  generalize T.drop (T.length - size) = A at HH hl ⊢
  have HL := hide hl
  clear h hl
  go_enter Tryd.func7, Tryd.ntmps7
  go_wp2_with fail
  refine HH.out.mono ?_
  rintro e w1 ⟨v, es1, rfl, hE, hm, hb⟩
  have hl1 : (es1.length : Int) ≤ 65536 := by have h9 := congrArg List.length hm; rw [List.length_map] at h9; rw [h9]; exact HL.out
  have HC := hide (hand_any hE hl1)
  have HE := hide hE
  have HM := hide hm
  have HB := hide hb
  clear hE hm hb hl1 HH
  go_wp2_with fail
  refine HC.out.mono ?_
  rintro e w2 ⟨rfl, ⟨es2, hE2, hm2⟩, hb2⟩
  have HE2 := hide hE2
  have HM2 := hide hm2
  have HB2 := hide hb2
  clear hE2 hm2 hb2 HC
  go_wp2
  go_ret
  exact ⟨v, es2, rfl, HE2.out, HM2.out.trans HM.out, Below.trans HB.out (HB2.out.below HB.out.size (fun q hq => (HE.out.own.lt q hq).1))⟩
end Go.Proofs.YtkjmmcpjdjjmlaaDoor
