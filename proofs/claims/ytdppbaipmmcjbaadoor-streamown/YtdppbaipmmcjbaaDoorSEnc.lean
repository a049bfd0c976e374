/-
  Encode of a stream.
-/
import Derived.Test.YtdppbaipmmcjbaaDoorSBod
namespace Go.Proofs.YtdppbaipmmcjbaaDoor
open Go.RowKit
theorem cell_new1 (w : World) (z : Value) (T : TypeId) : (w.alloc (.cells #[z] T)).cell? ⟨w.heap.size, 0, none⟩ = some z := by
  rw [cell_of_row _ _ 0 _ _ (0, 0) (heap_new w _)]; rfl
/-- What Encode holds while it goes through the records. -/
structure EncI (w wr : World) (lim : Int) (rs : List Rc) (k : Nat) (ao : Option Addr) (co : Nat) (out : List (List Int)) (vals : List Value) (b : List Int) (s : St) (av : Option Addr) (cv : Nat) (held least : Int) : Prop where
  bods : Bods wr w.heap.size (.slice ao out.length co) out vals
  wri : wr.heap[w.heap.size]? = some (.cells (wcs lim (.slice av b.length cv) held s.stamp s.obj s.stack least) 75 (0, 0))
  own : wr.ownsRow w.heap.size 5 1 (.slice av b.length cv) b.length (b.map (Value.int .u8))
  fresh : ∀ x ∈ vals, ∀ g, x.ownBlock = some g → (Value.slice av b.length cv).ownBlock ≠ some g
  bel : Below w.heap.size w wr
  err : strE 0 rs = strE least (rs.drop k)
  cut : cutS lim.toNat [] St.zero rs = out ++ cutS lim.toNat b s (rs.drop k)
  h0 : b = [] → held = 0
  h1 : b ≠ [] → 0 < held
  may : mayS s.stamp s.stack = true
  so : s.stamp ≤ least
  hl : 0 ≤ held ∧ held ≤ least
  kl : (k : Int) ≤ least
  lm : least ≤ 1048576
  ok : out.length ≤ k
  bl : (b.length : Int) ≤ lim
  u8 : ∀ z ∈ b, 0 ≤ z ∧ z ≤ 255
  small : ∀ x ∈ out, (x.length : Int) ≤ lim
section
variable {w wr : World} {lim : Int} {rs : List Rc} {k : Nat} {ao : Option Addr} {co : Nat} {out : List (List Int)} {vals : List Value} {b : List Int} {s : St} {av : Option Addr} {cv : Nat} {held least : Int}
theorem EncI.start {w1 : World} (L1 : w1.heap[w.heap.size]? = some (.cells (wcs lim (.slice none 0 0) 0 0 0 0 0) 75 (0, 0))) (hb : Below w.heap.size w w1) (hlim : 64 ≤ lim) : EncI w w1 lim rs 0 none 0 [] [] [] St.zero none 0 0 0 :=
  ⟨Bods.nil _ _, L1, World.ownsRow_nil _ _ _ _, by simp, hb, rfl, rfl, fun _ => rfl, fun h => absurd rfl h, by decide, by decide, by decide, by decide, by decide, Nat.le_refl _, by simp; omega, by simp, by simp⟩
theorem EncI.below {w2 : World} (h : EncI w wr lim rs k ao co out vals b s av cv held least) (hb : Below wr.heap.size wr w2) : EncI w w2 lim rs k ao co out vals b s av cv held least :=
  { h with bods := h.bods.below hb, wri := (hb.block _ (lt_of_heap h.wri)).trans h.wri, own := own_below h.own hb, bel := h.bel.trans (hb.mono h.bel.size) }
theorem EncI.put {r : Rc} (h : EncI w wr lim rs k ao co out vals b s av cv held least) (hE : putE St.zero r = 0) (hlow : ¬ r.stamp < least) : putE s r = 0 := putE_upon hE h.may (by have := h.so; omega)
/-- A record with room. -/
theorem EncI.room {w3 : World} {r : Rc} {g c : Nat} (h : EncI w wr lim rs k ao co out vals b s av cv held least) (hr : rs[k]? = some r) (hE : putE St.zero r = 0) (hrk : r.ok) (hlow : ¬ r.stamp < least) (hroom : (b.length : Int) + ((text s r).length : Int) ≤ lim)
    (hW : w3.heap[w.heap.size]? = some (.cells (wcs lim (.slice (some ⟨g, 0, none⟩) (b ++ text s r).length c) (held + 1) (r.stamp + 1) r.obj r.stack (r.stamp + 1)) 75 (0, 0)))
    (hO : w3.ownsRow w.heap.size 5 1 (.slice (some ⟨g, 0, none⟩) (b ++ text s r).length c) (b ++ text s r).length ((b ++ text s r).map (Value.int .u8))) (hb : But (fun g => g = w.heap.size ∨ (Value.slice av b.length cv).ownBlock = some g) wr w3) (hl : (Value.slice av b.length cv).ownBlock = some g ∨ wr.heap.size ≤ g) :
    EncI w w3 lim rs (k + 1) ao co out vals (b ++ text s r) (behindS r) (some ⟨g, 0, none⟩) c (held + 1) (r.stamp + 1) := by
  have hp := putE_upon hE h.may (by have := h.so; omega)
  have hok := putE_ok hE
  have hl2 := text_len hp hrk
  have h9 := h.hl
  have h8 := h.kl
  have h7 := h.ok
  refine ⟨h.bods.but hb ?_ ?_, hW, hO, ?_, ?_, ?_, ?_, ?_, fun _ => by omega, may_behind hp, Int.le_refl _, by omega, by omega, by omega, by omega, by rw [List.length_append]; omega, ?_, h.small⟩
  · intro g' hg e
    rcases e with e | e
    · exact own_ne_cells h.bods.own h.wri (by decide) (by rw [← e]; exact hg)
    · exact own_types h.own h.bods.own (by decide) g' e hg
  · intro x hx g' hg e
    rcases e with e | e
    · exact h.bods.ne_cells h.wri (by decide) x hx g' hg e
    · exact h.fresh x hx g' hg e
  · intro x hx g' hg e
    have e9 : g = g' := Option.some.inj e
    subst e9
    rcases hl with e | e
    · exact h.fresh x hx g hg e
    · obtain ⟨z, _, g2, cap, rfl, ho⟩ := h.bods.row hx
      have h6 := (ho.lt g (by rw [← hg]; rfl)).2
      omega
  · exact h.bel.trans (hb.below h.bel.size (fun g' e => by
      rcases e with e | e
      · omega
      · exact (h.own.lt g' e).1))
  · rw [h.err]; exact strE_on hr hE hlow
  · rw [h.cut, cutS_room hr (by omega)]
  · intro e
    have e9 := congrArg List.length e
    rw [List.length_append, List.length_nil] at e9
    omega
  · intro z hz
    rcases List.mem_append.1 hz with e | e
    · exact h.u8 z e
    · exact text_mem hp z e
/-- A record without room, once the full body is among the others. -/
theorem EncI.full {w3 w4 : World} {r : Rc} {g c gv : Nat} {a2 : Option Addr} {c2 : Nat} (h : EncI w wr lim rs k ao co out vals b s (some ⟨gv, 0, none⟩) cv held least) (hr : rs[k]? = some r) (hE : putE St.zero r = 0) (hrk : r.ok) (hlow : ¬ r.stamp < least) (hlim : 64 ≤ lim) (hroom : lim < (b.length : Int) + ((text s r).length : Int))
    (hW : w3.heap[w.heap.size]? = some (.cells (wcs lim (.slice (some ⟨g, 0, none⟩) (text St.zero r).length c) 1 (r.stamp + 1) r.obj r.stack (r.stamp + 1)) 75 (0, 0)))
    (hO : w3.ownsRow wr.heap.size 5 1 (.slice (some ⟨g, 0, none⟩) (text St.zero r).length c) (text St.zero r).length ((text St.zero r).map (Value.int .u8))) (hb : But (fun g => g = w.heap.size) wr w3)
    (o2 : w4.ownsRow w.heap.size 35 1 (.slice a2 (out.length + 1) c2) (out.length + 1) (vals ++ [.slice (some ⟨gv, 0, none⟩) b.length b.length])) (g2 : (w3.alloc (.cells #[.slice (some ⟨gv, 0, none⟩) b.length b.length] 35)).grownBy w4 (Value.slice ao out.length co).ownBlock) :
    EncI w w4 lim rs (k + 1) a2 c2 (out ++ [b]) (vals ++ [.slice (some ⟨gv, 0, none⟩) b.length b.length]) (text St.zero r) (behindS r) (some ⟨g, 0, none⟩) c 1 (r.stamp + 1) := by
  have hok := putE_ok hE
  have hl2 := text_len hE hrk
  have h9 := h.hl
  have h8 := h.kl
  have h7 := h.ok
  have hs := h.bel.size
  have hown3 := own_but h.own hb (fun g' hg e => own_ne_cells h.own h.wri (by decide) (by rw [← (e : g' = w.heap.size)]; exact hg))
  have hbo3 : Bods w3 w.heap.size (.slice ao out.length co) out vals := h.bods.but hb (fun g' hg e => own_ne_cells h.bods.own h.wri (by decide) (by rw [← (e : g' = w.heap.size)]; exact hg)) (fun x hx g' hg e => h.bods.ne_cells h.wri (by decide) x hx g' hg e)
  have k2 : But (fun k => (Value.slice ao out.length co).ownBlock = some k) w3 w4 := (But.refl _ w3).alloc _ |>.grown g2 (fun k _ e => e)
  have hgg := (hO.lt g rfl).1
  have hfr : ∀ x ∈ vals, ∀ g', x.ownBlock = some g' → g' ≠ gv := fun x hx g' hg e => h.fresh x hx g' hg (by rw [e]; rfl)
  have hsn := hbo3.snoc hown3 hfr h.u8 o2 g2
  refine ⟨by rw [List.length_append]; exact hsn, (k2.block _ (lt_of_heap hW) (fun e => own_ne_cells hbo3.own hW (by decide) e)).trans hW, own_mono (own_but hO k2 (fun g' hg e => own_types hO hbo3.own (by decide) g' hg e)) hs, ?_, ?_, ?_, ?_, ?_, fun _ => by omega, may_behind hE, Int.le_refl _, by omega, by omega, by omega, by rw [List.length_append]; simp; omega, by omega, text_mem hE, ?_⟩
  · intro x hx g' hg e
    have e9 : g = g' := Option.some.inj e
    subst e9
    rcases List.mem_append.1 hx with hx | hx
    · obtain ⟨z, _, g9, cap, rfl, ho⟩ := h.bods.row hx
      have h6 := (ho.lt g (by rw [← hg]; rfl)).2
      omega
    · simp at hx
      subst hx
      have e8 : gv = g := Option.some.inj hg
      have h6 := (h.own.lt gv rfl).2
      omega
  · have hb3 : Below w.heap.size w w3 := h.bel.trans (hb.below hs (fun g' e => by have e9 : g' = w.heap.size := e; omega))
    exact hb3.trans (k2.below (by have := hb3.size; omega) (fun g' e => (hbo3.own.lt g' e).1))
  · rw [h.err]; exact strE_on hr hE hlow
  · rw [h.cut, cutS_full hr (by omega), List.append_assoc]; rfl
  · intro e
    have e9 := congrArg List.length e
    rw [List.length_nil] at e9
    omega
  · intro x hx
    rcases List.mem_append.1 hx with hx | hx
    · exact h.small x hx
    · simp at hx; subst hx; exact h.bl
end
set_option maxHeartbeats 3200000 in
set_option maxRecDepth 10000 in
theorem enc_any (a : Option Addr) (n c : Nat) (rs : List Rc) (lim : Int) (w : World) (hK : Kn w) (hw : 0 < w.heap.size) (hr : RRow w a n rs) (hok : ∀ r ∈ rs, r.ok) (hlim : 64 ≤ lim ∧ lim ≤ 1048576) (hn : (n : Int) ≤ 9223372036854775000) :
    Calls Tryd.prog 10 #[.slice a n c, .int .i64 lim] w fun e w' => Below w.heap.size w w' ∧ (strE 0 rs ≠ 0 → e = .returned (.tuple #[.slice none 0 0, .int .i64 (strE 0 rs)])) ∧ (strE 0 rs = 0 → ∃ ao co vals, e = .returned (.tuple #[.slice ao (cutS lim.toNat [] St.zero rs).length co, .int .i64 0]) ∧ Bods w' w.heap.size (.slice ao (cutS lim.toNat [] St.zero rs).length co) (cutS lim.toNat [] St.zero rs) vals ∧ (∀ x ∈ cutS lim.toNat [] St.zero rs, (x.length : Int) ≤ lim) ∧ (cutS lim.toNat [] St.zero rs).length ≤ 1048577) := by
  have hl := hr.len
  have HR : Hid _ := hide hr
  have HOK : Hid _ := hide hok
  have HLM : Hid _ := hide hlim
  have HNW := new_ok lim w hlim
  have hlim1 := hlim.1
  have hlim2 := hlim.2
  clear hr hok hlim
  go_enter Tryd.func10, Tryd.ntmps10
  go_wp2_with fail
  refine HNW.mono ?_
  rintro e w1 ⟨rfl, hw1⟩
  have L1 : w1.heap[w.heap.size]? = some (.cells (wcs lim (.slice none 0 0) 0 0 0 0 0) 75 (0, 0)) := by rw [hw1]; exact heap_new _ _
  have hb1 : Below w.heap.size w w1 := by rw [hw1]; exact below_alloc1 _ _
  have I0 : Hid _ := hide (EncI.start (rs := rs) L1 hb1 hlim1)
  clear hw1 L1 hb1 HNW
  go_wp2_with fail
  go_loopw [8, 23] (fun s8 s23 wr => ∃ (k : Nat) (ao : Option Addr) (co : Nat) (out : List (List Int)) (vals : List Value) (b : List Int) (s : St) (av : Option Addr) (cv : Nat) (held least : Int), s23 = .int .i64 k ∧ k ≤ n ∧ s8 = .slice ao out.length co ∧ EncI w wr lim rs k ao co out vals b s av cv held least)
    (fun _ s23 _ => n - (intOf s23).toNat)
  case atStart => exact ⟨0, none, 0, [], [], [], St.zero, none, 0, 0, 0, rfl, Nat.zero_le _, rfl, I0.out⟩
  case round =>
    obtain ⟨k, ao, co, out, vals, b, s, av, cv, held, least, rfl, hk, rfl, hI⟩ := hrel
    have HI : Hid _ := hide hI
    clear I0
    have hsz := hI.bel.size
    by_cases hlt : k < n
    · obtain ⟨⟨t, kd, o, ar, q⟩, hrk⟩ : ∃ r, rs[k]? = some r := ⟨rs[k]'(by omega), List.getElem?_eq_getElem _⟩
      have hRr := HR.out.below hI.bel
      rcases hRr.cells with h0 | ⟨bb, off, rfl, hcs⟩
      · omega
      obtain ⟨x0, x1, x2, x3, x4⟩ := hcs k _ hrk
      have hro := HOK.out _ (List.mem_of_getElem? hrk)
      obtain ⟨w2, hw2⟩ : ∃ w2, w2 = wr.alloc (.cells #[.int .i64 t, .int .i64 kd, .int .u64 o, .int .u64 ar, .int .i64 q] 48) := ⟨_, rfl⟩
      have I2 := hI.below (show Below wr.heap.size wr w2 by rw [hw2]; exact below_alloc1 _ _)
      have K2 := hK.below I2.bel (by omega)
      have HRK : Hid _ := hide hrk
      have Hw2 : Hid _ := hide hw2
      have H2 : Hid _ := hide I2
      have HRO : Hid _ := hide hro
      clear hcs hRr hI hw2 I2 hrk hro
      by_cases hE : putE St.zero ⟨t, kd, o, ar, q⟩ = 0
      · by_cases hlow : t < least
        · have HP := wput_low t kd o ar q K2 H2.out.wri hE HRO.out hlow
          have HSE : Hid (strE 0 rs = 80) := hide (by rw [H2.out.err]; exact strE_low HRK.out hE hlow)
          clear hE hlow
          go_wp2_with fail
          rw [← Hw2.out]
          refine HP.mono ?_
          rintro e w3 ⟨rfl, hb3⟩
          have HB3 : Hid _ := hide (H2.out.bel.trans (hb3.mono H2.out.bel.size))
          clear hb3
          go_wp2
          go_ret2
          refine ⟨HB3.out, fun _ => by rw [HSE.out]; rfl, fun e => absurd (HSE.out.symm.trans e) (by decide)⟩
        · have hput := H2.out.put hE hlow
          by_cases hroom : (b.length : Int) + ((text s ⟨t, kd, o, ar, q⟩).length : Int) ≤ lim
          · have HP := wput_room t kd o ar q K2 H2.out.wri H2.out.own H2.out.bel.size hE HRO.out hput hlow (by omega) (by have := H2.out.bl; omega) H2.out.hl.1 (by have := H2.out.hl; have := H2.out.lm; omega) hroom
            have HN : Hid _ := hide (fun (w3 : World) (g c : Nat) => H2.out.room (w3 := w3) (g := g) (c := c) HRK.out hE HRO.out hlow hroom)
            clear hE hlow hroom hput
            go_wp2_with fail
            rw [← Hw2.out]
            refine HP.mono ?_
            rintro e w3 ⟨g, cg, rfl, hW3, hO3, hb3, hl3⟩
            have I3 : Hid _ := hide (HN.out _ _ _ hW3 hO3 hb3 hl3)
            clear hW3 hO3 hb3 hl3 HP
            go_wp2
            exact ⟨⟨k + 1, ao, co, out, vals, _, _, _, _, _, _, by go_num, by omega, rfl, I3.out⟩, by simp [intOf]; omega⟩
          · have hT := text_len hput HRO.out
            have hfull : lim < (b.length : Int) + ((text s ⟨t, kd, o, ar, q⟩).length : Int) := by omega
            have hbp : 0 < b.length := by omega
            have hbpI : (0 : Int) < (b.length : Int) := by omega
            obtain ⟨gv, cv', e9, _, _⟩ := own_some H2.out.own hbp
            cases e9
            have HP := wput_full t kd o ar q K2 H2.out.wri H2.out.own H2.out.bel.size hE HRO.out hput hlow (by omega) (by have := H2.out.bl; omega) H2.out.hl.1 (by have := H2.out.hl; have := H2.out.lm; omega) hfull
            have HN : Hid _ := hide (fun (w3 w4 : World) (g c : Nat) (a2 : Option Addr) (c2 : Nat) => H2.out.full (w3 := w3) (w4 := w4) (g := g) (c := c) (a2 := a2) (c2 := c2) HRK.out hE HRO.out hlow hlim1 hfull)
            have hol : (out.length : Int) ≤ 1048577 := by have := H2.out.ok; have := H2.out.kl; have := H2.out.lm; omega
            clear hE hlow hroom hput hT hfull
            go_wp2_with fail
            rw [← Hw2.out]
            refine HP.mono ?_
            rintro e w3 ⟨g, cg, rfl, hW3, hO3, hb3⟩
            have hs3 := hb3.size
            have HO9 : Hid _ := hide (own_but H2.out.bods.own hb3 (fun g' hg e => own_ne_cells H2.out.bods.own H2.out.wri (by decide) (by rw [← (e : g' = w.heap.size)]; exact hg)))
            have hs2 := H2.out.bel.size
            have HW3 : Hid _ := hide hW3
            have HO3 : Hid _ := hide hO3
            have HB3 : Hid _ := hide hb3
            clear hW3 hO3 hb3 HP
            go_wp2_with (at_builtin; refine append_lst _ rfl _ _ rfl w.heap.size (.slice ao out.length co) out.length vals rfl (HO9.out.alloc _) w3.heap.size (.slice (some ⟨gv, 0, none⟩) b.length b.length) rfl (cell_new1 _ _ _) rfl (by omega) (by simp; omega) ?_; intro a4 c4 w4 o4 g4 l4; have O4 : Hid _ := hide o4; have G4 : Hid _ := hide g4; clear o4 g4 l4)
            have I3 : Hid _ := hide (HN.out _ _ _ _ _ _ HW3.out HO3.out HB3.out O4.out G4.out)
            exact ⟨⟨k + 1, a4, c4, out ++ [b], _, _, _, _, _, _, _, by go_num, by omega, by rw [List.length_append]; rfl, I3.out⟩, by simp [intOf]; omega⟩
      · have HP := wput_bad t kd o ar q K2 H2.out.wri hE
        have HSE : Hid (strE 0 rs = putE St.zero ⟨t, kd, o, ar, q⟩) := hide (by rw [H2.out.err]; exact strE_bad HRK.out hE)
        generalize hEE : putE St.zero ⟨t, kd, o, ar, q⟩ = E at HSE hE
        have HP' : Calls Tryd.prog 32 #[.pointer (some ⟨w.heap.size, 0, none⟩), .agg #[.int .i64 t, .int .i64 kd, .int .u64 o, .int .u64 ar, .int .i64 q]] w2 fun e w' => e = .returned (.tuple #[.slice none 0 0, .int .i64 E]) ∧ Below w2.heap.size w2 w' := by rw [← hEE]; exact HP
        clear hEE HP
        go_wp2_with fail
        rw [← Hw2.out]
        refine HP'.mono ?_
        rintro e w3 ⟨rfl, hb3⟩
        have HB3 : Hid _ := hide (H2.out.bel.trans (hb3.mono H2.out.bel.size))
        clear hb3
        go_wp2
        go_ret2
        refine ⟨HB3.out, fun _ => by rw [HSE.out]; rfl, fun e => absurd (HSE.out.symm.trans e) hE⟩
    · have hkn : k = n := by omega
      have HH := held_any HI.out.wri
      have hd : rs.drop k = [] := List.drop_eq_nil_of_le (by omega)
      have HSE : Hid (strE 0 rs = 0) := hide (by rw [HI.out.err, hd]; rfl)
      by_cases hb0 : b = []
      · have h0 := HI.out.h0 hb0
        have HC : Hid (cutS lim.toNat [] St.zero rs = out) := hide (by rw [HI.out.cut, hd, cutS, if_pos hb0, List.append_nil])
        subst h0
        clear hkn hd hb0
        go_wp2_with fail
        refine HH.mono ?_
        rintro e w3 ⟨rfl, rfl⟩
        go_wp2
        go_ret2
        refine ⟨HI.out.bel, fun e => absurd HSE.out e, fun _ => ?_⟩
        rw [HC.out]
        exact ⟨ao, co, vals, rfl, HI.out.bods, HI.out.small, by have := HI.out.ok; have := HI.out.kl; have := HI.out.lm; omega⟩
      · have h1 := HI.out.h1 hb0
        have hbp : 0 < b.length := List.length_pos_iff.2 hb0
        have HC : Hid (cutS lim.toNat [] St.zero rs = out ++ [b]) := hide (by rw [HI.out.cut, hd, cutS, if_neg hb0])
        obtain ⟨gv, cv', e9, _, _⟩ := own_some HI.out.own hbp
        cases e9
        have HFL := flush_any HI.out.wri (own_capL HI.out.own)
        have hol : (out.length : Int) ≤ 1048576 := by have := HI.out.ok; have := HI.out.kl; have := HI.out.lm; omega
        clear hkn hd hb0
        go_wp2_with fail
        refine HH.mono ?_
        rintro e w3 ⟨rfl, rfl⟩
        go_wp2_with fail
        refine HFL.mono ?_
        rintro e w5 ⟨rfl, hW5, hb5⟩
        have hs5 := hb5.size
        have hO5 := own_but HI.out.own hb5 (fun g' hg e => own_ne_cells HI.out.own HI.out.wri (by decide) (by rw [← (e : g' = w.heap.size)]; exact hg))
        have hB5 : Bods w5 w.heap.size (.slice ao out.length co) out vals := HI.out.bods.but hb5 (fun g' hg e => own_ne_cells HI.out.bods.own HI.out.wri (by decide) (by rw [← (e : g' = w.heap.size)]; exact hg)) (fun x hx g' hg e => HI.out.bods.ne_cells HI.out.wri (by decide) x hx g' hg e)
        have hbl5 : Below w.heap.size w w5 := HI.out.bel.trans (hb5.below hsz (fun g' e => by have e9 : g' = w.heap.size := e; omega))
        have HO5 : Hid _ := hide hO5
        have HB5 : Hid _ := hide hB5
        have HL5 : Hid _ := hide hbl5
        clear hW5 hb5 hO5 hB5 hbl5 HFL HH
        go_wp2_with (at_builtin; refine append_lst _ rfl _ _ rfl w.heap.size (.slice ao out.length co) out.length vals rfl (HB5.out.own.alloc _) w5.heap.size (.slice (some ⟨gv, 0, none⟩) b.length b.length) rfl (cell_new1 _ _ _) rfl (by omega) (by simp; omega) ?_; intro a4 c4 w4 o4 g4 l4; have O4 : Hid _ := hide o4; have G4 : Hid _ := hide g4; clear o4 g4 l4)
        go_ret2
        have k2 : But (fun k => (Value.slice ao out.length co).ownBlock = some k) w5 w4 := (But.refl _ w5).alloc _ |>.grown G4.out (fun k _ e => e)
        have hsn := HB5.out.snoc HO5.out (fun x hx g' hg e => HI.out.fresh x hx g' hg (by rw [e]; rfl)) HI.out.u8 O4.out G4.out
        refine ⟨HL5.out.trans (k2.below (by have := HL5.out.size; omega) (fun g' e => (HB5.out.own.lt g' e).1)), fun e => absurd HSE.out e, fun _ => ?_⟩
        rw [HC.out, List.length_append]
        refine ⟨a4, c4, _, rfl, hsn, ?_, by simp; omega⟩
        intro x hx
        rcases List.mem_append.1 hx with hx | hx
        · exact HI.out.small x hx
        · simp at hx; subst hx; exact HI.out.bl
end Go.Proofs.YtdppbaipmmcjbaaDoor
