/-
  StreamGrows: the walk.
-/
import Derived.Test.YtamoioebgnmcaaaDoorSGr
import Derived.Test.YtamoioebgnmcaaaDoorSl
import Derived.Deep.DeepCutAuto
namespace Go.Proofs.YtamoioebgnmcaaaDoor
open Go.RowKit
/-- Truths that came in. -/
structure BRow (w : World) (a : Option Addr) (n : Nat) (bs : List Bool) : Prop where
  len : bs.length = n
  cells : n = 0 ∨ ∃ b off, a = some ⟨b, off, none⟩ ∧ ∀ i v, bs[i]? = some v → w.cell? ⟨b, off + i, none⟩ = some (.bool v)
theorem BRow.below {w w' : World} {a : Option Addr} {n : Nat} {bs : List Bool} (h : BRow w a n bs) (hb : Below w.heap.size w w') : BRow w' a n bs := by
  refine ⟨h.len, h.cells.imp id ?_⟩
  rintro ⟨b, off, ha, hc⟩
  refine ⟨b, off, ha, fun i v hv => ?_⟩
  have c0 := hc i v hv
  exact (hb.cell (p := ⟨b, off + i, none⟩) (World.block_lt_of_cell? w _ c0)).trans c0
theorem RRow.at {w : World} {a : Option Addr} {n : Nat} {rs : List Rc} (h : RRow w a n rs) {k : Nat} {r : Rc} (hk : rs[k]? = some r) : ∃ b off, a = some ⟨b, off, none⟩ ∧ b < w.heap.size ∧ ∀ X, Below w.heap.size w X → X.cell? ⟨b, off + k * 5, none⟩ = some (.int .i64 r.stamp) ∧ X.cell? ⟨b, off + k * 5 + 1, none⟩ = some (.int .i64 r.kind) ∧ X.cell? ⟨b, off + k * 5 + 2, none⟩ = some (.int .u64 r.obj) ∧ X.cell? ⟨b, off + k * 5 + 3, none⟩ = some (.int .u64 r.arg) ∧ X.cell? ⟨b, off + k * 5 + 4, none⟩ = some (.int .i64 r.stack) := by
  rcases h.cells with h0 | ⟨b, off, ha, hc⟩
  · have := (List.getElem?_eq_some_iff.1 hk).1
    rw [h.len] at this
    omega
  · have hlt : b < w.heap.size := World.block_lt_of_cell? w _ (hc k r hk).1
    refine ⟨b, off, ha, hlt, fun X hX => ?_⟩
    obtain ⟨x0, x1, x2, x3, x4⟩ := hc k r hk
    exact ⟨(hX.cell (p := ⟨b, off + k * 5, none⟩) hlt).trans x0, (hX.cell (p := ⟨b, off + k * 5 + 1, none⟩) hlt).trans x1, (hX.cell (p := ⟨b, off + k * 5 + 2, none⟩) hlt).trans x2, (hX.cell (p := ⟨b, off + k * 5 + 3, none⟩) hlt).trans x3, (hX.cell (p := ⟨b, off + k * 5 + 4, none⟩) hlt).trans x4⟩
set_option maxHeartbeats 12800000 in
set_option maxRecDepth 10000 in
theorem grows_ok (a b : Option Addr) (n c m d : Nat) (L : List Rc) (F : List Bool) (lim : Int) (w : World) (hK : Kn w) (hw : 0 < w.heap.size) (hr : RRow w a n L) (hf : BRow w b m F) (hok : ∀ r ∈ L, r.ok) (hlim : 64 ≤ lim ∧ lim ≤ 1048576) (hn : (n : Int) ≤ 9223372036854775000) :
    Calls Tryd.prog 7 #[.slice a n c, .slice b m d, .int .i64 lim] w fun e w' => e = .returned (.bool true) ∧ Below w.heap.size w w' := by
  have HA := awake_any w hK hw
  have HLI := limits_any lim
  rw [decide_eq_true hlim] at HLI
  have HNU := num_any
  have HR : Hid _ := hide hr
  have HRL : Hid _ := hide hr.len
  have HF : Hid _ := hide hf
  have HFL : Hid _ := hide hf.len
  have HOK : Hid _ := hide hok
  have HLM : Hid _ := hide hlim
  have HKN : Hid _ := hide hK
  have hlim1 := hlim.1
  have hlim2 := hlim.2
  clear hr hf hok hlim hK
  go_enter Tryd.func7, Tryd.ntmps7
  go_wp2_with fail
  refine HA.mono ?_
  rintro e w1 ⟨rfl, hb1⟩
  have HNW := new_ok lim w1 HLM.out
  have HB1 : Hid _ := hide hb1
  have hs1 := hb1.size
  clear HA hb1
  go_wp2_with fail
  refine HNW.mono ?_
  rintro e w2 ⟨rfl, hw2⟩
  obtain ⟨p, hp⟩ : ∃ p, p = w1.heap.size := ⟨_, rfl⟩
  have L1 : w2.heap[p]? = some (.cells (wcs lim (.slice none 0 0) 0 0 0 0 0) 74 (0, 0)) := by rw [hw2, hp]; exact heap_new _ _
  have hb2 : Below w.heap.size w w2 := HB1.out.trans (by rw [hw2]; exact (below_alloc1 w1 _).mono hs1)
  have I0 : Hid _ := hide (GrI.start L1 hb2 (by rw [hp]; exact hs1) hlim1)
  rw [← hp]
  clear hw2 L1 hb2 HNW hp hs1
  go_wp2_with (first | (go_at_call 22; refine (HNU _ _).mono ?_; rintro e w9 ⟨rfl, hw9⟩; rw [hw9]; clear hw9 w9) | (go_at_call 23; refine (HLI _).mono ?_; rintro e w9 ⟨rfl, hw9⟩; rw [hw9]; clear hw9 w9))
  go_loopw [10, 11, 12, 13, 14, 15] (fun tv bv lv pv hv iv wr => ∃ (k : Nat) (dn : List (List Rc)) (cur : List Rc) (pl : Bool) (D T C Bn : Nat) (ao : Option Addr) (co : Nat) (vals : List Value) (av : Option Addr) (cv : Nat) (least : Int) (ta : Option Addr) (tc : Nat), tv = .slice ta T tc ∧ bv = .slice ao D co ∧ lv = .int .i64 (least - 1) ∧ pv = .bool pl ∧ hv = .int .i64 (C : Int) ∧ iv = .int .i64 (k : Int) ∧ k ≤ n ∧ Hid (GrI w wr p lim dn cur pl D T C Bn ao co vals av cv least ta tc)) (fun _ _ _ _ _ iv _ => n - (intOf iv).toNat)
  case atStart => exact ⟨0, [], [], true, 0, 0, 0, 0, none, 0, [], none, 0, 0, none, 0, rfl, rfl, rfl, rfl, rfl, rfl, Nat.zero_le _, I0⟩
  case round =>
    obtain ⟨k, dn, cur, pl, D, T, C, Bn, ao, co, vals, av, cv, least, ta, tc, rfl, rfl, rfl, rfl, rfl, rfl, hk, HI⟩ := hrel
    rename World => wr
    have hDI : (D : Int) ≤ 1048576 := by have := HI.out.dT; have := HI.out.tl_; have := HI.out.lm; omega
    by_cases hlt : k < n
    · have hltI : (k : Int) < (n : Int) := by omega
      go_upto_region 17 with fail
      go_cut [69] from 54 to 177 (fun v wx => (∃ fl : Bool, v = .bool fl) ∧ wx = wr)
      case first =>
        by_cases hkm : k < m
        · have hkmI : (k : Int) < (m : Int) := by omega
          obtain ⟨v, hv⟩ : ∃ v, F[k]? = some v := ⟨_, List.getElem?_eq_getElem (by rw [HFL.out]; exact hkm)⟩
          rcases (HF.out.below HI.out.bel).cells with h0 | ⟨fb, fo, rfl, hfc⟩
          · omega
          have f0 := hfc k v hv
          clear hfc hv
          go_wp2_with fail
          go_meet
          exact ⟨⟨_, rfl⟩, rfl⟩
        · have hkmI : ¬ (k : Int) < (m : Int) := by omega
          go_wp2_with fail
          go_meet
          exact ⟨⟨_, rfl⟩, rfl⟩
      case rest =>
      obtain ⟨⟨fl, rfl⟩, hwx⟩ := hcut
      rw [hwx]
      clear hwx
      go_upto_if 69 with fail
      go_cut [11, 13, 14, 16] from 54 to 177 (fun bv pv hv _ wx => ∃ (dn : List (List Rc)) (cur : List Rc) (pl : Bool) (D C Bn : Nat) (ao : Option Addr) (co : Nat) (vals : List Value) (av : Option Addr) (cv : Nat), bv = .slice ao D co ∧ pv = .bool pl ∧ hv = .int .i64 (C : Int) ∧ Hid (GrI w wx p lim dn cur pl D T C Bn ao co vals av cv least ta tc))
      case first =>
        cases fl with
        | false =>
          go_wp2_with fail
          go_meet
          exact ⟨dn, cur, pl, D, C, Bn, ao, co, vals, av, cv, rfl, rfl, rfl, HI⟩
        | true =>
          have FL := flush_any HI.out.wri (own_capL HI.out.own)
          have hcp := HI.out.cpos
          go_wp2_with fail
          refine FL.mono ?_
          rintro e w3 ⟨rfl, hW3, hb3⟩
          clear FL
          by_cases hC : C = 0
          · have hB0 : Bn = 0 := by omega
            have I3 : Hid _ := hide (HI.out.flush0 hC hW3 hb3)
            subst hC; subst hB0
            clear hW3 hb3 hcp
            go_wp2_with fail
            go_meet
            exact ⟨dn, cur, pl, D, 0, 0, ao, co, vals, none, 0, rfl, rfl, rfl, I3⟩
          · have hC0 : 0 < C := by omega
            have hB0 : 0 < Bn := hcp.2 hC0
            have hCI : (0 : Int) < (C : Int) := by omega
            have hBI : (0 : Int) < (Bn : Int) := by omega
            have hcd : decide ((0 : Int) < (C : Int)) = true := decide_eq_true hCI
            have hbd : decide ((0 : Int) < (Bn : Int)) = true := decide_eq_true hBI
            obtain ⟨gv, cv', e9, _, _⟩ := own_some HI.out.own hB0
            cases e9
            have HO9 : Hid (w3.ownsRow w.heap.size 35 1 (.slice ao D co) D vals) := hide (by
              have h9 := own_but HI.out.bods.own hb3 (fun g' hg e => own_ne_cells HI.out.bods.own HI.out.wri (by decide) (by rw [← (e : g' = p)]; exact hg))
              rw [List.length_map, HI.out.dl] at h9
              exact h9)
            have hs3 := hb3.size
            have hs2 := HI.out.bel.size
            have HW3 : Hid _ := hide hW3
            have HB3 : Hid _ := hide hb3
            clear hW3 hb3 hcp
            go_wp2_with (at_builtin; refine append_lst _ rfl _ _ rfl w.heap.size (.slice ao D co) D vals rfl (HO9.out.alloc _) w3.heap.size (.slice (some ⟨gv, 0, none⟩) Bn Bn) rfl (cell_new1 _ _ _) rfl (by omega) (by simp; omega) ?_; intro a4 c4 w4 o4 g4 l4; have I4 : Hid _ := hide (HI.out.flush1 hC0 hlim1 HW3.out HB3.out o4 g4); clear o4 g4 l4)
            go_meet
            exact ⟨_, [], false, D + 1, 0, 0, a4, c4, _, none, 0, rfl, rfl, rfl, I4⟩
      case rest =>
      clear HI hDI
      obtain ⟨dn, cur, pl, D, C, Bn, ao, co, vals, av, cv, rfl, rfl, rfl, HI⟩ := hcut
      obtain ⟨⟨t, kd, o, ar, q⟩, hrk⟩ : ∃ r, L[k]? = some r := ⟨L[k]'(by rw [HRL.out]; exact hlt), List.getElem?_eq_getElem _⟩
      have hro := HOK.out _ (List.mem_of_getElem? hrk)
      obtain ⟨bb, off, rfl, hbb, hcs⟩ := HR.out.at hrk
      have HCS : Hid _ := hide hcs
      have HRO : Hid _ := hide hro
      obtain ⟨x0, x1, x2, x3, x4⟩ := hcs wc HI.out.bel
      have K3 := HKN.out.below HI.out.bel hw
      have hw3 : 0 < wc.heap.size := Nat.lt_of_lt_of_le hw HI.out.bel.size
      have hCI : (C : Int) ≤ 1048576 := by have := HI.out.cle; have := HI.out.tl_; have := HI.out.lm; omega
      have hTI : (T : Int) ≤ 1048576 := by have := HI.out.tl_; have := HI.out.lm; omega
      have hLI : least ≤ 1048576 := HI.out.lm
      have hL0 : 0 ≤ least := by have := HI.out.tl_; omega
      try dsimp only at x0 x1 x2 x3 x4
      clear hrk hro hcs
      by_cases hE : putE St.zero ⟨t, kd, o, ar, q⟩ = 0
      · have HP := put_n 0 0 0 t kd o ar q wc K3 hw3 hE HRO.out
        have hok9 := putE_ok hE
        go_wp2_with fail
        refine HP.mono ?_
        rintro e w4 ⟨g4, c4, rfl, -, -, hb4⟩
        obtain ⟨w5, hw5⟩ : ∃ w5, w5 = w4.alloc (.cells #[.int .i64 (t + 1), .int .u64 o, .int .i64 q] 48) := ⟨_, rfl⟩
        have hb5 : Below wc.heap.size wc w5 := by rw [hw5]; exact hb4.alloc hb4.size _
        have I5 : Hid _ := hide (HI.out.below hb5)
        have K5 := HKN.out.below I5.out.bel hw
        have HW5 : Hid _ := hide hw5
        clear HP hb4 hw5 hb5 x0 x1 x2 x3 x4 K3 hw3
        obtain ⟨x0, x1, x2, x3, x4⟩ := HCS.out w5 I5.out.bel
        try dsimp only at x0 x1 x2 x3 x4
        go_upto_region 26 with fail
        rw [← HW5.out]
        by_cases hlow : t < least
        · have HP := wput_low t kd o ar q K5 I5.out.wri hE HRO.out hlow
          go_wp2_with fail
          refine HP.mono ?_
          rintro e w6 ⟨rfl, hb6⟩
          have I6 : Hid _ := hide (I5.out.below hb6)
          have HH := held_any I6.out.wri
          clear HP hb6 x0 x1 x2 x3 x4
          obtain ⟨x0, -⟩ := HCS.out w6 I6.out.bel
          try dsimp only at x0
          have e1 : decide (t ≤ least - 1) = true := decide_eq_true (by omega)
          have e1' : t ≤ least - 1 := by omega
          have e2 : ((C : Int) != (C : Int)) = false := by simp
          clear hE hlow
          go_wp2_with (first | (go_at_call 22; refine (HNU _ _).mono ?_; rintro e w9 ⟨rfl, hw9⟩; rw [hw9]; clear hw9 w9) | (go_at_call 29; refine HH.mono ?_; rintro e w9 ⟨rfl, hw9⟩; rw [hw9]; clear hw9 w9))
          exact ⟨⟨k + 1, dn, cur, pl, D, T, C, Bn, ao, co, vals, av, cv, least, ta, tc, rfl, rfl, rfl, rfl, rfl, by go_num, by omega, I6⟩, by simp [intOf]; omega⟩
        · have hput := putE_upon hE I5.out.part.may (by have := I5.out.finc; dsimp only; omega)
          have e1 : decide (t ≤ least - 1) = false := decide_eq_false (by omega)
          have e1' : ¬ t ≤ least - 1 := by omega
          have HBN : Hid _ := hide I5.out.bn
          have hbl9 : ((encs St.zero cur).length : Int) ≤ 1048576 := by have := I5.out.part.len; omega
          by_cases hroom : ((encs St.zero cur).length : Int) + ((text (fin St.zero cur) ⟨t, kd, o, ar, q⟩).length : Int) ≤ lim
          · have HP := wput_room (b := encs St.zero cur) t kd o ar q K5 (by rw [HBN.out]; exact I5.out.wri) (by rw [HBN.out]; exact I5.out.own) I5.out.bel.size hE HRO.out hput hlow hlim2 hbl9 (by omega) hCI hroom
            have HN : Hid _ := hide (fun (w3 w4 : World) (g c g5 c5 : Nat) => I5.out.room (w3 := w3) (w4 := w4) (g := g) (c := c) (g5 := g5) (c5 := c5) hE HRO.out hlow hroom rfl)
            clear hE hlow hroom hput
            go_wp2_with fail
            refine HP.mono ?_
            rintro e w6 ⟨g, cg, rfl, hW6, hO6, hb6, hl6⟩
            rw [HBN.out] at hb6 hl6
            have HT6 : Hid _ := hide (own_but I5.out.tk hb6 (fun g' hg e => by
              rcases e with e | e
              · exact own_ne_cells I5.out.tk I5.out.wri (by decide) (by rw [← e]; exact hg)
              · exact own_types I5.out.own I5.out.tk (by decide) g' e hg))
            have hbw6 : Below w.heap.size w w6 := I5.out.bel.trans (hb6.below I5.out.bel.size (fun g' e => by
              rcases e with e | e
              · have := I5.out.pge; omega
              · exact (I5.out.own.lt g' e).1))
            have HB6 : Hid _ := hide hbw6
            have hs6 := hbw6.size
            have HN6 : Hid _ := hide (fun (w4 : World) (g5 c5 : Nat) => HN.out w6 w4 g cg g5 c5 hW6 hO6 hb6 hl6)
            clear HP x0 x1 x2 x3 x4 hW6 hO6 hb6 hl6 hbw6 HN
            obtain ⟨x0, x1, x2, x3, x4⟩ := HCS.out w6 HB6.out
            try dsimp only at x0 x1 x2 x3 x4
            go_upto_region 33 with (first | (go_at_call 22; refine (HNU _ _).mono ?_; rintro e w9 ⟨rfl, hw9⟩; rw [hw9]; clear hw9 w9) | (at_builtin; refine rec_lies _ rfl (.tmp 153) (.tmp 158) rfl w.heap.size (.slice ta T tc) T (dn.flatten ++ cur) rfl (HT6.out.alloc _) w6.heap.size ⟨t, kd, o, ar, q⟩ rfl (heap_new _ _) (by omega) (by simp; omega) ?_; intro g7 c7 w7 o7 gr7 l7; have I7 : Hid _ := hide (HN6.out w7 g7 c7 o7 gr7); clear o7 gr7 l7))
            have HH := held_any (held := (C : Int) + 1) I7.out.wri
            clear x0 x1 x2 x3 x4
            obtain ⟨x0, -⟩ := HCS.out w7 I7.out.bel
            try dsimp only at x0
            have e2 : ((C : Int) + 1 != (C : Int) + 1) = false := by simp
            go_wp2_with (first | (go_at_call 22; refine (HNU _ _).mono ?_; rintro e w9 ⟨rfl, hw9⟩; rw [hw9]; clear hw9 w9) | (go_at_call 29; refine HH.mono ?_; rintro e w9 ⟨rfl, hw9⟩; rw [hw9]; clear hw9 w9))
            exact ⟨⟨k + 1, dn, _, pl, D, T + 1, C + 1, _, ao, co, vals, _, _, _, _, _, rfl, rfl, by simp, rfl, by simp, by go_num, by omega, I7⟩, by simp [intOf]; omega⟩
          · have hT := text_len hput HRO.out
            have hfull : lim < ((encs St.zero cur).length : Int) + ((text (fin St.zero cur) ⟨t, kd, o, ar, q⟩).length : Int) := by omega
            have hbp : 0 < Bn := by rw [← HBN.out]; omega
            have hbpI : (0 : Int) < (Bn : Int) := by omega
            have hbd : decide ((0 : Int) < (Bn : Int)) = true := decide_eq_true hbpI
            obtain ⟨gv, cv', e9, _, _⟩ := own_some I5.out.own hbp
            cases e9
            have HP := wput_full (b := encs St.zero cur) t kd o ar q K5 (by rw [HBN.out]; exact I5.out.wri) (by rw [HBN.out]; exact I5.out.own) I5.out.bel.size hE HRO.out hput hlow hlim2 hbl9 (by omega) hCI hfull
            rw [HBN.out] at HP
            have HN : Hid _ := hide (fun (w3 w5 w4 : World) (g c g5 c5 : Nat) (a2 : Option Addr) (c2 : Nat) => I5.out.full (w3 := w3) (w5 := w5) (w4 := w4) (g := g) (c := c) (g5 := g5) (c5 := c5) (a2 := a2) (c2 := c2) hE HRO.out hlow hlim1 hfull rfl)
            have hDI : (D : Int) ≤ 1048576 := by have := I5.out.dT; omega
            clear hE hlow hroom hput hT hfull
            go_wp2_with fail
            refine HP.mono ?_
            rintro e w6 ⟨g, cg, rfl, hW6, hO6, hb6⟩
            have HT6 : Hid _ := hide (own_but I5.out.tk hb6 (fun g' hg e => own_ne_cells I5.out.tk I5.out.wri (by decide) (by rw [← (e : g' = p)]; exact hg)))
            have HD6 : Hid (w6.ownsRow w.heap.size 35 1 (.slice ao D co) D vals) := hide (by
              have h9 := own_but I5.out.bods.own hb6 (fun g' hg e => own_ne_cells I5.out.bods.own I5.out.wri (by decide) (by rw [← (e : g' = p)]; exact hg))
              rw [List.length_map, I5.out.dl] at h9
              exact h9)
            have hbw6 : Below w.heap.size w w6 := I5.out.bel.trans (hb6.below I5.out.bel.size (fun g' e => by have e9 : g' = p := e; have := I5.out.pge; omega))
            have HB6 : Hid _ := hide hbw6
            have hs6 := hbw6.size
            have HN6 : Hid _ := hide (fun (w5 w4 : World) (g5 c5 : Nat) (a2 : Option Addr) (c2 : Nat) => HN.out w6 w5 w4 g cg g5 c5 a2 c2 hW6 hO6 hb6)
            clear HP x0 x1 x2 x3 x4 hW6 hO6 hb6 hbw6 HN
            obtain ⟨x0, x1, x2, x3, x4⟩ := HCS.out w6 HB6.out
            try dsimp only at x0 x1 x2 x3 x4
            go_upto_region 33 with (first | (go_at_call 22; refine (HNU _ _).mono ?_; rintro e w9 ⟨rfl, hw9⟩; rw [hw9]; clear hw9 w9) | (at_builtin; refine rec_lies _ rfl (.tmp 153) (.tmp 158) rfl w.heap.size (.slice ta T tc) T (dn.flatten ++ cur) rfl (HT6.out.alloc _) w6.heap.size ⟨t, kd, o, ar, q⟩ rfl (heap_new _ _) (by omega) (by simp; omega) ?_; intro g7 c7 w7 o7 gr7 l7))
            have b7 : But (fun z => (Value.slice ta T tc).ownBlock = some z) w6 w7 := (But.refl _ w6).alloc _ |>.grown gr7 (fun _ _ e => e)
            have HB7 : Hid (Below w.heap.size w w7) := hide (HB6.out.trans (b7.below hs6 (fun z e => (HT6.out.lt z e).1)))
            have HD7 : Hid (w7.ownsRow w.heap.size 35 1 (.slice ao D co) D vals) := hide (own_but HD6.out b7 (fun z hz e => own_types HT6.out HD6.out (by decide) z e hz))
            have HN7 : Hid _ := hide (fun (w4 : World) (a2 : Option Addr) (c2 : Nat) => HN6.out w7 w4 g7 c7 a2 c2 o7 gr7)
            have hs7 := HB7.out.size
            clear x0 x1 x2 x3 x4 o7 gr7 l7 b7
            obtain ⟨x0, -⟩ := HCS.out w7 HB7.out
            try dsimp only at x0
            go_upto_region 37 with (first | (go_at_call 22; refine (HNU _ _).mono ?_; rintro e w9 ⟨rfl, hw9⟩; rw [hw9]; clear hw9 w9) | (at_builtin; refine append_lst _ rfl (.tmp 170) (.tmp 172) rfl w.heap.size (.slice ao D co) D vals rfl (HD7.out.alloc _) w7.heap.size (.slice (some ⟨gv, 0, none⟩) Bn Bn) rfl (cell_new1 _ _ _) rfl (by omega) (by simp; omega) ?_; intro a8 c8 w8 o8 g8 l8; have I8 : Hid _ := hide (HN7.out w8 a8 c8 o8 g8); clear o8 g8 l8))
            have HH := held_any (held := 1) I8.out.wri
            clear x0
            go_wp2_with (first | (go_at_call 22; refine (HNU _ _).mono ?_; rintro e w9 ⟨rfl, hw9⟩; rw [hw9]; clear hw9 w9) | (go_at_call 29; refine HH.mono ?_; rintro e w9 ⟨rfl, hw9⟩; rw [hw9]; clear hw9 w9))
            exact ⟨⟨k + 1, _, _, pl, D + 1, T + 1, 1, _, a8, c8, _, _, _, _, _, _, rfl, rfl, by simp, rfl, rfl, by go_num, by omega, I8⟩, by simp [intOf]; omega⟩
      · have HP := put_bad 0 0 0 t kd o ar q wc K3 hw3 hE
        go_wp2_with fail
        refine HP.mono ?_
        rintro e w4 ⟨rfl, hb4⟩
        obtain ⟨w5, hw5⟩ : ∃ w5, w5 = w4.alloc (.cells #[.int .i64 0, .int .u64 0, .int .i64 0] 48) := ⟨_, rfl⟩
        have hb5 : Below wc.heap.size wc w5 := by rw [hw5]; exact hb4.alloc hb4.size _
        have I5 : Hid _ := hide (HI.out.below hb5)
        have K5 := HKN.out.below I5.out.bel hw
        have HW5 : Hid _ := hide hw5
        have HP2 := wput_bad t kd o ar q K5 I5.out.wri hE
        clear HP hb4 hw5 hb5 x0 x1 x2 x3 x4 K3 hw3
        obtain ⟨x0, x1, x2, x3, x4⟩ := HCS.out w5 I5.out.bel
        try dsimp only at x0 x1 x2 x3 x4
        have hE' : putE ⟨0, 0, 0⟩ ⟨t, kd, o, ar, q⟩ ≠ 0 := hE
        generalize putE ⟨0, 0, 0⟩ ⟨t, kd, o, ar, q⟩ = E at HP2 hE' ⊢
        have e1 : (E != 0) = true := by simpa using hE'
        have e2 : (E == 0) = false := by simpa using hE'
        have e3 : (E != E) = false := by simp
        have e4 : ((C : Int) != (C : Int)) = false := by simp
        clear hE hE'
        go_upto_region 26 with fail
        rw [← HW5.out]
        go_wp2_with fail
        refine HP2.mono ?_
        rintro e w6 ⟨rfl, hb6⟩
        have I6 : Hid _ := hide (I5.out.below hb6)
        have HH := held_any I6.out.wri
        clear HP2 hb6 x0 x1 x2 x3 x4
        obtain ⟨x0, -⟩ := HCS.out w6 I6.out.bel
        try dsimp only at x0
        go_wp2_with (first | (go_at_call 22; refine (HNU _ _).mono ?_; rintro e w9 ⟨rfl, hw9⟩; rw [hw9]; clear hw9 w9) | (go_at_call 29; refine HH.mono ?_; rintro e w9 ⟨rfl, hw9⟩; rw [hw9]; clear hw9 w9))
        exact ⟨⟨k + 1, dn, cur, pl, D, T, C, Bn, ao, co, vals, av, cv, least, ta, tc, rfl, rfl, rfl, rfl, rfl, by go_num, by omega, I6⟩, by simp [intOf]; omega⟩
    · have hltI : ¬ (k : Int) < (n : Int) := by omega
      have FL := flush_any HI.out.wri (own_capL HI.out.own)
      have hcp := HI.out.cpos
      go_wp2_with fail
      refine FL.mono ?_
      rintro e w3 ⟨rfl, hW3, hb3⟩
      clear FL
      go_upto_if 182 with fail
      go_cut [11] from 178 to 186 (fun bv wx => ∃ (dn : List (List Rc)) (D : Nat) (ao : Option Addr) (co : Nat) (vals : List Value), bv = .slice ao D co ∧ Hid (GrI w wx p lim dn [] false D T 0 0 ao co vals none 0 least ta tc) ∧ Hid (pl = true → cutS lim.toNat [] St.zero dn.flatten = dn.map (encs St.zero)))
      case first =>
        by_cases hC : C = 0
        · have hB0 : Bn = 0 := by omega
          have hcur : cur = [] := List.length_eq_zero_iff.1 (by rw [HI.out.cl]; exact hC)
          have I3 := HI.out.flush0 hC hW3 hb3
          rw [hcur] at I3
          have HC3 : Hid _ := hide I3.cut0
          have HI3 : Hid _ := hide I3.weak
          subst hC; subst hB0
          clear hW3 hb3 hcp I3
          go_wp2_with fail
          go_meet
          exact ⟨dn, D, ao, co, vals, rfl, HI3, HC3⟩
        · have hC0 : 0 < C := by omega
          have hB0 : 0 < Bn := hcp.2 hC0
          have hBI : (0 : Int) < (Bn : Int) := by omega
          have hbd : decide ((0 : Int) < (Bn : Int)) = true := decide_eq_true hBI
          have HC3 : Hid _ := hide (HI.out.cut1 hC0)
          obtain ⟨gv, cv', e9, _, _⟩ := own_some HI.out.own hB0
          cases e9
          have HO9 : Hid (w3.ownsRow w.heap.size 35 1 (.slice ao D co) D vals) := hide (by
            have h9 := own_but HI.out.bods.own hb3 (fun g' hg e => own_ne_cells HI.out.bods.own HI.out.wri (by decide) (by rw [← (e : g' = p)]; exact hg))
            rw [List.length_map, HI.out.dl] at h9
            exact h9)
          have hs3 := hb3.size
          have hs2 := HI.out.bel.size
          have HW3 : Hid _ := hide hW3
          have HB3 : Hid _ := hide hb3
          clear hW3 hb3 hcp
          go_wp2_with (at_builtin; refine append_lst _ rfl _ _ rfl w.heap.size (.slice ao D co) D vals rfl (HO9.out.alloc _) w3.heap.size (.slice (some ⟨gv, 0, none⟩) Bn Bn) rfl (cell_new1 _ _ _) rfl (by omega) (by simp; omega) ?_; intro a4 c4 w4 o4 g4 l4; have I4 : Hid _ := hide (HI.out.flush1 hC0 hlim1 HW3.out HB3.out o4 g4); clear o4 g4 l4)
          go_meet
          exact ⟨_, D + 1, a4, c4, _, rfl, I4, HC3⟩
      case rest =>
      clear HI hDI hcp hW3 hb3
      obtain ⟨dn, D, ao, co, vals, rfl, HJ, HCUT⟩ := hcut
      have FL := flush_any HJ.out.wri (Nat.le_refl _)
      go_wp2_with fail
      refine FL.mono ?_
      rintro e w5 ⟨rfl, hW5, hb5⟩
      have I5 : Hid _ := hide (HJ.out.flush0 rfl hW5 hb5)
      have HH := held_any (held := 0) hW5
      clear FL hb5 HJ
      go_wp2_with (first | (go_at_call 29; refine HH.mono ?_; rintro e w9 ⟨rfl, hw9⟩; rw [hw9]; clear hw9 w9))
      clear HH hW5
      have hDI : (D : Int) ≤ 1048576 := by have := I5.out.dT; have := I5.out.tl_; have := I5.out.lm; omega
      have hTI : (T : Int) ≤ 1048576 := by have := I5.out.tl_; have := I5.out.lm; omega
      have hw5 : 0 < w5.heap.size := Nat.lt_of_lt_of_le hw I5.out.bel.size
      go_loopw [23, 24] (fun av iv wr => ∃ (k A : Nat) (aa : Option Addr) (ac : Nat), av = .slice aa A ac ∧ iv = .int .i64 (k : Int) ∧ k ≤ D ∧ Hid ((dn.take k).flatten.length = A ∧ wr.ownsRow w5.heap.size 52 5 (.slice aa A ac) A (flat (dn.take k).flatten)) ∧ Hid (Below w5.heap.size w5 wr)) (fun _ iv _ => D - (intOf iv).toNat)
      case atStart => exact ⟨0, 0, none, 0, rfl, rfl, Nat.zero_le _, hide ⟨by simp, by rw [List.take_zero]; exact World.ownsRow_nil _ _ _ _⟩, hide (Below.refl _ _)⟩
      case round =>
        obtain ⟨k2, A, aa, ac, rfl, rfl, hk2, HAl, HBr⟩ := hrel
        rename World => wq
        have I6 : Hid _ := hide (I5.out.below HBr.out)
        have K6 := HKN.out.below I6.out.bel hw
        have hw6 : 0 < wq.heap.size := Nat.lt_of_lt_of_le hw5 HBr.out.size
        have HLR : Hid (LRow wq ao D (dn.map (encs St.zero))) := hide (I6.out.bods.lrow (by rw [List.length_map, I6.out.dl]) (fun b hb => by
          obtain ⟨d9, hd9, rfl⟩ := List.mem_map.1 hb
          have := (I6.out.parts d9 hd9).1.len
          omega))
        by_cases hlt2 : k2 < D
        · have hlt2I : (k2 : Int) < (D : Int) := by omega
          obtain ⟨dk, hdk⟩ : ∃ d, dn[k2]? = some d := ⟨_, List.getElem?_eq_getElem (by rw [I5.out.dl]; exact hlt2)⟩
          obtain ⟨hpart, hne⟩ := I5.out.parts dk (List.mem_of_getElem? hdk)
          have hcv := chunk_part hpart hne
          have hplen := hpart.len
          have hdp : 0 < dk.length := List.length_pos_iff.2 hne
          have HTK : Hid ((dn.take (k2 + 1)).flatten = (dn.take k2).flatten ++ dk) := hide (by
            rw [List.take_add_one, hdk]
            simp)
          have HAB : Hid (A + dk.length ≤ 1048576) := hide (by
            have h1 := congrArg List.length HTK.out
            have h2 := congrArg List.length (show dn.flatten = (dn.take (k2 + 1)).flatten ++ (dn.drop (k2 + 1)).flatten by rw [← List.flatten_append, List.take_append_drop])
            have h3 := I5.out.tl
            have h4 := HAl.out.1
            rw [List.length_append] at h1 h2 h3
            omega)
          rcases HLR.out.cells with h0 | ⟨lb, lo_, hao, hlc⟩
          · omega
          subst hao
          obtain ⟨ai, ci, c0, hrow, -, -, -⟩ := hlc k2 (encs St.zero dk) (by rw [List.getElem?_map, hdk]; rfl)
          have HC := chunk_any ai (encs St.zero dk).length ci (encs St.zero dk) wq K6 hw6 hrow (by omega)
          rw [hcv] at HC
          obtain ⟨ln, hln⟩ : ∃ ln, ln = (encs St.zero dk).length := ⟨_, rfl⟩
          rw [← hln] at c0 HC hplen
          have e1 : decide (lim < (ln : Int)) = false := decide_eq_false (by omega)
          have e1' : ¬ lim < (ln : Int) := by omega
          clear hlc hrow hpart hne hcv hdk hln
          go_wp2_with fail
          refine HC.mono ?_
          rintro e w6 ⟨hb6, -, hgood⟩
          obtain ⟨v6, rfl, o6⟩ := hgood (by trivial)
          have o6' : w6.ownsRow wq.heap.size 52 5 v6 dk.length (flat dk) := o6
          obtain ⟨g6, c6, hv6, _, _⟩ := own_rowR o6' hdp
          subst hv6
          have HO6 : Hid _ := hide o6'
          have HA6 : Hid _ := hide (own_below HAl.out.2 hb6)
          have c1 := (hb6.cell (p := ⟨lb, lo_ + k2, none⟩) (World.block_lt_of_cell? wq _ c0)).trans c0
          have hB6 : Below w5.heap.size w5 w6 := HBr.out.trans (hb6.mono HBr.out.size)
          have HB6 : Hid _ := hide hB6
          have hs6 := hB6.size
          clear HC hgood o6 o6' hb6 hB6 c0
          go_wp2_with (first | (go_at_call 22; refine (HNU _ _).mono ?_; rintro e w9 ⟨rfl, hw9⟩; rw [hw9]; clear hw9 w9) | (at_builtin; refine recs_lies _ rfl (.tmp 222) (.tmp 223) rfl w5.heap.size (.slice aa A ac) A (dn.take k2).flatten rfl HA6.out g6 dk.length c6 wq.heap.size dk rfl HO6.out hdp (by have := HAB.out; omega) (by omega) ?_; intro g7 c7 w7 o7 gr7 l7; have O7 : Hid _ := hide o7; have B7 : Hid _ := hide (HB6.out.grown gr7 HB6.out.size (fun j e => (HA6.out.lt j e).1)); clear o7 gr7 l7))
          exact ⟨⟨k2 + 1, A + dk.length, _, c7, rfl, by go_num, by omega, hide ⟨by rw [HTK.out, List.length_append, HAl.out.1], by rw [HTK.out]; exact O7.out⟩, B7⟩, by simp [intOf]; omega⟩
        · have hlt2I : ¬ (k2 : Int) < (D : Int) := by omega
          have HFT : Hid ((dn.take k2).flatten = dn.flatten ++ []) := hide (by rw [List.take_of_length_le (by rw [I5.out.dl]; omega), List.append_nil])
          have eA : A = T := by rw [← HAl.out.1, HFT.out]; exact I5.out.tl
          subst eA
          have EN := enc_any ta A tc (dn.flatten ++ []) lim wq K6 hw6 (RRow.of_own I6.out.tk) I6.out.ok HLM.out (by omega)
          obtain ⟨Z, hZ⟩ : ∃ Z, Z = cutS lim.toNat [] St.zero (dn.flatten ++ []) := ⟨_, rfl⟩
          rw [← hZ] at EN
          have HZ : Hid _ := hide hZ
          clear hZ
          go_wp2_with fail
          refine EN.mono ?_
          rintro e w7 ⟨hb7, -, hgood⟩
          obtain ⟨ae, ce, vals7, rfl, bd7, hsm7, hl7⟩ := hgood I6.out.str
          have HB7 : Hid _ := hide hb7
          have HBD : Hid _ := hide bd7
          have HSM : Hid _ := hide hsm7
          have hZl : (Z.length : Int) ≤ 1048577 := by omega
          have RS := rsame_eq aa ta A ac tc (dn.flatten ++ []) w7 (RRow.of_own (by have h9 := own_below HAl.out.2 hb7; rw [HFT.out] at h9; exact h9)) (RRow.of_own (own_below I6.out.tk hb7)) (by omega)
          clear EN hgood hb7 bd7 hsm7 hl7
          go_wp2_with fail
          refine RS.mono ?_
          rintro e w8 ⟨rfl, m8, hw8⟩
          clear RS
          have hb8 : Below w7.heap.size w7 w8 := by rw [hw8]; exact below_drewN (Below.refl _ _) _
          have HB8 : Hid (Below wq.heap.size wq w8) := hide (HB7.out.trans (hb8.mono HB7.out.size))
          have HR8 : Hid (Below w.heap.size w w8) := hide ((I6.out.below HB8.out).bel)
          cases pl with
          | false =>
            clear hw8 hb8
            go_wp2_with (first | (go_at_call 22; refine (HNU _ _).mono ?_; rintro e w9 ⟨rfl, hw9⟩; rw [hw9]; clear hw9 w9))
            go_ret
            exact ⟨rfl, HR8.out⟩
          | true =>
            have hEq : Z = dn.map (encs St.zero) := by rw [HZ.out, List.append_nil]; exact HCUT.out rfl
            have SL := sl_any ae ao Z.length ce D co Z (dn.map (encs St.zero)) w8 ((HBD.out.below hb8).lrow rfl (fun b hb => by have := HSM.out b hb; omega)) ((I6.out.below HB8.out).bods.lrow (by rw [List.length_map, I6.out.dl]) (fun b hb => by
              obtain ⟨d9, hd9, rfl⟩ := List.mem_map.1 hb
              have := (I6.out.parts d9 hd9).1.len
              omega)) (by omega)
            rw [decide_eq_true hEq] at SL
            clear hw8 hb8 hEq
            go_wp2_with (first | (go_at_call 22; refine (HNU _ _).mono ?_; rintro e w9 ⟨rfl, hw9⟩; rw [hw9]; clear hw9 w9) | (go_at_call 12; refine SL.mono ?_; rintro e w9 ⟨rfl, m9, hw9⟩))
            go_ret
            exact ⟨rfl, below_drewN HR8.out _⟩
set_option maxHeartbeats 1600000 in
set_option maxRecDepth 8000 in
theorem grows_any (a b : Option Addr) (n c m d : Nat) (L : List Rc) (F : List Bool) (lim : Int) (w : World) (hK : Kn w) (hw : 0 < w.heap.size) (hr : RRow w a n L) (hf : BRow w b m F) (hok : ∀ r ∈ L, r.ok) (hn : (n : Int) ≤ 9223372036854775000) :
    Calls Tryd.prog 7 #[.slice a n c, .slice b m d, .int .i64 lim] w fun e w' => e = .returned (.bool true) ∧ Below w.heap.size w w' := by
  by_cases hlim : 64 ≤ lim ∧ lim ≤ 1048576
  · exact grows_ok a b n c m d L F lim w hK hw hr hf hok hlim hn
  · have HA := awake_any w hK hw
    have HLI := limits_any lim
    rw [decide_eq_false hlim] at HLI
    have HNU := num_any
    have HNW := fun W => new_bad lim W hlim
    clear hr hf hok hlim hK
    go_enter Tryd.func7, Tryd.ntmps7
    go_wp2_with fail
    refine HA.mono ?_
    rintro e w1 ⟨rfl, hb1⟩
    have HB1 : Hid _ := hide hb1
    clear HA hb1
    go_wp2_with (first | (go_at_call 25; refine (HNW _).mono ?_; rintro e w9 ⟨rfl, hw9⟩; rw [hw9]; clear hw9 w9) | (go_at_call 22; refine (HNU _ _).mono ?_; rintro e w9 ⟨rfl, hw9⟩; rw [hw9]; clear hw9 w9) | (go_at_call 23; refine (HLI _).mono ?_; rintro e w9 ⟨rfl, hw9⟩; rw [hw9]; clear hw9 w9))
    go_ret
    exact ⟨rfl, HB1.out⟩
end Go.Proofs.YtamoioebgnmcaaaDoor
