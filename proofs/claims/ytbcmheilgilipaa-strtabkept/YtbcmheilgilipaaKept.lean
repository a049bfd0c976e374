/-
  The walk of StrtabKept.
-/
import Derived.Test.YtbcmheilgilipaaKeptA
namespace Go.Proofs.Ytbcmheilgilipaa
open Go.RowKit Go.Maps
set_option maxHeartbeats 8000000 in
set_option maxRecDepth 4000 in
theorem kept_any (a : Option Addr) (n c : Nat) (l : List ByteArray) (limit : Int) (w : World) (hr : SRow w a n l) (hn : (n : Int) ≤ 9223372036854775807) (hz : ∀ s ∈ l, s.size ≤ maxLen) :
    Calls Try.prog 6 #[.slice a n c, .int .i64 limit] w fun e w' => e = .returned (.bool true) ∧ Below w.heap.size w w' := by
  have HT : Hid _ := hide (table_60 a n c l w hr hn hz)
  have HW : Hid _ := hide (within_any limit 200 w (by decide) (by decide))
  clear hr hz
  go_enter Try.func6, Try.ntmps6
  go_wp2_with fail
  refine HW.out.mono ?_
  rintro e w0 ⟨⟨r, rfl, hr0, hr1⟩, rfl⟩
  obtain ⟨lim, hlim⟩ : ∃ lim : Nat, r = (lim : Int) - 64 := ⟨(r + 64).toNat, by omega⟩
  subst hlim
  have hlo : 64 ≤ (lim : Int) := by omega
  have hhi : (lim : Int) ≤ 263 := by omega
  have elim : (64 : Int) + ((lim : Int) - 64) = lim := by omega
  clear hr0 hr1 HW
  go_wp2_with fail
  refine HT.out.mono ?_
  rintro e w1 ⟨tb, S, L0, v, mv, aO, cO, rfl, hB, hL6⟩
  have HQ0 : Hid _ := hide (intern_empty hB hL6)
  have HL6 : Hid ((L0.length : Int) ≤ 60000) := hL6
  clear hB HT hL6
  go_wp2_with fail
  refine HQ0.out.mono ?_
  rintro e w2 ⟨id, L, rfl, hid0, hid1, hLp, hT2⟩
  have HT2 : Hid (TabN w0 w2 tb L) := hT2
  have HG : Hid (GoodL L) := hT2.good
  have HLp : Hid (0 < L.length) := hLp
  have hid : decide ((L0.length : Int) < id) = false := decide_eq_false (by omega)
  have HE1 : Hid _ := hide (encN_any hT2 lim hlo (by omega))
  clear hT2 HQ0 hid0 hid1 hLp
  go_wp2_with fail
  refine HE1.out.mono ?_
  rintro e w3 ⟨aA, cA, bs, valsA, rfl, hcut, hlsA, hb3⟩
  have HC : Hid (Cutting L lim 0 bs) := hcut
  have HLA3 : Hid (Lists w3 w2.heap.size (.slice aA bs.length cA) bs valsA) := hlsA
  have HB23 : Hid (Below w2.heap.size w2 w3) := hb3
  have HE2 : Hid _ := hide (encN_any (HT2.out.below hb3) lim hlo (by omega))
  have hbp : 0 < bs.length := hcut.ne HLp.out
  have hbsi : (bs.length : Int) ≤ 9223372036854775806 := by have := hcut.most; have := HG.out.len; omega
  have HBs : Hid (bs.length ≤ 65536) := hide (by have := hcut.most; have := HG.out.len; omega)
  have HSm : Hid (∀ z ∈ bs, z.length ≤ 10000000) := hcut.len HG.out.len HG.out.sum HG.out.small
  clear hcut hlsA hb3 HE1 hid
  go_wp2_with fail
  refine HE2.out.mono ?_
  rintro e w4 ⟨aB, cB, bs4, valsB, rfl, hcut4, hlsB, hb4⟩
  have e4 : bs4 = bs := hcut4.uniq HC.out
  subst e4
  have HLB4 : Hid (Lists w4 w3.heap.size (.slice aB bs4.length cB) bs4 valsB) := hlsB
  have HLA4 : Hid (Lists w4 w2.heap.size (.slice aA bs4.length cA) bs4 valsA) := hide (HLA3.out.below hb4)
  have HB24 : Hid (Below w2.heap.size w2 w4) := hide (HB23.out.trans (hb4.mono HB23.out.size))
  have HQ1 := sl_any aA aB bs4.length cA bs4.length cB bs4 bs4 w4 (HLA4.out.lrow (fun z hz => by have := HSm.out z hz; omega)) (hlsB.lrow (fun z hz => by have := HSm.out z hz; omega)) hbsi
  rw [decide_eq_true (show bs4 = bs4 from rfl)] at HQ1
  have HQ2 : Hid _ := hide HQ1
  have HP : Hid (∀ x ∈ valsA, ∀ g, x.ownBlock = some g → g < w3.heap.size) := hide (fun x hx g hg => (HLA3.out.blocks x hx g hg).2)
  have HS34 : Hid (w3.heap.size ≤ w4.heap.size) := hb4.size
  clear HQ1 hcut4 hlsB hb4 HE2 HLA3
  have hq0 : ((bs4.length : Int) == 0) = false := beq_eq_false_iff_ne.2 (by omega)
  go_wp2_with fail
  refine HQ2.out.mono ?_
  rintro e w5 ⟨rfl, m5, h5⟩
  have hb5 : Below w4.heap.size w4 w5 := by rw [h5]; exact below_drewN (Below.refl _ _) m5
  clear h5
  have HB25 : Hid (Below w2.heap.size w2 w5) := hide (HB24.out.trans (hb5.mono HB24.out.size))
  have HLA5 : Hid (Lists w5 w2.heap.size (.slice aA bs4.length cA) bs4 valsA) := hide (HLA4.out.below hb5)
  have HLB5 : Hid (Lists w5 w3.heap.size (.slice aB bs4.length cB) bs4 valsB) := hide (HLB4.out.below hb5)
  have HS35 : Hid (w3.heap.size ≤ w5.heap.size) := hide (Nat.le_trans HS34.out hb5.size)
  clear hb5 HLA4 HLB4 HB24 HQ2 hq0 HS34
  have HQ3 : Hid _ := hide (twins_any aA bs4.length cA bs4 w5 (HLA5.out.lrow (fun z hz => by have := HSm.out z hz; omega)) (by have := HBs.out; omega) (fun z hz => by have := HSm.out z hz; omega) HLA5.out.u8 HLA5.out.caps)
  go_wp2_with fail
  refine HQ3.out.mono ?_
  rintro e w6 ⟨aK, cK, valsK, rfl, hlsK, hb6⟩
  have HB26 : Hid (Below w2.heap.size w2 w6) := hide (HB25.out.trans (hb6.mono HB25.out.size))
  have HS : Hid (w2.heap.size ≤ w3.heap.size ∧ w3.heap.size ≤ w5.heap.size ∧ w5.heap.size ≤ w6.heap.size) := hide ⟨HB23.out.size, HS35.out, hb6.size⟩
  have HLA6 : Hid (Lists w6 w2.heap.size (.slice aA bs4.length cA) bs4 valsA) := hide (HLA5.out.below hb6)
  have HLB6 : Hid (Lists w6 w3.heap.size (.slice aB bs4.length cB) bs4 valsB) := hide (HLB5.out.below hb6)
  have HLK6 : Hid (Lists w6 w5.heap.size (.slice aK bs4.length cK) bs4 valsK) := hlsK
  have HPB : Hid (∀ x ∈ valsB, ∀ g, x.ownBlock = some g → w3.heap.size ≤ g ∧ g < w5.heap.size) := hide (fun x hx g hg => HLB5.out.blocks x hx g hg)
  clear HB23 HB25 HLA5 HLB5 hlsK hb6 HQ3 HS35
  generalize hbs : bs4 = bs at *
  clear hbs bs4
  go_wp2
  go_loopw [14, 15, 16] (fun o1 o2 i wr => ∃ (k : Nat) (ar ag : Option Addr) (cr cg : Nat) (vals : List Value), k ≤ bs.length ∧ i = .int .i64 k ∧ o1 = .slice ar k cr ∧ o2 = .slice ag k cg ∧ Rms wr w6.heap.size ar cr ag cg k ((bs.take k).map mkd) vals ∧ Below w6.heap.size w6 wr) (fun _ _ i _ => bs.length - (intOf i).toNat)
  case atStart => exact ⟨0, none, none, 0, 0, [], Nat.zero_le _, rfl, rfl, rfl, Rms.nil _ _, Below.refl _ _⟩
  case round =>
    obtain ⟨k, ar, ag, cr, cg, vals, hk, rfl, rfl, rfl, hR, hB6⟩ := hrel
    have HR : Hid (Rms wr w6.heap.size ar cr ag cg k ((bs.take k).map mkd) vals) := hR
    have HB6 : Hid (Below w6.heap.size w6 wr) := hB6
    clear hR hB6
    by_cases hlt : k < bs.length
    · have hLr := HLA6.out.below HB6.out
      obtain ⟨b, off, z, ai, ci, rfl, hz, hcz, hrz, hnz, _, _⟩ := (hLr.lrow (fun z hz => by have := HSm.out z hz; omega)).at hlt
      have HQ4 : Hid _ := hide (copied_any ai z.length ci z wr hrz (by have := HSm.out z (List.mem_of_getElem? hz); omega) (fun e => ⟨hnz e, hLr.caps k hlt b off ai _ ci rfl hcz e⟩))
      have HZ : Hid (bs[k]? = some z) := hz
      have hzl : (z.length : Int) ≤ 140737488351232 := by have := HSm.out z (List.mem_of_getElem? hz); omega
      have hbB : b < w6.heap.size := by
        have h9 := (HLA6.out.lrow (fun z hz => by have := HSm.out z hz; omega)).at hlt
        obtain ⟨b9, o9, z9, a9, c9, e9, _, h9, _⟩ := h9
        cases e9
        exact World.block_lt_of_cell? w6 _ h9
      have HbB : Hid (b < w6.heap.size) := hbB
      clear hLr hz hrz hnz hbB
      go_wp2_with fail
      refine HQ4.out.mono ?_
      rintro e w7 ⟨a1, c1, rfl, _, ho1, hb1⟩
      have HO1 : Hid (w7.ownsRow wr.heap.size 5 1 (.slice a1 z.length c1) z.length (z.map (Value.int .u8))) := ho1
      have HB1 : Hid (Below wr.heap.size wr w7) := hb1
      clear ho1 hb1 HQ4
      go_wp2_with (first
        | (at_builtin; refine append_keep _ rfl (.tmp 96) (.tmp 97) rfl wr.heap.size _ _ _ rfl (HO1.out.alloc _) ⟨w7.heap.size, 0, none⟩ 3 3 [.int .u8 201, .int .u8 202, .int .u8 203] rfl rfl (by intro t u ht; match t, ht with | 0, ht => simp at ht; subst ht; simp [Addr.add] | 1, ht => simp at ht; subst ht; simp [Addr.add] | 2, ht => simp at ht; subst ht; simp [Addr.add]) (by intro u hu; simp at hu; rcases hu with rfl | rfl | rfl <;> rfl) (by omega) (by omega) (by simp; have := HB1.out.size; omega) ?_; intro g cR w8 hnR hkR hgR hlR; have HNR : Hid (w8.ownsRow wr.heap.size 5 1 (.slice (some ⟨g, 0, none⟩) (z.length + 3) cR) (z.length + 3) ((mkd z).map (Value.int .u8))) := hide (by unfold mkd; rw [List.map_append]; exact hnR); obtain ⟨hcR, hcRm⟩ := own_capB hnR; have HB8 : Hid (Below wr.heap.size wr w8) := hide ((HB1.out.alloc HB1.out.size _).grown hgR (by simp; have := HB1.out.size; omega) (fun q hq => (HO1.out.lt q hq).1)); have HX8 : Hid (w8.ownsRow w6.heap.size 31 1 (.slice ar k cr) k vals) := hide (by have h1 := (HR.out.rooms.below HB8.out).own; rw [HR.out.len] at h1; exact h1); clear hnR hkR hgR hlR)
        | (at_builtin; refine append_lstC _ rfl (.tmp 99) (.tmp 101) rfl w6.heap.size (.slice ar k cr) k vals rfl (HX8.out.alloc _) w8.heap.size (.slice (some ⟨g, 0, none⟩) (z.length + 3) cR) rfl (cell_new _ _ _) rfl (by have := HBs.out; omega) (by have := HB6.out.size; have := HB8.out.size; simp; omega) ?_; intro ar' cr' w9 o9 g9 l9; have O9 : Hid _ := hide o9; have G9 : Hid _ := hide g9; have L9 : Hid _ := hide l9; have M9 : Hid (w9.ownsRow w6.heap.size 31 1 (.slice ag k cg) k (vals.map cutV)) := hide (HR.out.mid HB8.out g9); have hcz9 : w9.cell? ⟨b, off + k, none⟩ = some (.slice ai z.length ci) := by { have b9 : Below w6.heap.size wr w9 := ((HB8.out.mono HB6.out.size).alloc (Nat.le_trans HB6.out.size HB8.out.size) _).grown g9 (by have := HB6.out.size; have := HB8.out.size; simp; omega) (fun q hq => (HX8.out.lt q hq).1); rw [World.cell?_of_block (w := wr) (b9.block b HbB.out)]; exact hcz }; clear o9 g9 l9)
        | (at_builtin; refine append_lstC _ rfl (.tmp 103) (.tmp 111) rfl w6.heap.size (.slice ag k cg) k (vals.map cutV) rfl (M9.out.alloc _) w9.heap.size (.slice (some ⟨g, 0, none⟩) z.length cR) rfl (cell_new _ _ _) rfl (by have := HBs.out; omega) (by have := (HB6.out.size); have := HB8.out.size; have := G9.out.size; simp at this ⊢; omega) ?_; intro ag' cg' w10 o10 g10 l10; have O10 : Hid _ := hide o10; have G10 : Hid _ := hide g10; have L10 : Hid _ := hide l10; clear o10 g10 l10))
      have hfin := HR.out.snoc (z := z) HB6.out.size HB8.out HNR.out (by
        intro y hy
        exact HLA6.out.u8 z (List.mem_of_getElem? HZ.out) y hy) O9.out G9.out L9.out O10.out G10.out L10.out
      have ht : (bs.take (k + 1)).map mkd = (bs.take k).map mkd ++ [mkd z] := by
        have := List.getElem?_eq_some_iff.1 HZ.out
        rw [List.take_succ_eq_append_getElem this.1, this.2, List.map_append]; rfl
      exact ⟨⟨k + 1, ar', ag', cr', cg', _, by omega, by go_num, rfl, rfl, by rw [ht]; exact hfin.1, HB6.out.trans hfin.2⟩, by simp [intOf]; omega⟩
    · have hkn : k = bs.length := by omega
      subst hkn
      rw [List.take_of_length_le (Nat.le_refl _)] at HR
      rename World => wA
      have HLG : Hid (LRow wA ag bs.length bs) := hide (by
        have h1 := HR.out.lrow (by intro b hb; obtain ⟨z, _, rfl⟩ := List.mem_map.1 hb; rw [mkd_len]; omega) (by intro b hb; obtain ⟨z, hz, rfl⟩ := List.mem_map.1 hb; rw [mkd_len]; have := HSm.out z hz; omega)
        rwa [cut_mkd] at h1)
      have HVB : Hid (∀ g, (∃ x ∈ vals, x.ownBlock = some g) → w6.heap.size ≤ g ∧ g < wA.heap.size) := hide (fun g ⟨x, hx, hg⟩ => HR.out.rooms.blocks x hx g hg)
      have HD : Hid _ := hide (dec_back HG.out ag cg lim bs wA HC.out hlo (by omega) HLG.out)
      clear hk hlt
      go_wp2_with fail
      refine HD.out.mono ?_
      rintro e w7 ⟨tu, rfl, ht7⟩
      have HQ5 := sl_any ag aK bs.length cg bs.length cK bs bs w7 (HLG.out.below ht7.bel) ((HLK6.out.below HB6.out).lrow (fun z hz => by have := HSm.out z hz; omega) |>.below ht7.bel) hbsi
      rw [decide_eq_true (show bs = bs from rfl)] at HQ5
      have HQ6 : Hid _ := hide HQ5
      have HU7 : Hid (TabN wA w7 tu L) := ht7
      clear ht7 HQ5 HD HLG
      go_wp2_with fail
      refine HQ6.out.mono ?_
      rintro e w8 ⟨rfl, m8, h8⟩
      have hb8 : Below w7.heap.size w7 w8 := by rw [h8]; exact below_drewN (Below.refl _ _) m8
      have HU8 : Hid (TabN wA w8 tu L) := hide (HU7.out.below hb8)
      have HBA8 : Hid (Below wA.heap.size wA w8) := HU8.out.bel
      have HB68 : Hid (Below w6.heap.size w6 w8) := hide (HB6.out.trans (HBA8.out.mono HB6.out.size))
      have HO8 : Hid (Ovr w8 w8 w6.heap.size ar cr ag cg bs vals 0 (bs.map mkd)) := hide (Ovr.start (HR.out.but (S := fun _ => False) (But.of_below HBA8.out) (fun _ e => e.elim)))
      clear h8 hb8 HU7 HQ6 HR
      go_wp2
      go_loopw [19] (fun i wr => ∃ (k : Nat) (cs : List (List Int)), k ≤ bs.length ∧ i = .int .i64 k ∧ Ovr w8 wr w6.heap.size ar cr ag cg bs vals k cs) (fun i _ => bs.length - (intOf i).toNat)
      case atStart => exact ⟨0, _, Nat.zero_le _, rfl, HO8.out⟩
      case round =>
        obtain ⟨k, cs, hk, rfl, hO⟩ := hrel
        have HO : Hid (Ovr w8 wr w6.heap.size ar cr ag cg bs vals k cs) := hO
        have HB6r : Hid (Below w6.heap.size w6 wr) := hide (HB68.out.trans (hO.but.below HB68.out.size (fun g hg => (HVB.out g hg).1)))
        clear hO HO8
        by_cases hlt : k < bs.length
        · have hat := HO.out.at hlt
          have hLr := (HLA6.out.below HB6r.out).lrow (fun z hz => by have := HSm.out z hz; omega)
          have hzk : bs[k]? = some (bs.getD k []) := by simp [hlt]
          have hzl : ((bs.getD k []).length : Int) ≤ 140737488351232 := by have := HSm.out _ (List.mem_of_getElem? hzk); omega
          generalize bs.getD k [] = z at hat hzk hzl
          obtain ⟨b, off, z', ai, ci, rfl, hz', hcz, _⟩ := hLr.at hlt
          have ez : z' = z := by rw [hzk] at hz'; exact (Option.some.inj hz').symm
          subst ez
          obtain ⟨gr, g, cg2, rfl, hv, hcr, ho⟩ := HO.out.rms.at hat (by rw [mkd_len]; omega)
          rw [mkd_len] at hv hcr ho
          have k0 : wr.cell? ⟨g, z'.length, none⟩ = some (.int .u8 201) := by rw [ho.cellAt z'.length (by omega)]; simp [mkd]
          have k1 : wr.cell? ⟨g, z'.length + 1, none⟩ = some (.int .u8 202) := by rw [ho.cellAt (z'.length + 1) (by omega)]; simp [mkd]
          have k2 : wr.cell? ⟨g, z'.length + 2, none⟩ = some (.int .u8 203) := by rw [ho.cellAt (z'.length + 2) (by omega)]; simp [mkd]
          have HZ : Hid (bs.getD k [] = z') := hide (by rw [List.getD_eq_getElem?_getD, hzk]; rfl)
          clear hat hLr hz' hzk hv ho
          go_wp2
          clear k0 k1 k2 hcr hcz
          go_loopw [21] (fun i wr' => ∃ (j : Nat) (cs' : List (List Int)), j ≤ z'.length + 3 ∧ i = .int .i64 j ∧ Ovr w8 wr' w6.heap.size (some ⟨gr, 0, none⟩) cr ag cg bs vals (k + 1) cs') (fun i _ => z'.length + 3 - (intOf i).toNat)
          case atStart => exact ⟨0, cs, Nat.zero_le _, rfl, HO.out.next⟩
          case round =>
            clear HO HB6r
            obtain ⟨j, cs', hj, rfl, hO⟩ := hrel
            have HO : Hid (Ovr w8 wr w6.heap.size (some ⟨gr, 0, none⟩) cr ag cg bs vals (k + 1) cs') := hO
            obtain ⟨b2, hb2, hl2⟩ := hO.has hlt
            obtain ⟨gr2, g2, c2, egr, hv, hcr, ho⟩ := hO.rms.at hb2 (by omega)
            cases egr
            have HB2 : Hid (cs'[k]? = some b2) := hb2
            have HV : Hid _ := hide hv
            rw [hl2, HZ.out] at hcr ho
            have HL2 : Hid (b2.length = z'.length + 3) := hide (by rw [hl2, HZ.out])
            clear hO hb2 hv hl2
            by_cases hlj : j < z'.length + 3
            · have hcj : wr.cell? ⟨g2, j, none⟩ = some (.int .u8 (b2.getD j 0)) := by
                have := HL2.out
                rw [ho.cellAt j (by omega)]; simp [this, hlj]
              have hfj := ho.frozenAt j
              generalize b2.getD j 0 = y at hcj
              clear ho
              go_wp2
              exact ⟨⟨j + 1, _, by omega, by go_num, HO.out.store (Nat.lt_succ_self k) HB2.out HV.out _ (by omega)⟩, by simp [intOf]; omega⟩
            · clear ho
              go_wp2
              exact ⟨⟨k + 1, cs', by omega, by go_num, HO.out⟩, by simp [intOf]; omega⟩
        · rename World => w9
          have hkn : k = bs.length := by omega
          subst hkn
          have HB29 : Hid (Below w2.heap.size w2 w9) := hide (HB26.out.trans (HB6r.out.mono HB26.out.size))
          have HT9 : Hid (TabN w0 w9 tb L) := hide (HT2.out.below HB29.out)
          obtain ⟨lim7, hl7⟩ : ∃ lim7 : Nat, (lim : Int) + 7 = (lim7 : Int) := ⟨lim + 7, by omega⟩
          have HQ7 : Hid _ := hide (encN_any HT9.out lim7 (by omega) (by omega))
          clear hk hlt
          go_wp2_with fail
          refine HQ7.out.mono ?_
          rintro e w10 ⟨aM, cM, bs7, valsM, rfl, hcut7, hlsM, hb10⟩
          have hb7p : 0 < bs7.length := hcut7.ne HLp.out
          have HB7s : Hid (bs7.length ≤ 65536) := hide (by have := hcut7.most; have := HG.out.len; omega)
          have HSm7 : Hid (∀ z ∈ bs7, z.length ≤ 10000000) := hcut7.len HG.out.len HG.out.sum HG.out.small
          have HB610 : Hid (Below w6.heap.size w6 w10) := hide (HB6r.out.trans (hb10.mono HB6r.out.size))
          have HLA10 : Hid (Lists w10 w2.heap.size (.slice aA bs.length cA) bs valsA) := hide (HLA6.out.below HB610.out)
          have HLB10 : Hid (Lists w10 w3.heap.size (.slice aB bs.length cB) bs valsB) := hide (HLB6.out.below HB610.out)
          have HLM10 : Hid (Lists w10 w9.heap.size (.slice aM bs7.length cM) bs7 valsM) := hlsM
          have HB910 : Hid (Below w9.heap.size w9 w10) := hb10
          obtain ⟨gA, eA⟩ := own_some HLA10.out.own hbp
          obtain ⟨gB, eB⟩ := own_some HLB10.out.own hbp
          obtain ⟨gM, eM⟩ := own_some HLM10.out.own hb7p
          subst eA eB eM
          clear hcut7 hlsM hb10 HQ7 hl7
          go_wp2_with (first
            | (at_builtin; refine append_first _ rfl (.tmp 197) (.tmp 198) rfl rfl gA bs.length cA w2.heap.size valsA rfl HLA10.out.own HLA10.out.one (by have := HBs.out; omega) ?_; intro a11 c11 w11 o11 b11; have O11 : Hid _ := hide o11; have B11 : Hid (Below w10.heap.size w10 w11) := b11; have LB11 : Hid _ := hide (HLB10.out.below b11); clear o11 b11)
            | (at_builtin; refine append_lists _ rfl (.tmp 200) (.tmp 201) rfl w10.heap.size (.slice a11 bs.length c11) bs.length valsA rfl O11.out gB bs.length cB w3.heap.size valsB rfl LB11.out.own LB11.out.one (by have := HBs.out; omega) B11.out.size ?_; intro a12 c12 w12 o12 g12; have O12 : Hid _ := hide o12; have B12 : Hid (Below w10.heap.size w10 w12) := hide (below_append B11.out O11.out g12); have LM12 : Hid _ := hide (HLM10.out.below B12.out); clear o12 g12)
            | (at_builtin; refine append_lists _ rfl (.tmp 203) (.tmp 204) rfl w10.heap.size (.slice a12 (bs.length + bs.length) c12) (bs.length + bs.length) (valsA ++ valsB) rfl O12.out gM bs7.length cM w9.heap.size valsM rfl LM12.out.own LM12.out.one (by have := HBs.out; have := HB7s.out; omega) B12.out.size ?_; intro a13 c13 w13 o13 g13; obtain ⟨A13, e13⟩ := own_some o13 (by omega); subst e13; have O13 : Hid _ := hide o13; have B13 : Hid (Below w10.heap.size w10 w13) := hide (below_append B12.out O12.out g13); clear o13 g13))
          have HS10 : Hid (w2.heap.size ≤ w10.heap.size ∧ w3.heap.size ≤ w10.heap.size ∧ w5.heap.size ≤ w9.heap.size ∧ w9.heap.size ≤ w10.heap.size) := hide (by
            have := HS.out; have := HB610.out.size; have := HB6r.out.size; have := HB910.out.size; omega)
          have hAll : Lists w13 w2.heap.size (.slice (some ⟨A13, 0, none⟩) (bs.length + bs.length + bs7.length) c13) ((bs ++ bs) ++ bs7) ((valsA ++ valsB) ++ valsM) := by
            have h1 := HLA10.out.below B13.out
            have h2 := (HLB10.out.below B13.out).mono HS.out.1
            have h3 := (HLM10.out.below B13.out).mono (Nat.le_trans HB26.out.size HB6r.out.size)
            have o0 := own_mono O13.out HS10.out.1
            have hA1 := h1.len
            have hB1 := h2.len
            refine (show Lists w13 w2.heap.size (.slice (some ⟨A13, 0, none⟩) (bs.length + bs.length) c13) (bs ++ bs) (valsA ++ valsB) from h1.join h2 (p := w3.heap.size) HP.out (fun x hx g hg => (HPB.out x hx g hg).1) (own_take o0 (by simp [hA1, hB1]))).join h3 (p := w9.heap.size) ?_ ?_ (by rw [List.length_append]; exact o0)
            · intro x hx g hg
              have hs := HS.out
              have hs' := HS10.out
              rcases List.mem_append.1 hx with e | e
              · have := HP.out x e g hg; omega
              · have := HPB.out x e g hg; omega
            · intro x hx g hg
              exact (HLM10.out.blocks x hx g hg).1
          have hln : ((bs ++ bs) ++ bs7).length = bs.length + bs.length + bs7.length := by simp only [List.length_append]
          have HMany : Hid (Many w13 w2.heap.size A13 c13 (bs.length + bs.length + bs7.length) (fun i => ((valsA ++ valsB) ++ valsM).getD i undef) (fun i => (((bs ++ bs) ++ bs7).getD i []).length) (fun i => ((bs ++ bs) ++ bs7).getD i [])) := hide (by
            have h1 : Lists w13 w2.heap.size (.slice (some ⟨A13, 0, none⟩) ((bs ++ bs) ++ bs7).length c13) ((bs ++ bs) ++ bs7) ((valsA ++ valsB) ++ valsM) := by rw [hln]; exact hAll
            have h2 := h1.many
            rw [hln] at h2
            exact h2)
          have HVl : Hid (((valsA ++ valsB) ++ valsM).length = bs.length + bs.length + bs7.length) := hide (by rw [hAll.len, hln])
          have HOk : Hid (∀ k, (∃ i, i < bs.length + bs.length + bs7.length ∧ (((valsA ++ valsB) ++ valsM).getD i undef).ownBlock = some k) → (w2.heap.size ≤ k ∧ k < w5.heap.size) ∨ w9.heap.size ≤ k) := hide (fun k ⟨i, hi, hk⟩ => by
            have hm : ((valsA ++ valsB) ++ valsM).getD i undef ∈ (valsA ++ valsB) ++ valsM := by
              have := HVl.out
              rw [List.getD_eq_getElem?_getD, List.getElem?_eq_getElem (by omega)]
              exact List.getElem_mem _
            have hs := HS.out
            rcases List.mem_append.1 hm with e | e
            · rcases List.mem_append.1 e with e | e
              · have := HP.out _ e k hk; have := (HLA6.out.blocks _ e k hk).1; omega
              · have := HPB.out _ e k hk; omega
            · exact .inr (HLM10.out.blocks _ e k hk).1)
          have HQ8 : Hid _ := hide (apart_walk w2.heap.size A13 c13 (bs.length + bs.length + bs7.length) _ _ _ w13 HMany.out (by have := HBs.out; have := HB7s.out; omega) (fun i => by
            by_cases hi : i < ((bs ++ bs) ++ bs7).length
            · have hm : ((bs ++ bs) ++ bs7).getD i [] ∈ (bs ++ bs) ++ bs7 := by
                rw [List.getD_eq_getElem?_getD, List.getElem?_eq_getElem hi]; exact List.getElem_mem _
              rcases List.mem_append.1 hm with e | e
              · rcases List.mem_append.1 e with e | e
                · exact HSm.out _ e
                · exact HSm.out _ e
              · exact HSm7.out _ e
            · rw [List.getD_eq_getElem?_getD, List.getElem?_eq_none (by omega)]; simp) (Nat.le_trans HS10.out.1 B13.out.size))
          clear hAll hln
          refine HQ8.out.mono ?_
          rintro e w14 ⟨rfl, hA14⟩
          have HA14 : Hid (But (fun k => (w2.heap.size ≤ k ∧ k < w5.heap.size) ∨ w9.heap.size ≤ k) w13 w14) := hide (hA14.but.mono HOk.out)
          clear hA14 HQ8 HOk HMany HVl
          have HB913 : Hid (Below w9.heap.size w9 w13) := hide (HB910.out.trans (B13.out.mono HB910.out.size))
          have HT14 : Hid (TabN w0 w14 tb L) := hide (HT2.out.below ((HB29.out.trans (HB913.out.mono HB29.out.size)).trans (HA14.out.below (by have := HB29.out.size; have := HB913.out.size; omega) (fun k hk => by have := HB29.out.size; omega))))
          have HK14 : Hid (LRow w14 aK bs.length bs) := hide (by
            have h1 : But (fun k => k < w5.heap.size) w6 w14 := (But.of_below (HB6r.out.trans (HB913.out.mono HB6r.out.size))).trans HA14.out (fun i hi e => by have := HB6r.out.size; omega)
            refine (HLK6.out.but h1 ?_ ?_).lrow (fun z hz => by have := HSm.out z hz; omega)
            · intro g hg e
              have := (HLK6.out.own.lt g hg).1
              omega
            · intro x hx g hg e
              have := (HLK6.out.blocks x hx g hg).1
              omega)
          have HU14 : Hid (∃ S v mv, Tab w14 tu S L v mv) := hide (by
            have hs := HS.out
            have h0 : But (fun k => k < wA.heap.size) w8 w9 := HO.out.but.mono (fun k hk => (HVB.out k hk).2)
            have h1 : But (fun k => k < wA.heap.size) w8 w14 := (Below.but_trans h0 HB913.out).trans HA14.out (fun i hi e => by have := HB6.out.size; have := h0.size; omega)
            exact HU8.out.but h1 (fun k hk => hk))
          have HR14 : Hid (Rms w14 w6.heap.size ar cr ag cg bs.length cs vals) := hide (by
            have h1 : But (fun k => k < w6.heap.size) w9 w14 := (But.of_below HB913.out).trans HA14.out (fun i hi e => by have := HS.out; omega)
            exact HO.out.rms.but h1 (fun k hk => hk))
          have H3 : Hid (∀ b ∈ cs, 3 ≤ b.length) := HO.out.len3
          have HSc : Hid (∀ b ∈ cs, b.length ≤ 20000000) := HO.out.small HSm.out
          have HU3 : Hid (∀ b ∈ cs, ∀ y ∈ b, 0 ≤ y ∧ y ≤ 255) := HR14.out.rooms.u8
          clear HLA6 HLB6 HLK6 HLA10 HLB10 HLM10 HO HA14 HB913 HB910 HU8 HVB HB610 HB6r O11 O12 O13 B11 B12 B13 LB11 LM12 HS10 HSm7 HB29 HT9 HBA8 HB68 HP HPB
          obtain ⟨ds, hds⟩ : ∃ ds, ds = cs.map (fun b => b.take (b.length - 3)) := ⟨_, rfl⟩
          have HG14 : Hid (LRow w14 ag bs.length ds) := hide (by rw [hds]; exact HR14.out.lrow H3.out HSc.out)
          have HDs : Hid (∀ z ∈ ds, z.length ≤ 140737488351232) := hide (by
            rw [hds]; intro z hz
            obtain ⟨b, hb, rfl⟩ := List.mem_map.1 hz
            have := HSc.out b hb
            rw [List.length_take]; omega)
          have HDu : Hid (∀ z ∈ ds, ∀ y ∈ z, 0 ≤ y ∧ y ≤ 255) := hide (by
            rw [hds]; intro z hz y hy
            obtain ⟨b, hb, rfl⟩ := List.mem_map.1 hz
            exact HU3.out b hb y (List.mem_of_mem_take hy))
          have HDl : Hid (ds.length = bs.length) := HG14.out.len
          clear hds
          have HQ9 : Hid _ := hide (dec_any ag bs.length cg ds lim w14 HG14.out hbsi)
          go_wp2_with fail
          refine HQ9.out.mono ?_
          intro e w15 h15
          obtain ⟨hb15, h15'⟩ := dec_why h15
          have HT15 : Hid (TabN w0 w15 tb L) := hide (HT14.out.below hb15)
          have HK15 : Hid (LRow w15 aK bs.length bs) := hide (HK14.out.below hb15)
          have HU15 : Hid _ := hide (tabE_below HU14.out hb15)
          have HR15 : Hid (Rms w15 w6.heap.size ar cr ag cg bs.length cs vals) := hide (HR14.out.but (S := fun _ => False) (But.of_below hb15) (fun _ e => e.elim))
          have HQ10 : Hid _ := hide (twins_any ag bs.length cg ds w15 (HG14.out.below hb15) (by have := HBs.out; omega) HDs.out HDu.out (HR15.out.some H3.out))
          have hdl := HDl.out
          rw [hdl] at HQ10
          clear h15 hb15 HT14 HK14 HU14 HR14 HG14 HQ9 hdl
          rcases h15' with ⟨f, he, hwhy⟩ | ⟨hok, tx, he, htx⟩
          · subst he
            unfold nilV
            have HW : Hid (WhyNil ds (lim : Int) f) := hwhy
            clear hwhy
            go_wp2_with fail
            refine HQ10.out.mono ?_
            rintro e w16 ⟨a16, c16, vals16, rfl, hls16, hb16⟩
            have HQ11 : Hid _ := hide (dec_any a16 bs.length c16 ds lim w16 (by have hd := HDl.out; rw [← hd] at hls16 ⊢; exact hls16.lrow (fun z hz => by have := HDs.out z hz; omega)) hbsi)
            have HT16 : Hid (TabN w0 w16 tb L) := hide (HT15.out.below hb16)
            have HK16 : Hid (LRow w16 aK bs.length bs) := hide (HK15.out.below hb16)
            have HU16 : Hid _ := hide (tabE_below HU15.out hb16)
            clear hls16 hb16 HT15 HK15 HU15 HR15 HQ10
            go_wp2_with fail
            refine HQ11.out.mono ?_
            intro e w17 h17
            obtain ⟨hb17, h17'⟩ := dec_why h17
            have HTZ : Hid (TabN w0 w17 tb L) := hide (HT16.out.below hb17)
            have HKZ : Hid (LRow w17 aK bs.length bs) := hide (HK16.out.below hb17)
            have HUZ : Hid _ := hide (tabE_below HU16.out hb17)
            clear h17 hb17 HT16 HK16 HU16 HQ11
            rcases h17' with ⟨f', he, hwhy'⟩ | ⟨hok, _⟩
            · have ef : f' = f := hwhy'.same HW.out
              subst ef
              subst he
              unfold nilV
              clear hwhy' HW
              go_wp2_with fail
              refine (len_nil w17).mono ?_
              rintro e w9x ⟨rfl, h5⟩
              rw [h5]
              clear h5 w9x
              go_wp2_with fail
              refine (len_nil w17).mono ?_
              rintro e w9x ⟨rfl, h5⟩
              rw [h5]
              clear h5 w9x
              go_wp2_with fail
              refine (bytes_nil w17).mono ?_
              rintro e w9x ⟨rfl, h5⟩
              rw [h5]
              clear h5 w9x
              go_wp2_with fail
              refine (bytes_nil w17).mono ?_
              rintro e w9x ⟨rfl, h5⟩
              rw [h5]
              clear h5 w9x
              have HQe : Hid _ := hide (encN_any HTZ.out lim hlo (by omega))
              go_wp2_with fail
              refine HQe.out.mono ?_
              rintro e w18 ⟨a18, c18, bs18, vals18, rfl, hcut18, hls18, hb18⟩
              have e18 : bs18 = bs := hcut18.uniq HC.out
              subst e18
              have HT18 : Hid (TabN w0 w18 tb L) := hide (HTZ.out.below hb18)
              have HL18 : Hid (LRow w18 a18 bs18.length bs18) := hide (hls18.lrow (fun z hz => by have := HSm.out z hz; omega))
              have HK18 : Hid (LRow w18 aK bs18.length bs18) := hide (HKZ.out.below hb18)
              have HQf : Hid _ := hide (encT_any (tabE_below HUZ.out hb18) lim hlo (by omega))
              clear hcut18 hls18 hb18 HQe HTZ HKZ HUZ
              go_wp2_with fail
              refine HQf.out.mono ?_
              rintro e w19 ⟨a19, c19, bs19, vals19, rfl, hcut19, hls19, hb19⟩
              have e19 : bs19 = bs18 := hcut19.uniq HC.out
              subst e19
              have HT19 : Hid (TabN w0 w19 tb L) := hide (HT18.out.below hb19)
              have HQg := sl_any a18 aK bs19.length c18 bs19.length cK bs19 bs19 w19 (HL18.out.below hb19) (HK18.out.below hb19) hbsi
              have HL19 : Hid (LRow w19 a19 bs19.length bs19) := hide (hls19.lrow (fun z hz => by have := HSm.out z hz; omega))
              have HK19 : Hid (LRow w19 aK bs19.length bs19) := hide (HK18.out.below hb19)
              rw [decide_eq_true (show bs19 = bs19 from rfl)] at HQg
              have HQh : Hid _ := hide HQg
              clear hcut19 hls19 hb19 HQf HQg HT18 HL18 HK18
              go_wp2_with fail
              refine HQh.out.mono ?_
              rintro e w20 ⟨rfl, m20, h20⟩
              have hb20 : Below w19.heap.size w19 w20 := by rw [h20]; exact below_drewN (Below.refl _ _) m20
              have HT20 : Hid (TabN w0 w20 tb L) := hide (HT19.out.below hb20)
              have HQi := sl_any a19 aK bs19.length c19 bs19.length cK bs19 bs19 w20 (HL19.out.below hb20) (HK19.out.below hb20) hbsi
              rw [decide_eq_true (show bs19 = bs19 from rfl)] at HQi
              have HQj : Hid _ := hide HQi
              clear h20 hb20 HQh HQi HT19 HL19 HK19
              go_wp2_with fail
              refine HQj.out.mono ?_
              rintro e w21 ⟨rfl, m21, h21⟩
              have hb21 : Below w20.heap.size w20 w21 := by rw [h21]; exact below_drewN (Below.refl _ _) m21
              have HT21 : Hid (TabN w0 w21 tb L) := hide (HT20.out.below hb21)
              clear h21 hb21 HQj
              go_wp2
              go_ret
              exact ⟨rfl, HT21.out.bel⟩
            · exact (HW.out.not hok).elim
          · subst he
            have HOk : Hid (WhyOk ds (lim : Int)) := hok
            obtain ⟨L5, hL5⟩ : ∃ L5, L5 = (rdAll ds []).2 := ⟨_, rfl⟩
            rw [← hL5] at htx
            have HL5 : Hid (L5 = (rdAll ds []).2) := hL5
            have HX15 : Hid (TabN w14 w15 tx L5) := htx
            clear hok htx hL5
            go_wp2_with fail
            refine HQ10.out.mono ?_
            rintro e w16 ⟨a16, c16, vals16, rfl, hls16, hb16⟩
            have HQ11 : Hid _ := hide (dec_any a16 bs.length c16 ds lim w16 (by have hd := HDl.out; rw [← hd] at hls16 ⊢; exact hls16.lrow (fun z hz => by have := HDs.out z hz; omega)) hbsi)
            have HT16 : Hid (TabN w0 w16 tb L) := hide (HT15.out.below hb16)
            have HK16 : Hid (LRow w16 aK bs.length bs) := hide (HK15.out.below hb16)
            have HU16 : Hid _ := hide (tabE_below HU15.out hb16)
            have HX16 : Hid (TabN w14 w16 tx L5) := hide (HX15.out.below hb16)
            clear hls16 hb16 HT15 HK15 HU15 HR15 HQ10 HX15
            go_wp2_with fail
            refine HQ11.out.mono ?_
            intro e w17 h17
            obtain ⟨hb17, h17'⟩ := dec_why h17
            have HTZ : Hid (TabN w0 w17 tb L) := hide (HT16.out.below hb17)
            have HKZ : Hid (LRow w17 aK bs.length bs) := hide (HK16.out.below hb17)
            have HUZ : Hid _ := hide (tabE_below HU16.out hb17)
            have HX17 : Hid (TabN w14 w17 tx L5) := hide (HX16.out.below hb17)
            clear h17 hb17 HT16 HK16 HU16 HQ11 HX16
            rcases h17' with ⟨f', he, hwhy'⟩ | ⟨_, ty, he, hty⟩
            · exact (hwhy'.not HOk.out).elim
            · subst he
              rw [← HL5.out] at hty
              have HN1 : Hid _ := hide (lenN_any HX17.out)
              have HN2 : Hid _ := hide (lenN_any hty)
              have HN3 : Hid _ := hide (bytesN_any HX17.out)
              have HN4 : Hid _ := hide (bytesN_any hty)
              clear hty HX17
              go_wp2_with fail
              refine HN1.out.mono ?_
              rintro e w9x ⟨rfl, h5⟩
              rw [h5]
              clear h5 w9x
              go_wp2_with fail
              refine HN2.out.mono ?_
              rintro e w9x ⟨rfl, h5⟩
              rw [h5]
              clear h5 w9x
              go_wp2_with fail
              refine HN3.out.mono ?_
              rintro e w9x ⟨rfl, h5⟩
              rw [h5]
              clear h5 w9x
              go_wp2_with fail
              refine HN4.out.mono ?_
              rintro e w9x ⟨rfl, h5⟩
              rw [h5]
              clear h5 w9x HN1 HN2 HN3 HN4
              have HQe : Hid _ := hide (encN_any HTZ.out lim hlo (by omega))
              go_wp2_with fail
              refine HQe.out.mono ?_
              rintro e w18 ⟨a18, c18, bs18, vals18, rfl, hcut18, hls18, hb18⟩
              have e18 : bs18 = bs := hcut18.uniq HC.out
              subst e18
              have HT18 : Hid (TabN w0 w18 tb L) := hide (HTZ.out.below hb18)
              have HL18 : Hid (LRow w18 a18 bs18.length bs18) := hide (hls18.lrow (fun z hz => by have := HSm.out z hz; omega))
              have HK18 : Hid (LRow w18 aK bs18.length bs18) := hide (HKZ.out.below hb18)
              have HQf : Hid _ := hide (encT_any (tabE_below HUZ.out hb18) lim hlo (by omega))
              clear hcut18 hls18 hb18 HQe HTZ HKZ HUZ
              go_wp2_with fail
              refine HQf.out.mono ?_
              rintro e w19 ⟨a19, c19, bs19, vals19, rfl, hcut19, hls19, hb19⟩
              have e19 : bs19 = bs18 := hcut19.uniq HC.out
              subst e19
              have HT19 : Hid (TabN w0 w19 tb L) := hide (HT18.out.below hb19)
              have HQg := sl_any a18 aK bs19.length c18 bs19.length cK bs19 bs19 w19 (HL18.out.below hb19) (HK18.out.below hb19) hbsi
              have HL19 : Hid (LRow w19 a19 bs19.length bs19) := hide (hls19.lrow (fun z hz => by have := HSm.out z hz; omega))
              have HK19 : Hid (LRow w19 aK bs19.length bs19) := hide (HK18.out.below hb19)
              rw [decide_eq_true (show bs19 = bs19 from rfl)] at HQg
              have HQh : Hid _ := hide HQg
              clear hcut19 hls19 hb19 HQf HQg HT18 HL18 HK18
              go_wp2_with fail
              refine HQh.out.mono ?_
              rintro e w20 ⟨rfl, m20, h20⟩
              have hb20 : Below w19.heap.size w19 w20 := by rw [h20]; exact below_drewN (Below.refl _ _) m20
              have HT20 : Hid (TabN w0 w20 tb L) := hide (HT19.out.below hb20)
              have HQi := sl_any a19 aK bs19.length c19 bs19.length cK bs19 bs19 w20 (HL19.out.below hb20) (HK19.out.below hb20) hbsi
              rw [decide_eq_true (show bs19 = bs19 from rfl)] at HQi
              have HQj : Hid _ := hide HQi
              clear h20 hb20 HQh HQi HT19 HL19 HK19
              go_wp2_with fail
              refine HQj.out.mono ?_
              rintro e w21 ⟨rfl, m21, h21⟩
              have hb21 : Below w20.heap.size w20 w21 := by rw [h21]; exact below_drewN (Below.refl _ _) m21
              have HT21 : Hid (TabN w0 w21 tb L) := hide (HT20.out.below hb21)
              clear h21 hb21 HQj
              go_wp2
              go_ret
              exact ⟨rfl, HT21.out.bel⟩
end Go.Proofs.Ytbcmheilgilipaa
