/-
  chunk.Write over the forest's records.
-/
import Derived.Test.YtbcmheilgilipaaWrt
namespace Go.Proofs.Ytbcmheilgilipaa
open Go.RowKit Go.Maps
set_option maxHeartbeats 4000000 in
set_option maxRecDepth 4000 in
theorem write_f (X first n stop lim : Nat) (hstop : stop = first + n) (rc : Nat → List Int) (w : World) (hlim : (lim : Int) ≤ 1048576) (hfn : first + n ≤ 1000000)
    (hrb : ∀ id, first ≤ id → id < first + n → (rc id).length ≤ 70000 ∧ ∀ z ∈ rc id, 0 ≤ z ∧ z ≤ 255)
    (hrec : ∀ (id : Nat) (W : World), first ≤ id → id < first + n → Below w.heap.size w W → Calls Try.prog 44 #[.int .i64 (id : Int), .pointer (some ⟨X, 0, none⟩)] W fun e W' => ∃ v, e = .returned v ∧ W'.ownsRow W.heap.size 5 1 v (rc id).length ((rc id).map (Value.int .u8)) ∧ Below W.heap.size W W') :
    Calls Try.prog 43 #[.int .i64 (first : Int), .int .i64 (stop : Int), .int .i64 (lim : Int), .func (.func 44) #[] #[.pointer (some ⟨X, 0, none⟩)]] w fun e w' =>
      ∃ a c vals, e = .returned (.slice a (bodiesW lim rc first n).length c) ∧ Lists w' w.heap.size (.slice a (bodiesW lim rc first n).length c) (bodiesW lim rc first n) vals ∧ Below w.heap.size w w' := by
  have HOK : Hid (∀ k, k ≤ n → Wok lim (bodiesW lim rc first k) k) := hide (bodiesW_ok hrb hfn)
  have HRb : Hid _ := hide hrb
  have HRc : Hid _ := hide hrec
  have hfi : (first : Int) + n ≤ 1000000 := by omega
  have HSt : Hid (stop = first + n) := hstop
  have hsb : (stop : Int) ≤ 1000000 := by omega
  clear hrb hrec hfn hfi hstop
  go_enter Try.func43, Try.ntmps43
  go_wp2
  go_loopw [9, 10] (fun o i wr => ∃ (k : Nat) (a : Option Addr) (c : Nat) (vals : List Value), k ≤ n ∧ i = .int .i64 ((first + k : Nat) : Int) ∧ o = .slice a (bodiesW lim rc first k).length c ∧ Lists wr w.heap.size (.slice a (bodiesW lim rc first k).length c) (bodiesW lim rc first k) vals ∧ Below w.heap.size w wr) (fun _ i _ => stop - (intOf i).toNat)
  case atStart => exact ⟨0, none, 0, [], Nat.zero_le _, rfl, rfl, Lists.nil _ _, Below.refl _ _⟩
  case round =>
    obtain ⟨k, a, c, vals, hk, rfl, rfl, hls, hbel⟩ := hrel
    have HL : Hid _ := hide hls
    have HB : Hid _ := hide hbel
    have hok := HOK.out k hk
    clear hls hbel
    by_cases hlt : k < n
    · have HQ : Hid _ := hide (HRc.out (first + k) wr (by omega) (by omega) HB.out)
      have hrb := HRb.out (first + k) (by omega) (by omega)
      have HS : Hid _ := hide (bodiesW_succ lim rc first k)
      generalize bodiesW lim rc first k = bs at HL hok HS ⊢
      generalize hr : rc (first + k) = r at HQ hrb
      have HR : Hid (rc (first + k) = r) := hr
      have HRu : Hid (∀ z ∈ r, 0 ≤ z ∧ z ≤ 255) := hrb.2
      have hrl : (r.length : Int) ≤ 70000 := by omega
      have HWo : Hid (Wok lim bs k) := hok
      have hbl : (bs.length : Int) ≤ 1000000 := by have := hok.len; have := HSt.out; omega
      obtain ⟨id, hid⟩ : ∃ id, id = first + k := ⟨_, rfl⟩
      have HId : Hid (id = first + k) := hid
      have hidI : (id : Int) < (stop : Int) := by have := HSt.out; omega
      rw [← hid] at HQ HR HS ⊢
      clear hr hrb hok hid
      rcases list_snoc bs with hnil | ⟨bs0, b, hsn⟩
      · subst hnil
        have hl0 : (([] : List (List Int)).length : Int) = 0 := rfl
        go_wp2_with fail
        refine HQ.out.mono ?_
        rintro e w1 ⟨v1, rfl, ho1, hb1⟩
        obtain ⟨ra, rcp, rfl⟩ := own_form ho1
        have HO1 : Hid _ := hide ho1
        have HB1 : Hid (Below wr.heap.size wr w1) := hb1
        have HUv : Hid _ := hide (uv_any (id : Int) w1 (by omega) (by omega))
        rw [Int.toNat_natCast] at HUv
        clear ho1 hb1
        go_wp2_with fail
        refine HUv.out.mono ?_
        rintro e w2 ⟨c2, rfl, ho2, hb2⟩
        have HE : Hid ((enc id).length ≤ 10) := hide (enc_le id (by omega))
        have hel : ((enc id).length : Int) ≤ 10 := by have := HE.out; omega
        have HO2 : Hid (w2.ownsRow wr.heap.size 5 1 (.slice (some ⟨w1.heap.size, 0, none⟩) (enc id).length c2) (enc id).length ((enc id).map (Value.int .u8))) := hide (own_mono ho2 HB1.out.size)
        have HB2 : Hid (Below wr.heap.size wr w2) := hide (HB1.out.trans (hb2.mono HB1.out.size))
        have HR2 : Hid (Row w2 ra r.length r) := hide ((own_row_u8 HO1.out (u8_of_mem HRu.out)).below hb2)
        have HN2 : Hid _ := hide (own_nil HO1.out)
        clear ho2 hb2
        go_wp2_with (first
          | (at_builtin; refine append_rowB _ rfl _ _ rfl wr.heap.size (.slice (some ⟨w1.heap.size, 0, none⟩) (enc id).length c2) (enc id).length (enc id) rfl HO2.out ra r.length rcp r rfl HR2.out HN2.out (by have := HE.out; omega) HB2.out.size ?_
             intro a3 c3 w3 o3 g3 _
             have HO3 : Hid (w3.ownsRow wr.heap.size 5 1 (.slice a3 (enc id ++ r).length c3) (enc id ++ r).length ((enc id ++ r).map (Value.int .u8))) := hide (by rw [List.length_append]; exact o3)
             have HB3 : Hid (Below wr.heap.size wr w3) := hide (HB2.out.grown g3 HB2.out.size (fun k hk => (HO2.out.lt k hk).1))
             have HLL : Hid _ := hide (HL.out.below HB3.out)
             clear o3 g3)
          | (at_builtin; refine append_lst _ rfl _ _ rfl w.heap.size (.slice a ([] : List (List Int)).length c) ([] : List (List Int)).length vals rfl (HLL.out.own.alloc _) w3.heap.size (.slice a3 ((enc id).length + r.length) c3) rfl (cell_new _ _ _) rfl (by omega) (Nat.le_trans HB.out.size (Nat.le_trans HB3.out.size (by simp))) ?_
             intro a4 c4 w4 o4 g4 _
             have HO4 : Hid _ := hide o4
             have HG4 : Hid _ := hide g4
             clear o4 g4)
          | go_in)
        have hsn : Lists w4 w.heap.size (.slice a4 (([] : List (List Int)).length + 1) c4) (([] : List (List Int)) ++ [enc id ++ r]) (vals ++ [.slice a3 (enc id ++ r).length c3]) := by
          refine HL.out.snoc HB3.out HB.out.size HO3.out ?_ ?_ ?_
          · intro z hz
            rcases List.mem_append.1 hz with e | e
            · exact enc_mem id z e
            · exact HRu.out z e
          · rw [List.length_append]; exact HO4.out
          · rw [List.length_append]; exact HG4.out
        have hfin : bodiesW lim rc first (k + 1) = ([] : List (List Int)) ++ [enc id ++ r] := by rw [HS.out, stepW_nil, HR.out]; rfl
        have hlen : (bodiesW lim rc first (k + 1)).length = ([] : List (List Int)).length + 1 := by rw [hfin]; simp
        refine ⟨⟨k + 1, a4, c4, _, by omega, ?_, by rw [hlen]; rfl, by rw [hlen, hfin]; exact hsn, ?_⟩, by have := HId.out; have := HSt.out; simp [intOf]; omega⟩
        · have := HId.out; rw [this]; congr 1
        · refine (HB.out.trans (HB3.out.mono HB.out.size)).trans ?_
          have hk4 : But (fun k => (Value.slice a ([] : List (List Int)).length c).ownBlock = some k) w3 w4 := ((But.refl _ w3).alloc _).grown HG4.out (fun k _ e => e)
          exact hk4.below (Nat.le_trans HB.out.size HB3.out.size) (fun k e => (HL.out.own.lt k e).1)
      · subst hsn
        have hne : ∃ vals0 x, vals = vals0 ++ [x] := by
          rcases list_snoc vals with e | e
          · have := HL.out.len; rw [e] at this; simp at this
          · exact e
        obtain ⟨vals0, x, hvals⟩ := hne
        subst hvals
        have hvl : vals0.length = bs0.length := by have := HL.out.len; simpa using this
        obtain ⟨ax, cx, hx1, hx2⟩ := HL.out.each bs0.length b (by simp)
        have hxe : x = .slice ax b.length cx := by rw [← hvl] at hx1; simpa using hx1
        subst hxe
        have hbb : (b.length : Int) ≤ 1128576 := by have := HWo.out.each b (by simp); omega
        obtain ⟨G, ha⟩ := own_some HL.out.own (by simp)
        subst ha
        have hcx : wr.cell? ⟨G, bs0.length, none⟩ = some (.slice ax b.length cx) := by
          have := HL.out.own.cells (g := G) rfl bs0.length (.slice ax b.length cx) (by rw [← hvl]; simp)
          have hadd : (⟨G, 0, none⟩ : Addr).add bs0.length = ⟨G, bs0.length, none⟩ := by unfold Addr.add; split <;> simp_all
          rwa [hadd] at this
        have hlen1 : (bs0 ++ [b]).length = bs0.length + 1 := by simp
        have HLx : Hid _ := hide hx2
        have hGl : Hid (G < wr.heap.size) := hide (own_lt HL.out.own G rfl)
        have hbl0 : (bs0.length : Int) ≤ 999999 := by rw [hlen1] at hbl; omega
        clear hbl
        clear hx1 hvl hx2
        by_cases hroom : (b.length : Int) + r.length ≤ lim
        · have HRo : Hid (b.length + r.length ≤ lim) := hide (by omega)
          rw [hlen1] at HL ⊢
          go_wp2_with fail
          refine HQ.out.mono ?_
          rintro e w1 ⟨v1, rfl, ho1, hb1⟩
          obtain ⟨ra, rcp, rfl⟩ := own_form ho1
          have HO1 : Hid _ := hide ho1
          have HB1 : Hid (Below wr.heap.size wr w1) := hb1
          have HUv : Hid _ := hide (uv_any (id : Int) w1 (by omega) (by omega))
          rw [Int.toNat_natCast] at HUv
          clear ho1 hb1
          have hcx1 : w1.cell? ⟨G, bs0.length, none⟩ = some (.slice ax b.length cx) := cell_block hcx (HB1.out.block G hGl.out)
          have HL1 : Hid _ := hide (HL.out.below HB1.out)
          have HR1 : Hid (Row w1 ra r.length r) := hide (own_row_u8 HO1.out (u8_of_mem HRu.out))
          have HN1 : Hid _ := hide (own_nil HO1.out)
          have HX1 : Hid (w1.ownsRow w.heap.size 5 1 (.slice ax b.length cx) b.length (b.map (Value.int .u8))) := hide (own_but HLx.out (S := fun _ => False) (But.of_below HB1.out) (fun _ _ e => e))
          have HBW : Hid (Below w.heap.size w w1) := hide (HB.out.trans (HB1.out.mono HB.out.size))
          have hsf : ∀ j, w1.frozen? ⟨G, j, none⟩ = false := by
            have hown1 := HL1.out.own
            rw [hlen1] at hown1
            rcases hown1.2 with ⟨hv, _⟩ | ⟨g', cap, cur, hv, _, hh, _⟩
            · cases hv
            · cases hv; exact fun j => frozen_of_row w1 G j _ 31 hh
          have HNG : Hid (¬ (Value.slice ax b.length cx).ownBlock = some G) := hide (fun e => own_types HX1.out HL1.out.own (by decide) G e rfl)
          clear hcx
          go_wp2_with (first
            | (at_builtin; refine append_rowB _ rfl _ _ rfl w.heap.size (.slice ax b.length cx) b.length b rfl HX1.out ra r.length rcp r rfl HR1.out HN1.out (by have := HRo.out; omega) HBW.out.size ?_
               intro a3 c3 w3 o3 g3 hloc3
               have hk3 : But (fun k => (Value.slice ax b.length cx).ownBlock = some k) w1 w3 := But.of_grown g3 (fun k e => e)
               have hb3 : w3.heap[G]? = w1.heap[G]? := hk3.block G (Nat.lt_of_lt_of_le hGl.out HB1.out.size) HNG.out
               have hcx3 : w3.cell? ⟨G, bs0.length, none⟩ = some (.slice ax b.length cx) := cell_block hcx1 hb3
               have hsf3 : ∀ j, w3.frozen? ⟨G, j, none⟩ = false := fun j => (frozen_block (a := ⟨G, j, none⟩) hb3).trans (hsf j)
               have HO3 : Hid _ := hide o3
               have HG3 : Hid _ := hide g3
               have HC3 : Hid _ := hide hloc3
               have HK3 : Hid _ := hide hk3
               clear o3 g3 hloc3 hk3 hb3 hcx1 hsf)
            | go_in)
          have hlast := HL1.out.last HO3.out HG3.out HC3.out HRu.out
          have hfin : bodiesW lim rc first (k + 1) = bs0 ++ [b ++ r] := by rw [HS.out, stepW_snoc, HR.out, if_pos HRo.out]
          have hlen : (bodiesW lim rc first (k + 1)).length = bs0.length + 1 := by rw [hfin]; simp
          refine ⟨⟨k + 1, some ⟨G, 0, none⟩, c, _, by omega, ?_, by rw [hlen], by rw [hlen, hfin]; exact hlast, ?_⟩, by have := HId.out; have := HSt.out; simp [intOf]; omega⟩
          · have := HId.out; rw [this]; congr 1
          · refine HBW.out.trans ?_
            refine ((HK3.out.mono (T := fun k => k = G ∨ (Value.slice ax b.length cx).ownBlock = some k) (fun _ e => .inr e)).setCell ⟨G, bs0.length, none⟩ (fun _ => .inl rfl) _).below HBW.out.size ?_
            rintro k (rfl | e)
            · exact (HL.out.own.lt _ rfl).1
            · exact (HX1.out.lt k e).1
        · have HRo : Hid (¬ b.length + r.length ≤ lim) := hide (by omega)
          rw [hlen1] at HL ⊢
          go_wp2_with fail
          refine HQ.out.mono ?_
          rintro e w1 ⟨v1, rfl, ho1, hb1⟩
          obtain ⟨ra, rcp, rfl⟩ := own_form ho1
          have HO1 : Hid _ := hide ho1
          have HB1 : Hid (Below wr.heap.size wr w1) := hb1
          have HUv : Hid _ := hide (uv_any (id : Int) w1 (by omega) (by omega))
          rw [Int.toNat_natCast] at HUv
          clear ho1 hb1
          have hcx1 : w1.cell? ⟨G, bs0.length, none⟩ = some (.slice ax b.length cx) := cell_block hcx (HB1.out.block G hGl.out)
          clear hcx
          go_wp2_with fail
          refine HUv.out.mono ?_
          rintro e w2 ⟨c2, rfl, ho2, hb2⟩
          have HE : Hid ((enc id).length ≤ 10) := hide (enc_le id (by omega))
          have hel : ((enc id).length : Int) ≤ 10 := by have := HE.out; omega
          have HO2 : Hid (w2.ownsRow wr.heap.size 5 1 (.slice (some ⟨w1.heap.size, 0, none⟩) (enc id).length c2) (enc id).length ((enc id).map (Value.int .u8))) := hide (own_mono ho2 HB1.out.size)
          have HB2 : Hid (Below wr.heap.size wr w2) := hide (HB1.out.trans (hb2.mono HB1.out.size))
          have HR2 : Hid (Row w2 ra r.length r) := hide ((own_row_u8 HO1.out (u8_of_mem HRu.out)).below hb2)
          have HN2 : Hid _ := hide (own_nil HO1.out)
          clear ho2 hb2
          go_wp2_with (first
            | (at_builtin; refine append_rowB _ rfl _ _ rfl wr.heap.size (.slice (some ⟨w1.heap.size, 0, none⟩) (enc id).length c2) (enc id).length (enc id) rfl HO2.out ra r.length rcp r rfl HR2.out HN2.out (by have := HE.out; omega) HB2.out.size ?_
               intro a3 c3 w3 o3 g3 _
               have HO3 : Hid (w3.ownsRow wr.heap.size 5 1 (.slice a3 (enc id ++ r).length c3) (enc id ++ r).length ((enc id ++ r).map (Value.int .u8))) := hide (by rw [List.length_append]; exact o3)
               have HB3 : Hid (Below wr.heap.size wr w3) := hide (HB2.out.grown g3 HB2.out.size (fun k hk => (HO2.out.lt k hk).1))
               have HLL : Hid _ := hide (HL.out.below HB3.out)
               clear o3 g3)
            | (at_builtin; refine append_lst _ rfl _ _ rfl w.heap.size (.slice (some ⟨G, 0, none⟩) (bs0.length + 1) c) (bs0.length + 1) (vals0 ++ [.slice ax b.length cx]) rfl ((hlen1 ▸ HLL.out.own).alloc _) w3.heap.size (.slice a3 ((enc id).length + r.length) c3) rfl (cell_new _ _ _) rfl (by omega) (Nat.le_trans HB.out.size (Nat.le_trans HB3.out.size (by simp))) ?_
               intro a4 c4 w4 o4 g4 _
               have HO4 : Hid _ := hide o4
               have HG4 : Hid _ := hide g4
               clear o4 g4)
            | go_in)
          have hsn : Lists w4 w.heap.size (.slice a4 (bs0.length + 1 + 1) c4) ((bs0 ++ [b]) ++ [enc id ++ r]) ((vals0 ++ [.slice ax b.length cx]) ++ [.slice a3 (enc id ++ r).length c3]) := by
            rw [← hlen1]
            refine HL.out.snoc HB3.out HB.out.size HO3.out ?_ ?_ ?_
            · intro z hz
              rcases List.mem_append.1 hz with e | e
              · exact enc_mem id z e
              · exact HRu.out z e
            · rw [hlen1, show (enc id ++ r).length = (enc id).length + r.length from List.length_append]; exact HO4.out
            · rw [show (enc id ++ r).length = (enc id).length + r.length from List.length_append]; exact HG4.out
          have hfin : bodiesW lim rc first (k + 1) = (bs0 ++ [b]) ++ [enc id ++ r] := by rw [HS.out, stepW_snoc, HR.out, if_neg HRo.out]
          have hlen : (bodiesW lim rc first (k + 1)).length = bs0.length + 1 + 1 := by rw [hfin]; simp
          refine ⟨⟨k + 1, a4, c4, _, by omega, ?_, by rw [hlen], by rw [hlen, hfin]; exact hsn, ?_⟩, by have := HId.out; have := HSt.out; simp [intOf]; omega⟩
          · have := HId.out; rw [this]; congr 1
          · refine (HB.out.trans (HB3.out.mono HB.out.size)).trans ?_
            have hk4 : But (fun k => (Value.slice (some ⟨G, 0, none⟩) (bs0.length + 1) c).ownBlock = some k) w3 w4 := ((But.refl _ w3).alloc _).grown HG4.out (fun k _ e => e)
            exact hk4.below (Nat.le_trans HB.out.size HB3.out.size) (fun k e => (HL.out.own.lt k e).1)
    · have hkn : k = n := by omega
      subst hkn
      have hst := HSt.out
      rw [← hst]
      clear hst
      go_wp2
      go_ret
      exact ⟨a, c, vals, rfl, HL.out, HB.out⟩
end Go.Proofs.Ytbcmheilgilipaa
