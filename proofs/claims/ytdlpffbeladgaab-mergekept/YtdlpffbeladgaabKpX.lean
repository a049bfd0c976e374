/-
  MergeKept: the walk.
-/
import Derived.Test.YtdlpffbeladgaabKpC
namespace Go.Proofs.Ytdlpffbeladgaab
open Go.RowKit
set_option maxRecDepth 8000 in
set_option maxHeartbeats 25600000 in
theorem mergeKept (w : World) (a b : Option Addr) (n c m d : Nat) (es : List Vt) (is : List Int) (hr : TRow layV w a n es) (hS : ∀ e ∈ es, Stk w e) (hi : TRow layN w b m is) (hn : (n : Int) ≤ 9000000000000000000) (hm : (m : Int) ≤ 9000000000000000000) :
    Calls Try.prog 3 #[.slice a n c, .slice b m d] w fun r w' => r = .returned (.bool true) ∧ Below w.heap.size w w' := by
  obtain ⟨iV, hiV, hV0, hV1, hV2⟩ := info_parts Try.infoV
  obtain ⟨iR, hiR, hR0, hR1, hR2⟩ := info_parts Try.infoR
  obtain ⟨iL, hiL, hL0, hL1, hL2⟩ := info_parts Try.infoL
  obtain ⟨iN, hiN, hN0, hN1, hN2'⟩ := info_parts Try.infoN
  have MD := made_any w a b n c m d es is hr hi hS hn hm
  clear hr hi hS
  go_enter Try.func3, Try.ntmps3
  go_wp2_with fail
  refine MD.mono ?_
  rintro r w1 ⟨v, u, fs, js, rfl, hmd, hl, hst, b1⟩
  clear MD
  obtain ⟨va, vc, hvv, hv0, hvc⟩ := own_form hmd.ev
  obtain ⟨ua, uc, huu, hu0, huc⟩ := own_form hmd.ids
  rw [hmd.len] at huu huc hu0
  obtain ⟨N, hN⟩ : ∃ N, N = fs.length := ⟨_, rfl⟩
  rw [← hN] at hvv huu hv0 hl hvc huc hu0
  have HV0 : Hid _ := hide hv0
  have HU0 : Hid _ := hide hu0
  clear hvc huc hu0
  subst hvv; subst huu
  have hNI : (N : Int) ≤ 1048576 := by omega
  have HNL : Hid _ := hide hl
  have HN : Hid _ := hide hN
  have HMD : Hid _ := hide hmd
  have HB1 : Hid _ := hide b1
  have TW := twin_any w1 va N vc fs (hmd.ev.row hN.symm) hv0 hst (by omega)
  clear hN hmd b1 hv0 hst hl
  go_wp2_with fail
  refine TW.mono ?_
  rintro r w2 ⟨v2, gs, rfl, o2, tw, b2⟩
  clear TW
  obtain ⟨a2, c2, hv2, -, -⟩ := own_form o2
  rw [tw.len, ← HN.out] at hv2
  subst hv2
  have HB12 : Hid _ := hide b2
  have HTW : Hid _ := hide tw
  have HO2 : Hid _ := hide o2
  clear tw b2 o2
  have hs2 : w1.heap.size ≤ w2.heap.size := HB12.out.size
  have HR2 : Hid (TRow layV (w2.alloc (.cells #[.int .i64 201, .int .i64 0, .int .u64 0, .int .u64 0, .slice none 0 0, .int .i64 202, .int .i64 0, .int .u64 0, .int .u64 0, .slice none 0 0] 30)) (some ⟨w2.heap.size, 0, none⟩) 2 [(⟨201, 0, 0, 0, ⟨none, 0, 0⟩⟩ : Vt), ⟨202, 0, 0, 0, ⟨none, 0, 0⟩⟩]) := hide (TRow.lit (y := layV) (L := [(⟨201, 0, 0, 0, ⟨none, 0, 0⟩⟩ : Vt), ⟨202, 0, 0, 0, ⟨none, 0, 0⟩⟩]) (e := 30) (fr := (0, 0)) (heap_new w2 _))
  go_upto_region 3 with (at_builtin; refine append_lay layV _ 22 30 iV _ 56 Try.underlying22 hiV hV0 hV1 hV2 rfl rfl (.tmp 50) (.tmp 53) rfl w1.heap.size (.slice a2 N c2) gs rfl (HO2.out.below (below_alloc1 _ _)) _ _ _ [(⟨201, 0, 0, 0, ⟨none, 0, 0⟩⟩ : Vt), ⟨202, 0, 0, 0, ⟨none, 0, 0⟩⟩] rfl HR2.out (fun e => by cases e) (by rw [HTW.out.len, ← HN.out]; unfold maxLen; omega) (by rw [HTW.out.len, ← HN.out]; omega) (by simp; omega) ?_; intro v3 w3 o3 g3 l3)
  have b3 : Below w1.heap.size w1 w3 := HB12.out.trans ((((But.refl (fun k => (Value.slice a2 N c2).ownBlock = some k) w2).alloc _).grown g3 (fun _ _ e => e)).below hs2 (fun k hk => (HO2.out.lt k hk).1))
  obtain ⟨ga, ca, hv3, hga1, hga2, hca⟩ := o3.frm (by simp)
  obtain ⟨N2, hN2⟩ : ∃ N2, N2 = N + 2 := ⟨_, rfl⟩
  rw [List.length_append, HTW.out.len, ← HN.out, show ([(⟨201, 0, 0, 0, ⟨none, 0, 0⟩⟩ : Vt), ⟨202, 0, 0, 0, ⟨none, 0, 0⟩⟩] : List Vt).length = 2 from rfl, ← hN2] at hv3 hca
  subst hv3
  have HO3 : Hid _ := hide o3
  have HB3 : Hid _ := hide b3
  have HM3 : Hid _ := hide (HMD.out.below b3)
  have HN2 : Hid _ := hide hN2
  have hca' : (N2 : Int) ≤ (ca : Int) := by omega
  have hN2a : (N : Int) < (N2 : Int) := by omega
  have hN2b : (N : Int) + 1 < (N2 : Int) := by omega
  have hs3 := b3.size
  clear o3 g3 l3 b3 hN2 hca hga1 hga2
  go_upto_region 4 with (at_builtin; refine append_lay layN _ 23 3 iN _ 8 Try.underlying23 hiN hN0 hN1 hN2' rfl rfl (.tmp 55) (.tmp 56) rfl w3.heap.size (.slice (some ⟨w3.heap.size, 0, none⟩) 0 0) [] rfl (Own.lit0 layN 3 w3 (Nat.le_refl _)) _ _ _ js rfl ((HM3.out.ids.row (by rw [HMD.out.len, HN.out])).below (below_alloc1 _ _)) HU0.out (by simp; unfold maxLen; omega) (by simp; omega) (by simp) ?_; intro v4 w4 o4 g4 l4)
  have b4 : Below w3.heap.size w3 w4 := (((But.refl (fun k => (Value.slice (some ⟨w3.heap.size, 0, none⟩) 0 0).ownBlock = some k) w3).alloc _).grown g4 (fun _ _ e => e)).below (Nat.le_refl _) (fun k hk => by simp [Value.ownBlock] at hk; omega)
  have o4' : Own layN 3 w4 w3.heap.size v4 js := by simpa using o4
  obtain ⟨a4, c4, hv4, -, -⟩ := own_form o4'
  rw [HMD.out.len, ← HN.out] at hv4
  subst hv4
  have HO4 : Hid _ := hide o4'
  have HB4 : Hid _ := hide b4
  have hs4 := b4.size
  clear o4 o4' g4 l4 b4
  have HR4 : Hid (TRow layN (w4.alloc (.cells #[.int .i64 203, .int .i64 204] 3)) (some ⟨w4.heap.size, 0, none⟩) 2 [(203 : Int), 204]) := hide (TRow.lit (y := layN) (L := [(203 : Int), 204]) (e := 3) (fr := (0, 0)) (heap_new w4 _))
  go_upto_region 5 with (at_builtin; refine append_lay layN _ 23 3 iN _ 8 Try.underlying23 hiN hN0 hN1 hN2' rfl rfl (.tmp 58) (.tmp 59) rfl w3.heap.size (.slice a4 N c4) js rfl (HO4.out.below (below_alloc1 _ _)) _ _ _ [(203 : Int), 204] rfl HR4.out (fun e => by cases e) (by rw [HMD.out.len, ← HN.out]; unfold maxLen; omega) (by rw [HMD.out.len, ← HN.out]; omega) (by simp; omega) ?_; intro v5 w5 o5 g5 l5)
  have b5 : Below w3.heap.size w3 w5 := HB4.out.trans ((((But.refl (fun k => (Value.slice a4 N c4).ownBlock = some k) w4).alloc _).grown g5 (fun _ _ e => e)).below hs4 (fun k hk => (HO4.out.lt k hk).1))
  obtain ⟨gb, cb, hv5, hgb1, hgb2, hcb⟩ := o5.frm (by simp)
  rw [List.length_append, HMD.out.len, ← HN.out, show ([(203 : Int), 204] : List Int).length = 2 from rfl, ← HN2.out] at hv5 hcb
  subst hv5
  have hcb' : (N2 : Int) ≤ (cb : Int) := by omega
  have HO5 : Hid _ := hide o5
  have HA5 : Hid _ := hide (HO3.out.below b5)
  have HM5 : Hid _ := hide (HM3.out.below b5)
  have HB5 : Hid (Below w.heap.size w w5) := hide (HB1.out.trans ((HB3.out.trans (b5.mono hs3)).mono HB1.out.size))
  have HS15 : Hid (w1.heap.size ≤ w5.heap.size) := hide (Nat.le_trans hs3 b5.size)
  clear o5 g5 l5 b5 hcb hgb1 hgb2 hs2 hs3 hs4 HO2 HO3 HO4 HM3
  have hca9 : (N : Int) ≤ (ca : Int) := by omega
  have hcb9 : (N : Int) ≤ (cb : Int) := by omega
  have HSP : Hid (∀ W, Below w5.heap.size w5 W → Calls Try.prog 6 #[.slice (some ⟨ga, 0, none⟩) N ca, .slice (some ⟨gb, 0, none⟩) N cb] W fun r w' => ∃ v rws K, r = .returned (.tuple #[v, .int .i64 0]) ∧ Gors K (gs.zip js) ∧ Rowz w' W.heap.size v rws (rowsOf K (gs.zip js)) ∧ Below W.heap.size W w') := hide (fun W hb => by
    refine split_ok W (some ⟨ga, 0, none⟩) (some ⟨gb, 0, none⟩) N ca cb gs js ?_ ?_ HNL.out ?_
    · have h9 := ((HA5.out.below hb).row (by rw [List.length_append, HTW.out.len, ← HN.out, HN2.out]; rfl)).cut N (by omega)
      rw [List.take_left' (by rw [HTW.out.len, ← HN.out])] at h9
      exact h9
    · have h9 := ((HO5.out.below hb).row (by rw [List.length_append, HMD.out.len, ← HN.out, HN2.out]; rfl)).cut N (by omega)
      rw [List.take_left' (by rw [HMD.out.len, ← HN.out])] at h9
      exact h9
    · intro e he
      obtain ⟨i, hi⟩ := List.getElem?_of_mem he
      have hlt := get_lt hi
      rw [HTW.out.len] at hlt
      have h9 := HTW.out.each i _ e (List.getElem?_eq_getElem hlt) hi
      rw [h9.g]
      exact HMD.out.g _ (List.getElem_mem hlt))
  go_region_held3 (fun _ => True) (trivial) (first
    | (go_at_call 6; go_must (
       refine (HSP.out _ (Below.refl _ _).drew).mono ?_
       rintro e1 w6 ⟨v6, rwsA, K, rfl, hK0, hz0, b6'⟩)))
  have b6 : Below w5.heap.size w5 w6 := (Below.refl _ _).drew.trans b6'
  obtain ⟨L, hL⟩ : ∃ L, L = fs.zip js := ⟨_, rfl⟩
  have hK : Gors K L := by rw [hL]; exact HTW.out.gors hK0
  have eL : rowsOf K L = rowsOf K (gs.zip js) := by
    rw [hL]; unfold rowsOf
    exact List.map_congr_left (fun g _ => by rw [HTW.out.recG])
  have hzA : Rowz w6 w5.heap.size v6 rwsA (rowsOf K L) := by rw [eL]; exact hz0
  obtain ⟨a6, c6, hv6, hn6⟩ := hzA.form
  obtain ⟨M, hM⟩ : ∃ M, M = (rowsOf K L).length := ⟨_, rfl⟩
  rw [← hM] at hv6 hn6
  subst hv6
  have HMK : Hid (K.length = M) := hide (by rw [hM]; unfold rowsOf; rw [List.length_map])
  have hzl : (fs.zip js).length = N := by rw [List.length_zip, HMD.out.len, HN.out]; omega
  have hMI : (M : Int) ≤ 1048576 := by
    have h9 := hK.len
    rw [HMK.out, hL, hzl] at h9
    have := HNL.out
    omega
  have HGU : Hid (∀ K', Gors K' (gs.zip js) → K' = K) := hide (fun K' h9 => h9.uniq hK0)
  have HLL : Hid _ := hide hL
  have HM : Hid _ := hide hM
  have HK : Hid _ := hide hK
  have HEL : Hid _ := hide eL
  have HZA : Hid _ := hide hzA
  have HRLA : Hid (rwsA.length = M) := hide (by rw [hzA.len, hM])
  have HLn : Hid (L.length = N) := hide (by rw [hL, hzl])
  have HGb : Hid (∀ e ∈ L, 0 ≤ e.1.g ∧ e.1.g < 65536) := hide (fun e he => by rw [hL] at he; exact HMD.out.g _ (List.of_mem_zip he).1)
  have HLf : Hid (L.map Prod.fst = fs) := hide (by rw [hL, List.map_fst_zip]; rw [HMD.out.len]; exact Nat.le_refl _)
  have HLs : Hid (L.map Prod.snd = js) := hide (by rw [hL, List.map_snd_zip]; rw [HMD.out.len]; exact Nat.le_refl _)
  have HGL : Hid (∀ G ∈ rowsOf K L, G.2.length ≤ 1048576) := hide (fun G hG => by
    unfold rowsOf at hG
    obtain ⟨g, _, rfl⟩ := List.mem_map.1 hG
    have := recG_len g L
    have := HLn.out
    have := HNL.out
    dsimp only
    omega)
  have HB56 : Hid _ := hide b6
  have HN6 : Hid _ := hide hn6
  clear hK0 hz0 b6' hzA hL hK hM hzl b6 hn6 eL
  go_wp2_with fail
  go_region_held3 (fun _ => True) (trivial) (first
    | (go_at_call 6; go_must (
       refine (HSP.out _ (HB56.out.trans ((Below.refl _ _).drew.mono HB56.out.size))).mono ?_
       rintro e1 w7 ⟨v7, rwsB, K7, rfl, hK7, hz7, b7'⟩)))
  have b7 : Below w6.heap.size w6 w7 := (Below.refl _ _).drew.trans b7'
  have eK := HGU.out K7 hK7
  subst eK
  have hzB : Rowz w7 w6.heap.size v7 rwsB (rowsOf K7 L) := by rw [HEL.out]; exact hz7
  obtain ⟨a7, c7, hv7, hn7⟩ := hzB.form
  rw [← HM.out] at hv7 hn7
  subst hv7
  have HZB : Hid _ := hide hzB
  have HN7 : Hid _ := hide hn7
  have HB67 : Hid _ := hide b7
  have HRLB : Hid (rwsB.length = M) := hide (by rw [hzB.len, HM.out])
  have HZA7 : Hid _ := hide (HZA.out.below b7)
  clear hK7 hz7 b7' hzB b7 hn7 HSP HGU
  have SR := sameRw a6 a7 M c6 c7 rwsA rwsB (rowsOf K7 L) w7 (HZA7.out.reads HRLA.out) (HZB.out.reads HRLB.out) (by omega) (fun G hG => by have := HGL.out G hG; omega)
  go_wp2_with fail
  refine SR.mono ?_
  rintro r w8 ⟨rfl, b8⟩
  clear SR
  have HB58 : Hid (Below w5.heap.size w5 w8) := hide ((HB56.out.trans (HB67.out.mono HB56.out.size)).trans (b8.mono (Nat.le_trans HB56.out.size HB67.out.size)))
  have HZA8 : Hid _ := hide (HZA7.out.below b8)
  have HZB8 : Hid _ := hide (HZB.out.below b8)
  have HM8 : Hid _ := hide (HM5.out.below HB58.out)
  have HB8 : Hid (Below w.heap.size w w8) := hide (HB5.out.trans (HB58.out.mono HB5.out.size))
  have x1 : w8.cell? ⟨ga, N * 5, none⟩ = some (.int .i64 201) := (HA5.out.below HB58.out).cell (i := N) (a := ⟨201, 0, 0, 0, ⟨none, 0, 0⟩⟩) (by rw [List.getElem?_append_right (by rw [HTW.out.len, ← HN.out]; exact Nat.le_refl _), HTW.out.len, ← HN.out, Nat.sub_self]; rfl) 0 rfl
  have x2 : w8.cell? ⟨ga, (N + 1) * 5, none⟩ = some (.int .i64 202) := (HA5.out.below HB58.out).cell (i := N + 1) (a := ⟨202, 0, 0, 0, ⟨none, 0, 0⟩⟩) (by rw [List.getElem?_append_right (by rw [HTW.out.len, ← HN.out]; omega), HTW.out.len, ← HN.out, Nat.add_sub_cancel_left]; rfl) 0 rfl
  have x3 : w8.cell? ⟨gb, N, none⟩ = some (.int .i64 203) := by
    have h9 := (HO5.out.below HB58.out).cell (i := N) (a := 203) (by rw [List.getElem?_append_right (by rw [HMD.out.len, ← HN.out]; exact Nat.le_refl _), HMD.out.len, ← HN.out, Nat.sub_self]; rfl) 0 rfl
    simpa [layN] using h9
  have x4 : w8.cell? ⟨gb, N + 1, none⟩ = some (.int .i64 204) := by
    have h9 := (HO5.out.below HB58.out).cell (i := N + 1) (a := 204) (by rw [List.getElem?_append_right (by rw [HMD.out.len, ← HN.out]; omega), HMD.out.len, ← HN.out, Nat.add_sub_cancel_left]; rfl) 0 rfl
    simpa [layN] using h9
  have HB78 : Hid _ := hide b8
  clear b8
  go_upto_region 9 with fail
  clear x1 x2 x3 x4
  have TN := twins_any w8 a6 M c6 rwsA (rowsOf K7 L) (HZA8.out.reads HRLA.out) (by omega) (fun G hG => by have := HGL.out G hG; omega)
  go_wp2_with fail
  refine TN.mono ?_
  rintro r w9 ⟨v9, rwsK, rfl, z9, b9⟩
  clear TN
  obtain ⟨a9, c9, hv9, hn9⟩ := z9.form
  rw [← HM.out] at hv9 hn9
  subst hv9
  have HZA9 : Hid _ := hide (HZA8.out.below b9)
  have HZB9 : Hid _ := hide (HZB8.out.below b9)
  have HM9 : Hid _ := hide (HM8.out.below b9)
  have HZK9 : Hid _ := hide z9
  have HRLK : Hid (rwsK.length = M) := hide (by rw [z9.len, HM.out])
  have HN9 : Hid _ := hide hn9
  have HB9 : Hid (Below w.heap.size w w9) := hide (HB8.out.trans (b9.mono HB8.out.size))
  have HSZ : Hid (w5.heap.size ≤ w6.heap.size ∧ w6.heap.size ≤ w7.heap.size ∧ w7.heap.size ≤ w8.heap.size ∧ w8.heap.size ≤ w9.heap.size) := hide ⟨HB56.out.size, HB67.out.size, HB78.out.size, b9.size⟩
  have HLTA : Hid (∀ (k : Nat) (rw : Rw) (g : Nat), rwsA[k]? = some rw → rw.s.v.ownBlock = some g → g < w6.heap.size) := hide (fun k rw g hk hg => by
    obtain ⟨G, hG⟩ : ∃ G, (rowsOf K7 L)[k]? = some G := ⟨_, List.getElem?_eq_getElem (by rw [← HZA.out.len]; exact get_lt hk)⟩
    exact ((HZA.out.each k rw G hk hG).2.lt g hg).2)
  have HLTV : Hid (∀ g, (Value.slice a6 M c6).ownBlock = some g → g < w6.heap.size) := hide (fun g hg => (HZA.out.own.lt g hg).2)
  have HLTB : Hid (∀ (k : Nat) (rw : Rw) (g : Nat), rwsB[k]? = some rw → rw.s.v.ownBlock = some g → g < w7.heap.size) := hide (fun k rw g hk hg => by
    obtain ⟨G, hG⟩ : ∃ G, (rowsOf K7 L)[k]? = some G := ⟨_, List.getElem?_eq_getElem (by rw [← HZB.out.len]; exact get_lt hk)⟩
    exact ((HZB.out.each k rw G hk hG).2.lt g hg).2)
  have HROW : Hid (∀ q, q < M → ∃ rw G, rwsA[q]? = some rw ∧ (rowsOf K7 L)[q]? = some G ∧ rw.s.n = G.2.length ∧ 0 < G.2.length) := hide (fun q hq => by
    have h1 : q < rwsA.length := by rw [HRLA.out]; exact hq
    have h2 : q < (rowsOf K7 L).length := by rw [← HM.out]; exact hq
    have h3 := List.getElem?_eq_getElem h1
    have h4 := List.getElem?_eq_getElem h2
    refine ⟨_, _, h3, h4, ?_, (rows_at HK.out h4).2.2⟩
    obtain ⟨_, _, e, _, _⟩ := own_form (HZA.out.each q _ _ h3 h4).2
    injection e)
  clear b9 z9 hn9
  go_wp2_with fail
  go_loopw [15] (fun i wo => ∃ (q : Nat) (Gs' : List (Int × List Rc)), i = .int .i64 q ∧ q ≤ M ∧ Hid (Rowz wo w5.heap.size (.slice a6 M c6) rwsA Gs' ∧ Fil (rowsOf K7 L) Gs' q 0) ∧ Hid (But (fun z => w5.heap.size ≤ z ∧ z < w6.heap.size) w9 wo)) (fun i _ => M - numV i)
  case atStart => exact ⟨0, _, rfl, Nat.zero_le _, hide ⟨HZA9.out, Fil.refl _⟩, hide (But.refl _ _)⟩
  case round =>
    obtain ⟨q, Gs', rfl, hq, HZo, HBo⟩ := hrel
    rename World => wo
    by_cases hlt : q < M
    · have hltJ : (q : Int) < (M : Int) := by omega
      obtain ⟨rw, G0, hrw, hG0, hsn, -⟩ := HROW.out q hlt
      obtain ⟨rg, sa, sn, sc⟩ := rw
      have hsn' : sn = G0.2.length := hsn
      have hslI : (sn : Int) ≤ 1048576 := by have := HGL.out G0 (List.mem_of_getElem? hG0); omega
      obtain ⟨b, hab, -, -, x0, x1, -⟩ := HZo.out.1.look HRLA.out hrw
      subst hab
      have HRW : Hid _ := hide hrw
      have HG0 : Hid _ := hide hG0
      have HSN : Hid _ := hide hsn'
      clear hrw hG0 hsn hsn'
      dsimp only at x0 x1
      go_wp2_with fail
      clear x0 x1
      go_loopw [16] (fun j wi => ∃ (k : Nat) (Gs' : List (Int × List Rc)), j = .int .i64 k ∧ k ≤ sn ∧ Hid (Rowz wi w5.heap.size (.slice (some ⟨b, 0, none⟩) M c6) rwsA Gs' ∧ Fil (rowsOf K7 L) Gs' q k) ∧ Hid (But (fun z => w5.heap.size ≤ z ∧ z < w6.heap.size) w9 wi)) (fun j _ => sn - numV j)
      case atStart => exact ⟨0, Gs', rfl, Nat.zero_le _, HZo, HBo⟩
      case round =>
        obtain ⟨k, Gk, rfl, hk, HZi, HBi⟩ := hrel
        rename World => wi
        obtain ⟨b', hb', -, -, x0, x1, -⟩ := HZi.out.1.look HRLA.out HRW.out
        have eb : b = b' := by injection hb' with e; injection e
        subst eb
        dsimp only at x0 x1
        clear hb'
        obtain ⟨Gq, hGq⟩ : ∃ G, Gk[q]? = some G := ⟨_, List.getElem?_eq_getElem (by rw [HZi.out.2.shp.len, ← HM.out]; exact hlt)⟩
        have hGl : Gq.2.length = sn := by rw [HZi.out.2.shp.at HG0.out hGq, HSN.out]
        by_cases hlt2 : k < sn
        · have hltM : (k : Int) < (sn : Int) := by omega
          obtain ⟨r, hr⟩ : ∃ r, Gq.2[k]? = some r := ⟨_, List.getElem?_eq_getElem (by rw [hGl]; exact hlt2)⟩
          obtain ⟨g, cr, ha, -, hc9, hlg, -, hcr, y0, y1, y2, y3, y4⟩ := (HZi.out.1.each q _ Gq HRW.out hGq).2.look5 hr
          have ha' : sa = some ⟨g, 0, none⟩ := ha
          subst ha'
          have hcI : (sn : Int) ≤ (sc : Int) := by have : sn ≤ sc := hc9; omega
          have z0 := frz hcr (k * 5)
          have z1 := frz hcr (k * 5 + 1)
          have z2 := frz hcr (k * 5 + 2)
          have z3 := frz hcr (k * 5 + 3)
          have z4 := frz hcr (k * 5 + 4)
          have HGI : Hid (w5.heap.size ≤ g ∧ g < w6.heap.size) := hide ⟨hlg, HLTA.out q _ g HRW.out rfl⟩
          have HNEW : Hid _ := hide (HZi.out.1.set5 HRW.out hGq rfl (by rw [hGl]; exact hlt2) (fill q k))
          have HFIL : Hid _ := hide (HZi.out.2.step hGq (by rw [hGl]; exact hlt2))
          clear ha hc9 hlg hcr hGq hGl hr
          go_wp2_with fail
          refine ⟨⟨k + 1, _, by go_num, by omega, hide ⟨HNEW.out, HFIL.out⟩, hide (HBi.out.set5R (fun _ => HGI.out) _ _ _ _ _ _)⟩, by simp [numV]; omega⟩
        · have hltM : ¬ (k : Int) < (sn : Int) := by omega
          obtain rfl : k = sn := by omega
          have HNX : Hid _ := hide (HZi.out.2.next (fun G' h9 => by rw [hGq] at h9; rw [← Option.some.inj h9, hGl]; exact Nat.le_refl _))
          clear hGq hGl
          go_wp2_with fail
          exact ⟨⟨q + 1, Gk, by go_num, by omega, hide ⟨HZi.out.1, HNX.out⟩, HBi⟩, by simp [numV]; omega⟩
    · have hltJ : ¬ (q : Int) < (M : Int) := by omega
      obtain rfl : M = q := by omega
      have HFD : Hid (∀ (j : Nat) (G' : Int × List Rc), Gs'[j]? = some G' → ∀ k, k < G'.2.length → G'.2[k]? = some (fill j k)) := hide (fun j G' h9 k hk => HZo.out.2.done j k G' h9 hk (.inl (by have := get_lt h9; rw [HZo.out.2.shp.len, ← HM.out] at this; exact this)))
      have HSH : Hid _ := hide HZo.out.2.shp
      have HMZ : Hid (Mor wo w5.heap.size w6.heap.size w9.heap.size (.slice a6 M c6) (.slice none 0 0) rwsA Gs' []) := hide ⟨HZo.out.1, HLTA.out, HLTV.out, Own.nil _ _ _ _, by have := HSZ.out; omega, fun j s hs => by simp at hs⟩
      clear hq hlt hltJ HZo
      go_wp2_with fail
      go_loopw [14, 17] (fun mv i wm => ∃ (q : Nat) (ma : Option Addr) (mc : Nat) (ms : List Sl), mv = .slice ma q mc ∧ i = .int .i64 q ∧ q ≤ M ∧ Hid (ms.length = q ∧ Mor wm w5.heap.size w6.heap.size w9.heap.size (.slice a6 M c6) (.slice ma q mc) rwsA Gs' ms) ∧ Hid (But (fun z => w5.heap.size ≤ z ∧ z < w6.heap.size) w9 wm)) (fun _ i _ => M - numV i)
      case atStart => exact ⟨0, none, 0, [], rfl, rfl, Nat.zero_le _, hide ⟨rfl, HMZ.out⟩, HBo⟩
      case round =>
        obtain ⟨q, ma, mc, ms, rfl, rfl, hq, HMo, HBm⟩ := hrel
        rename World => wm
        by_cases hlt : q < M
        · have hltJ : (q : Int) < (M : Int) := by omega
          have hqI : (q : Int) ≤ 1048576 := by omega
          obtain ⟨rw, G0, hrw, hG0, hsn, hpos⟩ := HROW.out q hlt
          obtain ⟨G', hG'⟩ : ∃ G, Gs'[q]? = some G := ⟨_, List.getElem?_eq_getElem (by rw [HSH.out.len, ← HM.out]; exact hlt)⟩
          have hGl : G'.2.length = G0.2.length := HSH.out.at hG0 hG'
          obtain ⟨rg, sa, sn, sc⟩ := rw
          have hsn' : sn = G'.2.length := by rw [hGl]; exact hsn
          have hslI : (sn : Int) ≤ 1048576 := by have := HGL.out G0 (List.mem_of_getElem? hG0); omega
          have hsp : 0 < sn := by omega
          have HRW : Hid _ := hide hrw
          have HG' : Hid _ := hide hG'
          have HSN : Hid _ := hide hsn'
          clear hrw hG0 hsn hsn' hG' hpos hGl
          go_wp2_with fail
          go_loopw [18, 19] (fun xv j wi => ∃ (k : Nat) (xa : Option Addr) (xc : Nat), xv = .slice xa k xc ∧ j = .int .i64 k ∧ k ≤ 70 ∧ Hid (Own layR 42 wi wm.heap.size (.slice xa k xc) (marks q k)) ∧ Hid (Below wm.heap.size wm wi)) (fun _ j _ => 70 - numV j)
          case atStart => exact ⟨0, none, 0, rfl, rfl, by omega, hide (Own.nil _ _ _ _), hide (Below.refl _ _)⟩
          case round =>
            obtain ⟨k, xa, xc, rfl, rfl, hk, HXo, HXb⟩ := hrel
            rename World => wi
            have hsz := HXb.out.size
            by_cases hlt2 : k < 70
            · have hltM : (k : Int) < 70 := by omega
              go_wp2_with (at_builtin; refine append_lay layR _ 38 42 iR _ 40 Try.underlying38 hiR hR0 hR1 hR2 rfl rfl (.tmp 172) (.tmp 177) rfl wm.heap.size (.slice xa k xc) (marks q k) rfl (HXo.out.below (below_alloc1 _ _)) _ _ _ [mark q k] rfl (TRow.one (heap_new _ _)) (fun e => by cases e) (by rw [marks_len]; unfold maxLen; omega) (by rw [marks_len]; omega) (by simp; omega) ?_; intro xv2 wj o2 g2 l2)
              obtain ⟨xa2, xc2, hx2, -, -⟩ := own_form o2
              rw [List.length_append, marks_len, List.length_singleton] at hx2
              subst hx2
              rw [← marks_snoc] at o2
              have b2 : Below wm.heap.size wm wj := HXb.out.trans ((((But.refl (fun z => (Value.slice xa k xc).ownBlock = some z) wi).alloc _).grown g2 (fun _ _ e => e)).below hsz (fun z hz => (HXo.out.lt z hz).1))
              have HO2 : Hid _ := hide o2
              have HB2 : Hid _ := hide b2
              clear o2 g2 l2 b2
              go_wp2
              exact ⟨⟨k + 1, xa2, xc2, rfl, by go_num, by omega, HO2, HB2⟩, by simp [numV]; omega⟩
            · have hltM : ¬ (k : Int) < 70 := by omega
              obtain rfl : k = 70 := by omega
              have HMi : Hid _ := hide (HMo.out.2.below HXb.out)
              obtain ⟨b, hab, -, -, x0, x1, -⟩ := HMi.out.a.look HRLA.out HRW.out
              subst hab
              obtain ⟨gx, xc', hx, -, -, -⟩ := HXo.out.frm (by rw [marks_len]; omega)
              rw [marks_len] at hx
              injection hx with e1 e2 e3
              subst e1
              clear e2 e3 xc'
              obtain ⟨r0, hr0⟩ : ∃ r, G'.2[0]? = some r := ⟨_, List.getElem?_eq_getElem (by rw [← HSN.out]; exact hsp)⟩
              obtain ⟨g, cr, ha, -, -, hlg, -, -, -⟩ := (HMi.out.a.each q _ G' HRW.out HG'.out).2.look5 hr0
              have ha' : sa = some ⟨g, 0, none⟩ := ha
              subst ha'
              have HOA : Hid (Own layR 42 wi w5.heap.size (.slice (some ⟨g, 0, none⟩) sn sc) G'.2) := hide (HMi.out.a.each q _ G' HRW.out HG'.out).2
              have HADD : Hid (∀ w', Own layR 42 w' w5.heap.size (.slice (some ⟨g, 0, none⟩) sn sc) G'.2 → wi.grownBy w' (Value.slice (some ⟨g, 0, none⟩) sn sc).ownBlock → Mor w' w5.heap.size w6.heap.size w9.heap.size (.slice (some ⟨b, 0, none⟩) M c6) (.slice ma q mc) rwsA Gs' ms) := hide (fun w' h1 h2 => HMi.out.add (i := q) (by rw [HMo.out.1]; exact Nat.le_refl _) HRW.out HG'.out (q := g) rfl h1 h2)
              have HGI : Hid (w5.heap.size ≤ g ∧ g < w6.heap.size) := hide ⟨hlg, HLTA.out q _ g HRW.out rfl⟩
              have HWI : Hid (w9.heap.size ≤ wi.heap.size) := hide (Nat.le_trans HBm.out.size hsz)
              have hw9 := HWI.out
              have hw5 : w5.heap.size ≤ w9.heap.size := by have := HSZ.out; omega
              dsimp only at x0 x1
              clear ha hlg hr0 hsz
              go_upto_region 20 with (first
                | (at_builtin; refine append_layK layR _ 38 42 iR _ 40 Try.underlying38 hiR hR0 hR1 hR2 rfl rfl (.tmp 184) (.tmp 185) rfl w5.heap.size (.slice (some ⟨g, 0, none⟩) sn sc) G'.2 rfl HOA.out ⟨gx, 0, none⟩ 70 xc (marks q 70) rfl (HXo.out.row (marks_len _ _)) (by omega) (by rw [← HSN.out]; unfold maxLen; omega) (by rw [← HSN.out]; omega) (by omega) ?_; intro g7 c7' wj oN oK gN lN cN)
                | (at_builtin; refine append_lay laySl _ 37 38 iL _ 24 Try.underlying37 hiL hL0 hL1 hL2 rfl rfl (.tmp 179) (.tmp 187) rfl w9.heap.size (.slice ma q mc) ms rfl ((HADD.out _ oK gN).own.below (below_alloc1 _ _)) _ _ _ [(⟨some ⟨g7, 0, none⟩, G'.2.length + 70, c7'⟩ : Sl)] rfl (TRow.one (heap_new _ _)) (fun e => by cases e) (by rw [HMo.out.1]; unfold maxLen; omega) (by rw [HMo.out.1]; omega) (by have := gN.size; simp; omega) ?_; intro mv2 wk oM gM lM))
              obtain ⟨ma2, mc2, hm2, -, -⟩ := own_form oM
              rw [List.length_append, HMo.out.1, List.length_singleton] at hm2
              subst hm2
              have HMk : Hid _ := hide (((HADD.out _ oK gN).below (below_alloc1 _ _)).snoc (rw := ⟨rg, some ⟨g, 0, none⟩, sn, sc⟩) (G := G') (by rw [HMo.out.1]; exact HRW.out) (by rw [HMo.out.1]; exact HG'.out) rfl (lN.imp id (fun h9 => Nat.le_trans HWI.out h9)) (by rw [HMo.out.1]; exact oN.below (below_alloc1 _ _)) oM gM)
              have HBk : Hid (But (fun z => w5.heap.size ≤ z ∧ z < w6.heap.size) w9 wk) := hide ((((HBm.out.on HXb.out).grown gN (fun z _ e => by simp [Value.ownBlock] at e; rw [← e]; exact HGI.out)).alloc _).grown gM (fun z hz e => by have := (HMo.out.2.own.lt z e).1; omega))
              clear oN oK gN lN cN oM gM lM x0 x1 hw9 hw5
              go_wp2
              exact ⟨⟨q + 1, ma2, mc2, _, rfl, by go_num, by omega, hide ⟨by rw [List.length_append, HMo.out.1]; rfl, HMk.out⟩, HBk⟩, by simp [numV]; omega⟩
        · have hltJ : ¬ (q : Int) < (M : Int) := by omega
          obtain rfl : M = q := by omega
          clear hq hlt hltJ
          go_wp2_with fail
          go_loopw [20] (fun i wm => ∃ q : Nat, i = .int .i64 q ∧ q ≤ M ∧ Hid (Mor wm w5.heap.size w6.heap.size w9.heap.size (.slice a6 M c6) (.slice ma M mc) rwsA Gs' ms) ∧ Hid (But (fun z => w5.heap.size ≤ z ∧ z < w6.heap.size) w9 wm)) (fun i _ => M - numV i)
          case atStart => exact ⟨0, rfl, Nat.zero_le _, hide HMo.out.2, HBm⟩
          case round =>
            obtain ⟨q, rfl, hq, HMq, HBq⟩ := hrel
            rename World => wq
            by_cases hlt : q < M
            · have hltJ : (q : Int) < (M : Int) := by omega
              have hqI : (q : Int) ≤ 1048576 := by omega
              obtain ⟨rw, G0, hrw, hG0, hsn, hpos⟩ := HROW.out q hlt
              obtain ⟨G', hG'⟩ : ∃ G, Gs'[q]? = some G := ⟨_, List.getElem?_eq_getElem (by rw [HSH.out.len, ← HM.out]; exact hlt)⟩
              have hGl : G'.2.length = G0.2.length := HSH.out.at hG0 hG'
              obtain ⟨rg, sa, sn, sc⟩ := rw
              have hsn' : sn = G'.2.length := by rw [hGl]; exact hsn
              have hslI : (sn : Int) ≤ 1048576 := by have := HGL.out G0 (List.mem_of_getElem? hG0); omega
              obtain ⟨s, hs⟩ : ∃ s, ms[q]? = some s := ⟨_, List.getElem?_eq_getElem (by rw [HMo.out.1]; exact hlt)⟩
              obtain ⟨b, hab, -, -, x0, x1, -⟩ := HMq.out.a.look HRLA.out hrw
              subst hab
              obtain ⟨ja, jn, jc⟩ := s
              have hjn : jn = sn + 70 := by
                obtain ⟨G9, rw9, g9, e1, e2, e3, e4, e5⟩ := HMq.out.each q _ hs
                rw [hG'] at e2
                cases e2
                obtain ⟨_, _, e, _, _⟩ := own_form e5
                injection e with _ e _
                rw [List.length_append, marks_len, ← hsn'] at e
                exact e
              have hjnI : (jn : Int) ≤ 1048646 := by omega
              obtain ⟨gm, cm', hm9, -, -, hm8⟩ := HMq.out.own.frm (by rw [HMo.out.1]; omega)
              injection hm9 with em1 em2 em3
              subst em1
              clear em2 em3 hm8 cm'
              obtain ⟨gj, hgj⟩ : ∃ gj, ja = some ⟨gj, 0, none⟩ := by
                obtain ⟨_, _, g9, _, _, e3, _⟩ := HMq.out.each q _ hs
                exact ⟨g9, e3⟩
              subst hgj
              have HRW : Hid _ := hide hrw
              have HG' : Hid _ := hide hG'
              have HSN : Hid _ := hide hsn'
              have HS : Hid _ := hide hs
              have HJN : Hid _ := hide hjn
              clear hrw hG0 hsn hsn' hG' hpos hGl hs hjn
              dsimp only at x0 x1
              go_wp2_with fail
              clear x0 x1
              go_loopw [22] (fun j wi => ∃ k : Nat, j = .int .i64 k ∧ k ≤ jn ∧ Hid (Mor wi w5.heap.size w6.heap.size w9.heap.size (.slice (some ⟨b, 0, none⟩) M c6) (.slice (some ⟨gm, 0, none⟩) M mc) rwsA Gs' ms) ∧ Hid (But (fun z => w5.heap.size ≤ z ∧ z < w6.heap.size) w9 wi)) (fun j _ => jn - numV j)
              case atStart => exact ⟨0, rfl, Nat.zero_le _, HMq, HBq⟩
              case round =>
                obtain ⟨k, rfl, hk, HMi, HBi⟩ := hrel
                rename World => wi
                obtain ⟨b', hb', -, -, x0, x1, -⟩ := HMi.out.a.look HRLA.out HRW.out
                have eb : b = b' := by injection hb' with e; injection e
                subst eb
                dsimp only at x0 x1
                have m1 : wi.cell? ⟨gm, q, none⟩ = some (.slice (some ⟨gj, 0, none⟩) jn jc) := by
                  have h9 := HMi.out.own.cell HS.out 0 rfl
                  simpa [laySl] using h9
                clear hb'
                by_cases hlt2 : k < jn
                · have hltM : (k : Int) < (jn : Int) := by omega
                  obtain ⟨G9, rw9, g9, e1, e2, e3, e4, e5⟩ := HMi.out.each q _ HS.out
                  rw [HG'.out] at e2
                  cases e2
                  by_cases hks : k < sn
                  · have hksI : (k : Int) < (sn : Int) := by omega
                    have hd : decide ((k : Int) < (sn : Int)) = true := by simp; omega
                    obtain ⟨W1, hW1⟩ : ∃ W1, W1 = wi.alloc (.cells #[.int .i64 (-1 - (q : Int)), .int .i64 ((k : Int)), .int .u64 0, .int .u64 0, .int .i64 0] 42) := ⟨_, rfl⟩
                    have bW : Below wi.heap.size wi W1 := by rw [hW1]; exact below_alloc1 _ _
                    have rW : W1.heap[wi.heap.size]? = some (.cells #[.int .i64 (-1 - (q : Int)), .int .i64 ((k : Int)), .int .u64 0, .int .u64 0, .int .i64 0] 42 (0, 0)) := by rw [hW1]; exact heap_new _ _
                    have t0 : W1.cell? ⟨wi.heap.size, 0, none⟩ = some (.int .i64 (-1 - (q : Int))) := cell_at rW rfl
                    have t1 : W1.cell? ⟨wi.heap.size, 1, none⟩ = some (.int .i64 ((k : Int))) := cell_at rW rfl
                    have t2 : W1.cell? ⟨wi.heap.size, 2, none⟩ = some (.int .u64 0) := cell_at rW rfl
                    have t3 : W1.cell? ⟨wi.heap.size, 3, none⟩ = some (.int .u64 0) := cell_at rW rfl
                    have t4 : W1.cell? ⟨wi.heap.size, 4, none⟩ = some (.int .i64 0) := cell_at rW rfl
                    have HM1 : Hid _ := hide (HMi.out.below bW)
                    have m2 : W1.cell? ⟨gm, q, none⟩ = some (.slice (some ⟨gj, 0, none⟩) jn jc) := by
                      have h9 := HM1.out.own.cell HS.out 0 rfl
                      simpa [laySl] using h9
                    have hr1 : (G'.2 ++ marks q 70)[k]? = some (fill q k) := by rw [List.getElem?_append_left (by rw [← HSN.out]; exact hks)]; exact HFD.out q G' HG'.out k (by rw [← HSN.out]; exact hks)
                    obtain ⟨gq, cr, ha, -, hc9, -, -, -, y0, y1, y2, y3, y4⟩ := (e5.below bW).look5 hr1
                    have eg : gj = gq := by injection ha with e; injection e
                    subst eg
                    obtain ⟨g0, cr0, ha0, -, hc0, -, -, -, v0, v1, v2', v3', v4'⟩ := (HM1.out.a.each q _ G' HRW.out HG'.out).2.look5 (HFD.out q G' HG'.out k (by rw [← HSN.out]; exact hks))
                    have ha0' : sa = some ⟨g0, 0, none⟩ := ha0
                    subst ha0'
                    obtain ⟨b', hb', -, -, z0, z1, -⟩ := HM1.out.a.look HRLA.out HRW.out
                    have eb : b = b' := by injection hb' with e; injection e
                    subst eb
                    dsimp only [fill] at y0 y1 y2 y3 y4 v0 v1 v2' v3' v4' z0 z1 hc9 hc0
                    have hjc : (jn : Int) ≤ (jc : Int) := by omega
                    have hsc : (sn : Int) ≤ (sc : Int) := by omega
                    have hq9 : ∀ W' : World, (binOp .neq 42 (.agg #[.int .i64 (-1 - (q : Int)), .int .i64 ((k : Int)), .int .u64 0, .int .u64 0, .int .i64 0]) (.agg #[.int .i64 (-1 - (q : Int)), .int .i64 ((k : Int)), .int .u64 0, .int .u64 0, .int .i64 0])).run Try.prog W' = .ok (.bool false) W' := fun W' => neqR W' _ _ _ _ _
                    have HW1 : Hid _ := hide hW1
                    have HBW : Hid _ := hide bW
                    clear hW1 bW rW hr1 ha ha0 hb' hc9 hc0 e1 e3 e4 e5 cr cr0
                    go_upto_region 37 with fail
                    rw [← HW1.out]
                    clear x0 x1 m1
                    go_quiet (fail)
                    go_wp2
                    exact ⟨⟨k + 1, by go_num, by omega, hide (HM1.out.below (below_drewN (Below.refl _ _) _)), hide ((HBi.out.on HBW.out).on (below_drewN (Below.refl _ _) _))⟩, by simp [numV]; omega⟩
                  · have hksI : ¬ (k : Int) < (sn : Int) := by omega
                    have hksJ : (sn : Int) ≤ (k : Int) := by omega
                    have hd : decide ((k : Int) < (sn : Int)) = false := by simp; omega
                    obtain ⟨W1, hW1⟩ : ∃ W1, W1 = wi.alloc (.cells #[.int .i64 (1000 + (q : Int)), .int .i64 ((k : Int) - (sn : Int)), .int .u64 0, .int .u64 0, .int .i64 0] 42) := ⟨_, rfl⟩
                    have bW : Below wi.heap.size wi W1 := by rw [hW1]; exact below_alloc1 _ _
                    have rW : W1.heap[wi.heap.size]? = some (.cells #[.int .i64 (1000 + (q : Int)), .int .i64 ((k : Int) - (sn : Int)), .int .u64 0, .int .u64 0, .int .i64 0] 42 (0, 0)) := by rw [hW1]; exact heap_new _ _
                    have t0 : W1.cell? ⟨wi.heap.size, 0, none⟩ = some (.int .i64 (1000 + (q : Int))) := cell_at rW rfl
                    have t1 : W1.cell? ⟨wi.heap.size, 1, none⟩ = some (.int .i64 ((k : Int) - (sn : Int))) := cell_at rW rfl
                    have t2 : W1.cell? ⟨wi.heap.size, 2, none⟩ = some (.int .u64 0) := cell_at rW rfl
                    have t3 : W1.cell? ⟨wi.heap.size, 3, none⟩ = some (.int .u64 0) := cell_at rW rfl
                    have t4 : W1.cell? ⟨wi.heap.size, 4, none⟩ = some (.int .i64 0) := cell_at rW rfl
                    have HM1 : Hid _ := hide (HMi.out.below bW)
                    have m2 : W1.cell? ⟨gm, q, none⟩ = some (.slice (some ⟨gj, 0, none⟩) jn jc) := by
                      have h9 := HM1.out.own.cell HS.out 0 rfl
                      simpa [laySl] using h9
                    have hr1 : (G'.2 ++ marks q 70)[k]? = some (mark q (k - sn)) := by
                      rw [List.getElem?_append_right (by rw [← HSN.out]; omega), ← HSN.out]
                      exact marks_get (by have := HJN.out; omega)
                    obtain ⟨gq, cr, ha, -, hc9, -, -, -, y0, y1, y2, y3, y4⟩ := (e5.below bW).look5 hr1
                    have eg : gj = gq := by injection ha with e; injection e
                    subst eg
                    dsimp only [mark] at y0 y1 y2 y3 y4 hc9
                    rw [show ((k - sn : Nat) : Int) = (k : Int) - (sn : Int) by omega] at y1
                    have hjc : (jn : Int) ≤ (jc : Int) := by omega
                    have hq9 : ∀ W' : World, (binOp .neq 42 (.agg #[.int .i64 (1000 + (q : Int)), .int .i64 ((k : Int) - (sn : Int)), .int .u64 0, .int .u64 0, .int .i64 0]) (.agg #[.int .i64 (1000 + (q : Int)), .int .i64 ((k : Int) - (sn : Int)), .int .u64 0, .int .u64 0, .int .i64 0])).run Try.prog W' = .ok (.bool false) W' := fun W' => neqR W' _ _ _ _ _
                    have HW1 : Hid _ := hide hW1
                    have HBW : Hid _ := hide bW
                    clear hW1 bW rW hr1 ha hc9 e1 e3 e4 e5 cr
                    go_upto_region 37 with fail
                    rw [← HW1.out]
                    clear x0 x1 m1
                    go_quiet (fail)
                    go_wp2
                    exact ⟨⟨k + 1, by go_num, by omega, hide (HM1.out.below (below_drewN (Below.refl _ _) _)), hide ((HBi.out.on HBW.out).on (below_drewN (Below.refl _ _) _))⟩, by simp [numV]; omega⟩
                · have hltM : ¬ (k : Int) < (jn : Int) := by omega
                  obtain rfl : k = jn := by omega
                  go_wp2_with fail
                  exact ⟨⟨q + 1, by go_num, by omega, HMi, HBi⟩, by simp [numV]; omega⟩
            · have hltJ : ¬ (q : Int) < (M : Int) := by omega
              obtain rfl : M = q := by omega
              clear hq hlt hltJ
              have HS5 : Hid (w.heap.size ≤ w5.heap.size) := hide HB5.out.size
              have HZBq : Hid (Rowz wq w6.heap.size (.slice a7 M c7) rwsB (rowsOf K7 L)) := hide (HZB9.out.butB HBq.out (fun k h1 h2 h3 => by omega))
              have HZKq : Hid (Rowz wq w8.heap.size (.slice a9 M c9) rwsK (rowsOf K7 L)) := hide (HZK9.out.butB HBq.out (fun k h1 h2 h3 => by have := HSZ.out; omega))
              have HMq' : Hid (Made wq w.heap.size (.slice va N vc) (.slice ua N uc) fs js) := hide ⟨HM9.out.ev.but HBq.out (fun g hg h3 => by have := (HMD.out.ev.lt g hg).2; have := HS15.out; omega), HM9.out.ids.but HBq.out (fun g hg h3 => by have := (HMD.out.ids.lt g hg).2; have := HS15.out; omega), HM9.out.len, HM9.out.g⟩
              have HBwq : Hid (Below w.heap.size w wq) := hide (HB9.out.trans (HBq.out.below HB9.out.size (fun z hz => Nat.le_trans HS5.out hz.1)))
              have HBARE : Hid (∀ (i : Nat) (x y : Vt), (L.map fun e => bareV e.1)[i]? = some x → fs[i]? = some y → Bare x y) := hide (fun i x y hx hy => by
                rw [List.getElem?_map] at hx
                cases hL : L[i]? with
                | none => rw [hL] at hx; cases hx
                | some e =>
                  rw [hL] at hx
                  have hx := Option.some.inj hx
                  rw [← HLf.out, List.getElem?_map, hL] at hy
                  have hy := Option.some.inj hy
                  subst hx; subst hy
                  exact ⟨rfl, rfl, rfl, rfl, rfl⟩)
              have MT := merge_trace wq a7 M c7 rwsB K7 L (HZBq.out.reads HRLB.out) HN7.out HK.out (by rw [HLn.out]; exact HNL.out) HGb.out
              go_wp2_with fail
              refine MT.mono ?_
              rintro r wx ⟨vx, ux, rfl, ox, px, bx⟩
              clear MT
              obtain ⟨ax, cx, hvx, hx0, -⟩ := own_form ox
              obtain ⟨dx, ex, hux, hd0, -⟩ := own_form px
              rw [List.length_map, HLn.out] at hvx hux hx0 hd0
              subst hvx; subst hux
              have HOX : Hid _ := hide ox
              have HPX : Hid _ := hide px
              have HBX : Hid _ := hide bx
              have MT := merge_trace wx a7 M c7 rwsB K7 L ((HZBq.out.below bx).reads HRLB.out) HN7.out HK.out (by rw [HLn.out]; exact HNL.out) HGb.out
              clear ox px bx hx0 hd0
              go_wp2_with fail
              refine MT.mono ?_
              rintro r wz ⟨vz, uz, rfl, oz, pz, bz⟩
              clear MT
              obtain ⟨az, cz, hvz, -, -⟩ := own_form oz
              obtain ⟨dz, ez, huz, -, -⟩ := own_form pz
              rw [List.length_map, HLn.out] at hvz huz
              subst hvz; subst huz
              have HOZ : Hid _ := hide oz
              have HPZ : Hid _ := hide pz
              have HBZ : Hid _ := hide bz
              have HQZ : Hid (Below wq.heap.size wq wz) := hide ((bel_on HBX.out bz))
              obtain ⟨H, hH⟩ : ∃ H, H = M / 2 := ⟨_, rfl⟩
              have hHM : H ≤ M := by omega
              have hHI : (H : Int) ≤ (M : Int) := by omega
              have hHd : (M : Int).tdiv 2 = (H : Int) := by rw [hH, Int.tdiv_eq_ediv_of_nonneg (by omega)]; omega
              have hMc : (M : Int) ≤ (c9 : Int) := by
                obtain ⟨_, c', e, _, h9⟩ := own_form HZK9.out.own
                injection e with _ e1 e2
                rw [← e1] at h9
                omega
              have hHc : (H : Int) ≤ (c9 : Int) := by omega
              have HGLt : Hid (∀ G ∈ (rowsOf K7 L).take H, G.2.length * 40 ≤ 140737488355328) := hide (fun G hG => by have := HGL.out G (List.mem_of_mem_take hG); omega)
              have HN9H : Hid (a9 = none → H = 0 ∧ c9 = 0) := hide (fun e => by have := HN9.out e; omega)
              have HHM : Hid _ := hide hHM
              have MA := merge_any wz a9 H c9 (rwsK.take H) ((rowsOf K7 L).take H) (((HZKq.out.below HQZ.out).reads HRLK.out).cut H hHM) HN9H.out (by omega) HGLt.out
              clear oz pz bz hH hHM
              go_wp2_with fail
              refine MA.mono ?_
              rintro r wv ⟨vv, uv, errh, O, rfl, mr, ov, pv, bv⟩
              clear MA
              obtain ⟨E, hE⟩ : ∃ E, E = evs (((rowsOf K7 L).take H).map Prod.fst) O := ⟨_, rfl⟩
              have HEL2 : Hid (E.length ≤ 1048576) := hide (by rw [hE]; unfold evs; rw [List.length_map]; exact mr.len)
              rw [← hE] at ov pv
              obtain ⟨NE, hNE⟩ : ∃ NE, NE = E.length := ⟨_, rfl⟩
              obtain ⟨av, cv, hvv, hv0, -⟩ := own_form ov
              obtain ⟨dv, ev, huv, -, -⟩ := own_form pv
              rw [List.length_map, ← hNE] at hvv huv hv0
              subst hvv; subst huv
              have hNEI : (NE : Int) ≤ 1048576 := by have h9 := HEL2.out; rw [← hNE] at h9; omega
              have HBE : Hid (∀ (i : Nat) (x y : Vt), (E.map Prod.fst)[i]? = some x → (E.map Prod.fst)[i]? = some y → Bare x y) := hide (fun i x y hx hy => by
                have e9 : x = y := by rw [hx] at hy; exact Option.some.inj hy
                subst e9
                have hxm := List.mem_of_getElem? hx
                rw [hE, ← evV_evs] at hxm
                obtain ⟨o, _, rfl⟩ := List.mem_map.1 hxm
                exact ⟨rfl, rfl, rfl, rfl, rfl⟩)
              have HE : Hid _ := hide hE
              have HNE : Hid _ := hide hNE
              have HMR : Hid _ := hide mr
              have HOV : Hid _ := hide ov
              have HV0 : Hid _ := hide hv0
              have HBV : Hid _ := hide bv
              have HQV : Hid (Below wq.heap.size wq wv) := hide ((bel_on HQZ.out bv))
              have HXV : Hid (Below wx.heap.size wx wv) := hide ((bel_on HBZ.out bv))
              have SB := sameB ax va N cx vc _ fs wv ((HOX.out.below HXV.out).row (by rw [List.length_map, HLn.out])) ((HMq'.out.below HQV.out).ev.row HN.out.symm) (by omega) HBARE.out
              clear hE hNE mr ov pv hv0 bv
              go_wp2_with fail
              refine SB.mono ?_
              rintro r k1 ⟨rfl, bk1⟩
              clear SB
              have HK1 : Hid (Below wv.heap.size wv k1) := hide bk1
              clear bk1
              have SN := sameN dx ua N ex uc js k1 (by rw [← HLs.out]; exact ((HPX.out.below HXV.out).below HK1.out).row (by rw [List.length_map, HLn.out])) (((HMq'.out.below HQV.out).below HK1.out).ids.row (by rw [HMD.out.len, HN.out])) (by omega)
              go_wp2_with fail
              refine SN.mono ?_
              rintro r k2 ⟨rfl, bk2⟩
              clear SN
              have HK2 : Hid (Below wv.heap.size wv k2) := hide ((bel_on HK1.out bk2))
              clear bk2 HK1
              have SB := sameB az va N cz vc _ fs k2 (((HOZ.out.below HBV.out).below HK2.out).row (by rw [List.length_map, HLn.out])) (((HMq'.out.below HQV.out).below HK2.out).ev.row HN.out.symm) (by omega) HBARE.out
              go_wp2_with fail
              refine SB.mono ?_
              rintro r k3 ⟨rfl, bk3⟩
              clear SB
              have HK3 : Hid (Below wv.heap.size wv k3) := hide ((bel_on HK2.out bk3))
              clear bk3 HK2
              have SN := sameN dz ua N ez uc js k3 (by rw [← HLs.out]; exact ((HPZ.out.below HBV.out).below HK3.out).row (by rw [List.length_map, HLn.out])) (((HMq'.out.below HQV.out).below HK3.out).ids.row (by rw [HMD.out.len, HN.out])) (by omega)
              go_wp2_with fail
              refine SN.mono ?_
              rintro r k4 ⟨rfl, bk4⟩
              clear SN
              have HK4 : Hid (Below wv.heap.size wv k4) := hide ((bel_on HK3.out bk4))
              clear bk4 HK3
              have SR := sameRw a7 a9 M c7 c9 rwsB rwsK (rowsOf K7 L) k4 (((HZBq.out.below HQV.out).below HK4.out).reads HRLB.out) (((HZKq.out.below HQV.out).below HK4.out).reads HRLK.out) (by omega) (fun G hG => by have := HGL.out G hG; omega)
              go_wp2_with fail
              refine SR.mono ?_
              rintro r k5 ⟨rfl, bk5⟩
              clear SR
              have HK5 : Hid (Below wv.heap.size wv k5) := hide ((bel_on HK4.out bk5))
              have hk5s := HK5.out.size
              clear bk5 HK4
              go_upto_region 46 with (at_builtin; go_must (refine append_lay layV _ 22 30 iV _ 56 Try.underlying22 hiV hV0 hV1 hV2 rfl rfl (.tmp 307) (.tmp 308) rfl k5.heap.size (.slice none 0 0) [] rfl (Own.nil layV 30 k5 k5.heap.size) _ _ _ (E.map Prod.fst) rfl ((HOV.out.below HK5.out).row (by rw [List.length_map, HNE.out])) HV0.out (by simp; unfold maxLen; omega) (by simp; omega) (Nat.le_refl _) ?_; intro vh y1 oh gh lh))
              obtain ⟨ah, ch, hvh, -, -⟩ := own_form oh
              rw [List.nil_append, List.length_map, ← HNE.out] at hvh
              subst hvh
              have by1 : Below k5.heap.size k5 y1 := (But.of_grown (S := fun _ => False) gh (fun k e => by simp [Value.ownBlock] at e)).below (Nat.le_refl _) (fun k h => h.elim)
              have HOH : Hid (Own layV 30 y1 k5.heap.size (.slice ah NE ch) (E.map Prod.fst)) := hide (by simpa using oh)
              have HY1 : Hid (Below wv.heap.size wv y1) := hide ((bel_on HK5.out by1))
              have HQ1 : Hid (Below wq.heap.size wq y1) := hide ((bel_on HQV.out HY1.out))
              have HX1 : Hid (Below wx.heap.size wx y1) := hide ((bel_on HXV.out HY1.out))
              have HXU : Hid (Own layV 30 y1 wq.heap.size (.slice ax N cx) (L.map fun e => bareV e.1) ∧ Own layN 3 y1 wq.heap.size (.slice dx N ex) (L.map Prod.snd)) := hide ⟨HOX.out.below HX1.out, HPX.out.below HX1.out⟩
              have HLTX : Hid (∀ g, (Value.slice ax N cx).ownBlock = some g → g < wx.heap.size) := hide (fun g hg => (HOX.out.lt g hg).2)
              have HLTU : Hid (∀ g, (Value.slice dx N ex).ownBlock = some g → g < wx.heap.size) := hide (fun g hg => (HPX.out.lt g hg).2)
              clear oh gh lh by1 hk5s
              go_wp2_with fail
              go_loopw [34] (fun i wi => ∃ (k : Nat) (X : List Vt) (U : List Int), i = .int .i64 k ∧ k ≤ N ∧ Hid (X.length = N ∧ U.length = N ∧ Own layV 30 wi wq.heap.size (.slice ax N cx) X ∧ Own layN 3 wi wq.heap.size (.slice dx N ex) U) ∧ Hid (But (fun z => wq.heap.size ≤ z ∧ z < wx.heap.size) y1 wi)) (fun i _ => N - numV i)
              case atStart => exact ⟨0, _, _, rfl, Nat.zero_le _, hide ⟨by rw [List.length_map, HLn.out], by rw [List.length_map, HLn.out], HXU.out.1, HXU.out.2⟩, hide (But.refl _ _)⟩
              case round =>
                obtain ⟨k, X, U, rfl, hk, HXi, HBi⟩ := hrel
                rename World => wi
                by_cases hlt : k < N
                · have hltJ : (k : Int) < (N : Int) := by omega
                  obtain ⟨g, c', hg, hg1, hg2, hg3⟩ := HXi.out.2.2.1.frm (by rw [HXi.out.1]; omega)
                  obtain ⟨h, d', hh, hh1, hh2, hh3⟩ := HXi.out.2.2.2.frm (by rw [HXi.out.2.1]; omega)
                  injection hg with eg1 eg2 eg3
                  injection hh with eh1 eh2 eh3
                  subst eg1; subst eh1
                  have hcx : (N : Int) ≤ (cx : Int) := by rw [eg3]; omega
                  have hex : (N : Int) ≤ (ex : Int) := by rw [eh3]; omega
                  clear eg2 eg3 eh2 eh3 hg3 hh3
                  obtain ⟨x, hx⟩ : ∃ x, X[k]? = some x := ⟨_, List.getElem?_eq_getElem (by rw [HXi.out.1]; exact hlt)⟩
                  obtain ⟨u, hu⟩ : ∃ u, U[k]? = some u := ⟨_, List.getElem?_eq_getElem (by rw [HXi.out.2.1]; exact hlt)⟩
                  have y0 : wi.cell? ⟨h, k, none⟩ = some (.int .i64 u) := by
                    have h9 := HXi.out.2.2.2.cell hu 0 rfl
                    simpa [layN] using h9
                  have z0 := HXi.out.2.2.2.frozen k
                  obtain ⟨W1, hW1⟩ : ∃ W1, W1 = wi.setCell ⟨h, k, none⟩ (.int .i64 (-5)) := ⟨_, rfl⟩
                  have OU : Own layN 3 W1 wq.heap.size (.slice (some ⟨h, 0, none⟩) N ex) (U.set k (-5)) := by
                    have h9 := HXi.out.2.2.2.setU HXi.out.2.1 (i := k) (t := 0) (a := u) (a' := -5) (u := .int .i64 (-5)) hu (by decide) rfl
                    rw [show k * layN.z + 0 = k by simp [layN]] at h9
                    rw [hW1]; exact h9
                  have hne : g ≠ h := fun e => by
                    obtain ⟨c1, e1⟩ := own_ty HXi.out.2.2.1 (b := g) rfl
                    obtain ⟨c2, e2⟩ := own_ty HXi.out.2.2.2 (b := h) rfl
                    rw [e, e2] at e1
                    cases e1
                  have BU : But (fun z => z = h) wi W1 := by rw [hW1]; exact but_setC wi ⟨h, k, none⟩ _
                  have OX1 : Own layV 30 W1 wq.heap.size (.slice (some ⟨g, 0, none⟩) N cx) X := HXi.out.2.2.1.but BU (fun q hq e => by
                    have e1 : g = q := by simpa [Value.ownBlock] using hq
                    have e2 : q = h := e
                    exact hne (e1.trans e2))
                  have y1' : W1.cell? ⟨g, k * 5, none⟩ = some (.int .i64 x.g) := OX1.cell hx 0 rfl
                  have z1' := OX1.frozen (k * 5)
                  have OX2 : Own layV 30 (W1.setCell ⟨g, k * 5, none⟩ (.int .i64 (-5))) wq.heap.size (.slice (some ⟨g, 0, none⟩) N cx) (X.set k ⟨-5, x.kind, x.obj, x.arg, x.s⟩) := OX1.setU HXi.out.1 (i := k) (t := 0) (u := .int .i64 (-5)) hx (by decide) rfl
                  have OU2 : Own layN 3 (W1.setCell ⟨g, k * 5, none⟩ (.int .i64 (-5))) wq.heap.size (.slice (some ⟨h, 0, none⟩) N ex) (U.set k (-5)) := OU.but (but_setC W1 ⟨g, k * 5, none⟩ _) (fun q hq e => by
                    have e1 : h = q := by simpa [Value.ownBlock] using hq
                    have e2 : q = g := e
                    exact hne (e1.trans e2).symm)
                  have HNW : Hid _ := hide (And.intro OX2 OU2)
                  have HW1 : Hid _ := hide hW1
                  have HBn : Hid (But (fun z => wq.heap.size ≤ z ∧ z < wx.heap.size) y1 (W1.setCell ⟨g, k * 5, none⟩ (.int .i64 (-5)))) := hide ((HBi.out.trans BU (fun z hz e => by have e9 : z = h := e; rw [e9]; exact ⟨hh1, HLTU.out h rfl⟩)).setCell ⟨g, k * 5, none⟩ (fun _ => ⟨hg1, HLTX.out g rfl⟩) _)
                  clear hW1 OU hne BU OX1 OX2 OU2 hx hu hg1 hg2 hh1 hh2
                  go_upto_region 51 with fail
                  rw [← HW1.out]
                  clear y0 z0
                  go_wp2_with fail
                  exact ⟨⟨k + 1, _, _, by go_num, by omega, hide ⟨by rw [List.length_set, HXi.out.1], by rw [List.length_set, HXi.out.2.1], HNW.out.1, HNW.out.2⟩, HBn⟩, by simp [numV]; omega⟩
                · have hltJ : ¬ (k : Int) < (N : Int) := by omega
                  obtain rfl : N = k := by omega
                  clear hk hlt hltJ
                  have HST : Hid (∀ g, (Value.slice ax N cx).ownBlock = some g → g < y1.heap.size → wq.heap.size ≤ g ∧ g < wx.heap.size) := hide (fun g hg _ => ⟨(HXi.out.2.2.1.lt g hg).1, HLTX.out g hg⟩)
                  have HSU : Hid (∀ g, (Value.slice dx N ex).ownBlock = some g → g < y1.heap.size → wq.heap.size ≤ g ∧ g < wx.heap.size) := hide (fun g hg _ => ⟨(HXi.out.2.2.2.lt g hg).1, HLTU.out g hg⟩)
                  go_wp2_with fail
                  go_loopw [24, 25, 35] (fun xv uv i wj => ∃ (k T : Nat) (X : List Vt) (U : List Int) (xa da : Option Addr) (xc dc : Nat), xv = .slice xa T xc ∧ uv = .slice da T dc ∧ i = .int .i64 k ∧ k ≤ 70 ∧ Hid (T = N + k ∧ X.length = T ∧ U.length = T ∧ Own layV 30 wj wq.heap.size (.slice xa T xc) X ∧ Own layN 3 wj wq.heap.size (.slice da T dc) U ∧ (∀ g, (Value.slice xa T xc).ownBlock = some g → g < y1.heap.size → wq.heap.size ≤ g ∧ g < wx.heap.size) ∧ (∀ g, (Value.slice da T dc).ownBlock = some g → g < y1.heap.size → wq.heap.size ≤ g ∧ g < wx.heap.size)) ∧ Hid (But (fun z => wq.heap.size ≤ z ∧ z < wx.heap.size) y1 wj)) (fun _ _ i _ => 70 - numV i)
                  case atStart => exact ⟨0, N, X, U, ax, dx, cx, ex, rfl, rfl, rfl, by omega, hide ⟨rfl, HXi.out.1, HXi.out.2.1, HXi.out.2.2.1, HXi.out.2.2.2, HST.out, HSU.out⟩, HBi⟩
                  case round =>
                    obtain ⟨k, T, X, U, xa, da, xc, dc, rfl, rfl, rfl, hk, HXj, HBj⟩ := hrel
                    rename World => wj
                    by_cases hlt : k < 70
                    · have hltJ : (k : Int) < 70 := by omega
                      have hTI : (T : Int) ≤ 1048646 := by have := HXj.out.1; omega
                      have hqj : wq.heap.size ≤ wj.heap.size := Nat.le_trans HQ1.out.size HBj.out.size
                      have hyj : y1.heap.size ≤ wj.heap.size := HBj.out.size
                      go_upto_region 56 with (at_builtin; go_must (refine append_lay layN _ 23 3 iN _ 8 Try.underlying23 hiN hN0 hN1 hN2' rfl rfl (.tmp 328) (.tmp 331) rfl wq.heap.size (.slice da T dc) U rfl (HXj.out.2.2.2.2.1.below (below_alloc1 _ _)) _ _ _ [(-100 - (k : Int))] rfl (TRow.one (heap_new _ _)) (fun e => by cases e) (by rw [HXj.out.2.2.1]; unfold maxLen; omega) (by rw [HXj.out.2.2.1]; omega) (by simp; omega) ?_; intro uv2 wk ou gu lu))
                      obtain ⟨da2, dc2, hu2, -, -⟩ := own_form ou
                      rw [List.length_append, HXj.out.2.2.1, List.length_singleton] at hu2
                      subst hu2
                      have bu : But (fun z => (Value.slice da T dc).ownBlock = some z) wj wk := ((But.refl _ wj).alloc _).grown gu (fun _ _ e => e)
                      have HOXk : Hid (Own layV 30 wk wq.heap.size (.slice xa T xc) X) := hide (HXj.out.2.2.2.1.but bu (fun q hq e9 => by
                        obtain ⟨c1, e1⟩ := own_ty HXj.out.2.2.2.1 hq
                        obtain ⟨c2, e2⟩ := own_ty HXj.out.2.2.2.2.1 e9
                        rw [e1] at e2
                        simp at e2))
                      have HOUk : Hid _ := hide ou
                      have HBk : Hid (But (fun z => wq.heap.size ≤ z ∧ z < wx.heap.size) y1 wk) := hide (HBj.out.trans bu (fun z hz e => HXj.out.2.2.2.2.2.2 z e hz))
                      have HSUk : Hid (∀ g, (Value.slice da2 (T + 1) dc2).ownBlock = some g → g < y1.heap.size → wq.heap.size ≤ g ∧ g < wx.heap.size) := hide (fun g hg hlt => by
                        rcases lu with e | e
                        · rw [e] at hg; exact HXj.out.2.2.2.2.2.2 g hg hlt
                        · rw [e] at hg
                          have e9 : wj.heap.size + 1 = g := by simpa using hg
                          omega)
                      have hqk : wq.heap.size ≤ wk.heap.size := Nat.le_trans hqj bu.size
                      have hyk : y1.heap.size ≤ wk.heap.size := HBk.out.size
                      clear ou gu lu bu hqj hyj
                      go_upto_region 54 with (at_builtin; go_must (refine append_lay layV _ 22 30 iV _ 56 Try.underlying22 hiV hV0 hV1 hV2 rfl rfl (.tmp 333) (.tmp 337) rfl wq.heap.size (.slice xa T xc) X rfl (HOXk.out.below (below_alloc1 _ _)) _ _ _ [(⟨-100 - (k : Int), 0, 0, 0, ⟨none, 0, 0⟩⟩ : Vt)] rfl (TRow.one (heap_new _ _)) (fun e => by cases e) (by rw [HXj.out.2.1]; unfold maxLen; omega) (by rw [HXj.out.2.1]; omega) (by simp; omega) ?_; intro xv2 wl ox2 gx2 lx2))
                      obtain ⟨xa2, xc2, hx2, -, -⟩ := own_form ox2
                      rw [List.length_append, HXj.out.2.1, List.length_singleton] at hx2
                      subst hx2
                      have bx2 : But (fun z => (Value.slice xa T xc).ownBlock = some z) wk wl := ((But.refl _ wk).alloc _).grown gx2 (fun _ _ e => e)
                      have HOUl : Hid (Own layN 3 wl wq.heap.size (.slice da2 (T + 1) dc2) (U ++ [-100 - (k : Int)])) := hide (HOUk.out.but bx2 (fun q hq e9 => by
                        obtain ⟨c1, e1⟩ := own_ty HOUk.out hq
                        obtain ⟨c2, e2⟩ := own_ty HOXk.out e9
                        rw [e1] at e2
                        simp at e2))
                      have HOXl : Hid _ := hide ox2
                      have HBl : Hid (But (fun z => wq.heap.size ≤ z ∧ z < wx.heap.size) y1 wl) := hide (HBk.out.trans bx2 (fun z hz e => HXj.out.2.2.2.2.2.1 z e hz))
                      have HSXl : Hid (∀ g, (Value.slice xa2 (T + 1) xc2).ownBlock = some g → g < y1.heap.size → wq.heap.size ≤ g ∧ g < wx.heap.size) := hide (fun g hg hlt => by
                        rcases lx2 with e | e
                        · rw [e] at hg; exact HXj.out.2.2.2.2.2.1 g hg hlt
                        · rw [e] at hg
                          have e9 : wk.heap.size + 1 = g := by simpa using hg
                          omega)
                      clear ox2 gx2 lx2 bx2 hqk hyk
                      go_wp2
                      exact ⟨⟨k + 1, T + 1, _, _, xa2, da2, xc2, dc2, rfl, rfl, by go_num, by omega, hide ⟨by have := HXj.out.1; omega, by rw [List.length_append, HXj.out.2.1]; rfl, by rw [List.length_append, HXj.out.2.2.1]; rfl, HOXl.out, HOUl.out, HSXl.out, HSUk.out⟩, HBl⟩, by simp [numV]; omega⟩
                    · have hltJ : ¬ (k : Int) < 70 := by omega
                      obtain rfl : k = 70 := by omega
                      have hT : T = N + 70 := HXj.out.1
                      have hTe : (((T : Nat) : Int) != (N : Int) + 70) = false := by rw [hT]; simp
                      have HTE : Hid _ := hide hT
                      clear hk hlt hltJ hT
                      have HQ2 : Hid (Below wq.heap.size wq wj) := hide (HQ1.out.trans (HBj.out.below HQ1.out.size (fun z hz => hz.1)))
                      have HSX : Hid (wx.heap.size ≤ wz.heap.size ∧ wz.heap.size ≤ wv.heap.size ∧ wv.heap.size ≤ k5.heap.size) := hide ⟨HBZ.out.size, HBV.out.size, HK5.out.size⟩
                      have HOZ2 : Hid (Own layV 30 wj wx.heap.size (.slice az N cz) (L.map fun e => bareV e.1)) := hide (((HOZ.out.below HBV.out).below HY1.out).but HBj.out (fun g hg h3 => by have := (HOZ.out.lt g hg).1; omega))
                      have HPZ2 : Hid (Own layN 3 wj wx.heap.size (.slice dz N ez) (L.map Prod.snd)) := hide (((HPZ.out.below HBV.out).below HY1.out).but HBj.out (fun g hg h3 => by have := (HPZ.out.lt g hg).1; omega))
                      have HOV2 : Hid (Own layV 30 wj wz.heap.size (.slice av NE cv) (E.map Prod.fst)) := hide ((HOV.out.below HY1.out).but HBj.out (fun g hg h3 => by have := (HOV.out.lt g hg).1; have := HSX.out; omega))
                      have HOH2 : Hid (Own layV 30 wj k5.heap.size (.slice ah NE ch) (E.map Prod.fst)) := hide (HOH.out.but HBj.out (fun g hg h3 => by have := (HOH.out.lt g hg).1; have := HSX.out; omega))
                      have SB := sameB az va N cz vc _ fs wj (HOZ2.out.row (by rw [List.length_map, HLn.out])) ((HMq'.out.below HQ2.out).ev.row HN.out.symm) (by omega) HBARE.out
                      go_wp2_with fail
                      refine SB.mono ?_
                      rintro r m1 ⟨rfl, bm1⟩
                      clear SB
                      have HM1 : Hid (Below wj.heap.size wj m1) := hide bm1
                      clear bm1
                      have SN := sameN dz ua N ez uc js m1 (by rw [← HLs.out]; exact (HPZ2.out.below HM1.out).row (by rw [List.length_map, HLn.out])) (((HMq'.out.below HQ2.out).below HM1.out).ids.row (by rw [HMD.out.len, HN.out])) (by omega)
                      go_wp2_with fail
                      refine SN.mono ?_
                      rintro r m2 ⟨rfl, bm2⟩
                      clear SN
                      have HM2' : Hid (Below wj.heap.size wj m2) := hide ((bel_on HM1.out bm2))
                      clear bm2 HM1
                      have SB := sameB av ah NE cv ch (E.map Prod.fst) (E.map Prod.fst) m2 ((HOV2.out.below HM2'.out).row (by rw [List.length_map, HNE.out])) ((HOH2.out.below HM2'.out).row (by rw [List.length_map, HNE.out])) (by omega) HBE.out
                      go_wp2_with fail
                      refine SB.mono ?_
                      rintro r m3 ⟨rfl, bm3⟩
                      clear SB
                      have HM3' : Hid (Below wj.heap.size wj m3) := hide ((bel_on HM2'.out bm3))
                      have HQ3 : Hid (Below wq.heap.size wq m3) := hide ((bel_on HQ2.out HM3'.out))
                      clear bm3 HM2' hTe
                      have MA := merge_any m3 a9 H c9 (rwsK.take H) ((rowsOf K7 L).take H) (((HZKq.out.below HQ3.out).reads HRLK.out).cut H HHM.out) HN9H.out (by omega) HGLt.out
                      go_wp2_with fail
                      refine MA.mono ?_
                      rintro r m4 ⟨vo, uo, erro, O4, rfl, mr4, oo, po, bo⟩
                      clear MA
                      obtain ⟨e1, e2⟩ := HMR.out.uniq mr4
                      subst e1; subst e2
                      rw [← HE.out] at oo po
                      obtain ⟨ao, co, hvo, -, -⟩ := own_form oo
                      rw [List.length_map, ← HNE.out] at hvo
                      subst hvo
                      have HM4' : Hid (Below wj.heap.size wj m4) := hide ((bel_on HM3'.out bo))
                      have SB := sameB ao ah NE co ch (E.map Prod.fst) (E.map Prod.fst) m4 (oo.row (by rw [List.length_map, HNE.out])) ((HOH2.out.below HM4'.out).row (by rw [List.length_map, HNE.out])) (by omega) HBE.out
                      have hen : (errh != errh) = false := by simp
                      clear mr4 oo po bo
                      go_wp2_with fail
                      refine SB.mono ?_
                      rintro r m5 ⟨rfl, bm5⟩
                      clear SB hen
                      have HM5' : Hid (Below wj.heap.size wj m5) := hide ((bel_on HM4'.out bm5))
                      have HQ5 : Hid (Below wq.heap.size wq m5) := hide ((bel_on HQ2.out HM5'.out))
                      clear bm5 HM4'
                      have MT := merge_trace m5 a7 M c7 rwsB K7 L ((HZBq.out.below HQ5.out).reads HRLB.out) HN7.out HK.out (by rw [HLn.out]; exact HNL.out) HGb.out
                      go_wp2_with fail
                      refine MT.mono ?_
                      rintro r m6 ⟨vy, uy, rfl, oy, py, by6⟩
                      clear MT
                      obtain ⟨ay, cy, hvy, -, -⟩ := own_form oy
                      obtain ⟨dy, ey, huy, -, -⟩ := own_form py
                      rw [List.length_map, HLn.out] at hvy huy
                      subst hvy; subst huy
                      have HOY : Hid _ := hide oy
                      have HPY : Hid _ := hide py
                      have HQ6 : Hid (Below wq.heap.size wq m6) := hide ((bel_on HQ5.out by6))
                      have HS6 : Hid (w7.heap.size ≤ wq.heap.size ∧ wq.heap.size ≤ m5.heap.size) := hide ⟨by have := HSZ.out; have := HBq.out.size; omega, HQ5.out.size⟩
                      have LT := later_any m6 w6.heap.size w7.heap.size M c7 a7 rwsB (rowsOf K7 L) (HZBq.out.below HQ6.out) HRLB.out HN7.out (by omega) HGL.out HLTB.out
                      clear oy py by6
                      go_wp2_with fail
                      refine LT.mono ?_
                      rintro r m7 ⟨rfl, bm7⟩
                      clear LT
                      have HMq7 : Hid (Made m7 w.heap.size (.slice va N vc) (.slice ua N uc) fs js) := hide (by
                        have h9 := HMq'.out.below HQ6.out
                        exact ⟨h9.ev.but bm7 (fun g hg h3 => by have := (HMD.out.ev.lt g hg).2; have := HS15.out; have := HSZ.out; omega), h9.ids.but bm7 (fun g hg h3 => by have := (HMD.out.ids.lt g hg).2; have := HS15.out; have := HSZ.out; omega), h9.len, h9.g⟩)
                      have HOY7 : Hid (Own layV 30 m7 m5.heap.size (.slice ay N cy) (L.map fun e => bareV e.1)) := hide (HOY.out.but bm7 (fun g hg h3 => by have := (HOY.out.lt g hg).1; have := HS6.out; omega))
                      have HPY7 : Hid (Own layN 3 m7 m5.heap.size (.slice dy N ey) (L.map Prod.snd)) := hide (HPY.out.but bm7 (fun g hg h3 => by have := (HPY.out.lt g hg).1; have := HS6.out; omega))
                      have HB7' : Hid (Below w.heap.size w m7) := hide (((bel_on HBwq.out HQ6.out)).trans (bm7.below (Nat.le_trans HBwq.out.size HQ6.out.size) (fun z hz => by have := HS5.out; have := HSZ.out; omega)))
                      clear bm7
                      obtain ⟨m8, hm8⟩ : ∃ m8, m8 = (m7.alloc (.cells #[.int .i64 0, .int .i64 4, .int .u64 0, .int .u64 0, .int .i64 0] 42)).alloc (.cells #[.int .i64 1, .slice (some ⟨m7.heap.size, 0, none⟩) 1 1] 40) := ⟨_, rfl⟩
                      have b8' : Below m7.heap.size m7 m8 := by rw [hm8]; exact below_alloc2 _ _ _
                      have Z8 : Rdz m8 (some ⟨m7.heap.size + 1, 0, none⟩) 1 [⟨1, ⟨some ⟨m7.heap.size, 0, none⟩, 1, 1⟩⟩] (rowsOf [1] [((⟨1, 4, 0, 0, ⟨none, 0, 0⟩⟩ : Vt), (0 : Int))]) := by
                        rw [lit_one.2]
                        have e1 : m8.heap[m7.heap.size]? = some (.cells (layR.cs ⟨0, 4, 0, 0, 0⟩).toArray 42 (0, 0)) := by rw [hm8]; exact heap_old (heap_new _ _)
                        have e2 : m8.heap[m7.heap.size + 1]? = some (.cells (layW.cs ⟨1, ⟨some ⟨m7.heap.size, 0, none⟩, 1, 1⟩⟩).toArray 40 (0, 0)) := by rw [hm8]; exact heap_new2 _ _ _
                        refine ⟨TRow.one e2, rfl, fun k rw G h1 h2 => ?_⟩
                        have e0 : k = 0 := by have := get_lt h1; simpa using this
                        subst e0
                        cases h1; cases h2
                        exact ⟨rfl, TRow.one e1, (fun e => by cases e), Nat.le_refl _⟩
                      have MT := merge_trace m8 (some ⟨m7.heap.size + 1, 0, none⟩) 1 1 _ _ _ Z8 (fun e => by cases e) lit_one.1 (by simp) (fun e he => by rw [List.mem_singleton.1 he]; exact ⟨by decide, by decide⟩)
                      have HM8' : Hid _ := hide hm8
                      have HB78' : Hid _ := hide b8'
                      clear hm8 b8' Z8
                      go_wp2_with fail
                      rw [← HM8'.out]
                      refine MT.mono ?_
                      rintro r m9 ⟨v1, u1, rfl, o1, p1, b9'⟩
                      clear MT
                      obtain ⟨g1, c1, hv1, -, -, -⟩ := o1.frm (by simp)
                      have hv1' : v1 = .slice (some ⟨g1, 0, none⟩) 1 c1 := hv1
                      subst hv1'
                      have o1' : Own layV 30 m9 m8.heap.size (.slice (some ⟨g1, 0, none⟩) 1 c1) [(⟨1, 4, 0, 0, ⟨none, 0, 0⟩⟩ : Vt)] := o1
                      have HO1' : Hid _ := hide o1'
                      have HM79 : Hid (Below m7.heap.size m7 m9) := hide ((bel_on HB78'.out b9'))
                      have SB := sameB ay va N cy vc _ fs m9 ((HOY7.out.below HM79.out).row (by rw [List.length_map, HLn.out])) ((HMq7.out.below HM79.out).ev.row HN.out.symm) (by omega) HBARE.out
                      clear o1 o1' p1 b9' hv1
                      go_wp2_with fail
                      refine SB.mono ?_
                      rintro r n1 ⟨rfl, bn1⟩
                      clear SB
                      have HN1 : Hid (Below m9.heap.size m9 n1) := hide bn1
                      have SN := sameN dy ua N ey uc js n1 (by rw [← HLs.out]; exact ((HPY7.out.below HM79.out).below bn1).row (by rw [List.length_map, HLn.out])) (((HMq7.out.below HM79.out).below bn1).ids.row (by rw [HMD.out.len, HN.out])) (by omega)
                      clear bn1
                      go_wp2_with fail
                      refine SN.mono ?_
                      rintro r n2 ⟨rfl, bn2⟩
                      clear SN
                      have HN2'' : Hid (Below m9.heap.size m9 n2) := hide ((bel_on HN1.out bn2))
                      have xk : n2.cell? ⟨g1, 1, none⟩ = some (.int .i64 4) := (HO1'.out.below HN2''.out).cell (i := 0) (a := ⟨1, 4, 0, 0, ⟨none, 0, 0⟩⟩) rfl 1 rfl
                      clear bn2
                      go_wp2
                      go_ret
                      exact ⟨rfl, (bel_on HB7'.out ((bel_on HM79.out HN2''.out)))⟩
end Go.Proofs.Ytdlpffbeladgaab
