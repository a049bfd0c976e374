/-
  MergeTells: the walk.
-/
import Derived.Test.YtdlpffbeladgaaaMtW
import Derived.Test.YtdlpffbeladgaaaMRm
import Derived.Deep.DeepCutAuto
namespace Go.Proofs.Ytdlpffbeladgaaa
open Go.RowKit
theorem lit_gap : Mres [((3 : Int), [(⟨1, 0, 0, 0, 0⟩ : Rc)])] 100 [] := by
  refine .inr ⟨by decide, [], _, 0, 100, Run.nil, .inr ⟨0, ⟨1, 0, 0, 0, 0⟩, [], ⟨rfl, fun j x u hj => ?_⟩, by decide⟩, by decide, .inl ⟨by decide, rfl, rfl⟩⟩
  have hl := get_lt hj
  have e : j = 0 := by simpa using hl
  subst e
  simp at hj
  rw [← hj.1]
  exact .inr ⟨rfl, Nat.le_refl _⟩
theorem Rowz.setRow {w : World} {base base' b n c k : Nat} {rws : List Rw} {Gs : List (Int × List Rc)} (h : Rowz w base (.slice (some ⟨b, 0, none⟩) n c) rws Gs) (hn : rws.length = n) {rw : Rw} {G : Int × List Rc} (hk : rws[k]? = some rw) (hG : Gs[k]? = some G) {s : Sl} {R : List Rc} (ho : Own layR 41 w base' s.v R) :
    Rdz (w.setCell ⟨b, k * 2 + 1, none⟩ (.slice s.a s.n s.c)) (some ⟨b, 0, none⟩) n (rws.set k ⟨rw.g, s⟩) (Gs.set k (G.1, R)) := by
  have sb := but_setC w ⟨b, k * 2 + 1, none⟩ (.slice s.a s.n s.c)
  obtain ⟨cb, hcb⟩ := own_ty h.own (b := b) rfl
  have hrd := h.reads hn
  have noR : ∀ {v : Value} {L : List Rc} {bs : Nat}, Own layR 41 w bs v L → ∀ g, v.ownBlock = some g → ¬ g = b := fun hv g hg e => own_ne_cells hv hcb (by decide) (by rw [hg, e])
  have hn0 : 0 < n := by have := get_lt hk; omega
  obtain ⟨b', off', e', hb', hc⟩ := hrd.row.at hn0
  cases e'
  refine ⟨⟨by rw [List.length_set]; exact hrd.row.len, .inr ⟨b, 0, rfl, fun i x hx t u hu => ?_⟩⟩, by rw [List.length_set, List.length_set]; exact h.len, fun i x G' hx hG' => ?_⟩
  · rw [List.getElem?_set] at hx
    by_cases hi : k = i
    · subst hi
      rw [if_pos rfl, if_pos (get_lt hk)] at hx
      have hx := Option.some.inj hx
      subst hx
      have ht : t = 0 ∨ t = 1 := by
        have : t < (layW.cs ⟨rw.g, s⟩).length := get_lt hu
        have e : (layW.cs ⟨rw.g, s⟩).length = 2 := rfl
        omega
      rcases ht with rfl | rfl
      · have h1 := hc k rw hk 0 (.int .i64 rw.g) rfl
        have e1 : u = .int .i64 rw.g := (Option.some.inj hu).symm
        rw [e1]
        have h2 : (⟨b, k * 2 + 1, none⟩ : Addr) ≠ ⟨b, 0 + k * layW.z + 0, none⟩ := fun e => by
          injection e with _ e _
          have : layW.z = 2 := rfl
          rw [this] at e
          omega
        rw [World.cell?_setCell_other _ _ _ _ h2]
        exact h1
      · have e1 : u = .slice s.a s.n s.c := (Option.some.inj hu).symm
        rw [e1]
        have e2 : (⟨b, 0 + k * layW.z + 1, none⟩ : Addr) = ⟨b, k * 2 + 1, none⟩ := by
          have : layW.z = 2 := rfl
          rw [this]; simp
        rw [e2]
        have h1 := hc k rw hk 1 (.slice rw.s.a rw.s.n rw.s.c) rfl
        rw [e2] at h1
        have h9 := set1_heap (i := k * 2 + 1) (.slice s.a s.n s.c) hcb
        refine cell_at h9 ?_
        rw [cell_of_row _ _ _ _ _ _ hcb] at h1
        have hlt : k * 2 + 1 < cb.size := (Array.getElem?_eq_some_iff.1 h1).1
        simp [hlt]
    · rw [if_neg hi] at hx
      have h1 := hc i x hx t u hu
      have h2 : (⟨b, k * 2 + 1, none⟩ : Addr) ≠ ⟨b, 0 + i * layW.z + t, none⟩ := fun e => by
        injection e with _ e _
        have e5 : layW.z = 2 := rfl
        have : t < (layW.cs x).length := get_lt hu
        have e6 : (layW.cs x).length = 2 := rfl
        rw [e5] at e
        omega
      rw [World.cell?_setCell_other _ _ _ _ h2]
      exact h1
  · rw [List.getElem?_set] at hx hG'
    by_cases hi : k = i
    · subst hi
      rw [if_pos rfl, if_pos (get_lt hk)] at hx
      rw [if_pos rfl, if_pos (get_lt hG)] at hG'
      have hx := Option.some.inj hx
      have hG' := Option.some.inj hG'
      subst hx; subst hG'
      exact ⟨(h.each k rw G hk hG).1, own_reads (ho.but sb (fun g hg e => noR ho g hg e))⟩
    · rw [if_neg hi] at hx hG'
      obtain ⟨h1, h2⟩ := h.each i x G' hx hG'
      exact ⟨h1, own_reads (h2.but sb (fun g hg e => noR h2 g hg e))⟩
set_option maxRecDepth 8000 in
set_option maxHeartbeats 25600000 in
theorem mergeTells (w : World) (a b : Option Addr) (n c m d : Nat) (es : List Vt) (is : List Int) (hr : TRow layV w a n es) (hS : ∀ e ∈ es, Stk w e) (hi : TRow layN w b m is) (hn : (n : Int) ≤ 9000000000000000000) (hm : (m : Int) ≤ 9000000000000000000) (atv rowv : Int) :
    Calls Try.prog 8 #[.slice a n c, .slice b m d, .int .i64 atv, .int .i64 rowv] w fun r w' => r = .returned (.bool true) ∧ Below w.heap.size w w' := by
  have MD := made_any w a b n c m d es is hr hi hS hn hm
  clear hr hi hS
  go_enter Try.func8, Try.ntmps8
  go_wp2_with fail
  refine MD.mono ?_
  rintro r w1 ⟨v, u, fs, js, rfl, hmd, hl, hst, b1⟩
  clear MD
  obtain ⟨va, vc, hvv, hv0, hvc⟩ := own_form hmd.ev
  obtain ⟨ua, uc, huu, hu0, huc⟩ := own_form hmd.ids
  rw [hmd.len] at huu huc hu0
  obtain ⟨N, hN⟩ : ∃ N, N = fs.length := ⟨_, rfl⟩
  rw [← hN] at hvv huu hv0 hl hvc huc hu0
  have HVC : Hid _ := hide hvc
  have HUC : Hid _ := hide huc
  have HV0 : Hid _ := hide hv0
  have HU0 : Hid _ := hide hu0
  clear hvc huc hu0
  subst hvv; subst huu
  have hNI : (N : Int) ≤ 1048576 := by omega
  have HNL : Hid _ := hide hl
  have HN : Hid _ := hide hN
  have HMD : Hid _ := hide hmd
  have HB1 : Hid _ := hide b1
  have TW := twin_any w1 va N vc fs (hmd.ev.row hN.symm) hv0 hst (by omega)
  clear hN hmd b1 hv0 hst hl
  go_wp2_with fail
  refine TW.mono ?_
  rintro r w2 ⟨v2, gs, rfl, o2, tw, b2⟩
  clear TW
  obtain ⟨a2, c2, hv2, -, -⟩ := own_form o2
  rw [tw.len, ← HN.out] at hv2
  subst hv2
  have HM2 : Hid _ := hide (HMD.out.below b2)
  have HB2 : Hid (Below w.heap.size w w2) := hide (HB1.out.trans (b2.mono HB1.out.size))
  have HTW : Hid _ := hide tw
  have SP := split_ok w2 a2 ua N c2 uc gs js (o2.row (by rw [tw.len, HN.out])) (HM2.out.ids.row (by rw [HMD.out.len, HN.out])) HNL.out (fun e he => by
    obtain ⟨i, hi⟩ := List.getElem?_of_mem he
    have hlt := get_lt hi
    rw [tw.len] at hlt
    have h9 := tw.each i _ e (List.getElem?_eq_getElem hlt) hi
    rw [h9.g]
    exact HMD.out.g _ (List.getElem_mem hlt))
  clear b2 o2 tw
  go_wp2_with fail
  refine SP.mono ?_
  rintro r w3 ⟨v3, rws, K, rfl, hK0, hz0, b3⟩
  clear SP
  obtain ⟨L, hL⟩ : ∃ L, L = fs.zip js := ⟨_, rfl⟩
  have hK : Gors K L := by rw [hL]; exact HTW.out.gors hK0
  have hz : Rowz w3 w2.heap.size v3 rws (rowsOf K L) := by
    have e9 : rowsOf K L = rowsOf K (gs.zip js) := by
      rw [hL]; unfold rowsOf
      exact List.map_congr_left (fun g _ => by rw [HTW.out.recG])
    rw [e9]; exact hz0
  obtain ⟨a3, c3, hv3, hn3⟩ := hz.form
  obtain ⟨M, hM⟩ : ∃ M, M = (rowsOf K L).length := ⟨_, rfl⟩
  rw [← hM] at hv3 hn3
  subst hv3
  have HLL : Hid _ := hide hL
  have HM : Hid _ := hide hM
  have HMK : Hid (K.length = M) := hide (by rw [hM]; unfold rowsOf; rw [List.length_map])
  have hzl : (fs.zip js).length = N := by rw [List.length_zip, HMD.out.len, HN.out]; omega
  have hMI : (M : Int) ≤ 1048576 := by
    have h9 := hK.len
    rw [HMK.out, hL, hzl] at h9
    have := HNL.out
    omega
  have HK : Hid _ := hide hK
  have HZ : Hid (Rdz w3 a3 M rws (rowsOf K L)) := hide (hz.reads (by rw [hz.len, hM]))
  have HRL : Hid (rws.length = M) := hide (by rw [hz.len, hM])
  have HM3 : Hid _ := hide (HM2.out.below b3)
  have HB3 : Hid (Below w.heap.size w w3) := hide (HB2.out.trans (b3.mono HB2.out.size))
  have HN3 : Hid (a3 = none → M = 0 ∧ c3 = 0) := hide hn3
  have HLn : Hid (L.length = N) := hide (by rw [hL, hzl])
  have HGb : Hid (∀ e ∈ L, 0 ≤ e.1.g ∧ e.1.g < 65536) := hide (fun e he => by rw [hL] at he; exact HMD.out.g _ (List.of_mem_zip he).1)
  have HLf : Hid (L.map Prod.fst = fs) := hide (by rw [hL, List.map_fst_zip]; rw [HMD.out.len]; exact Nat.le_refl _)
  have HLs : Hid (L.map Prod.snd = js) := hide (by rw [hL, List.map_snd_zip]; rw [HMD.out.len]; exact Nat.le_refl _)
  clear hK0 hz0 hz hL hK hM hzl b3 hn3
  have hgl : ∀ G ∈ rowsOf K L, G.2.length * 40 ≤ 140737488355328 := fun G hG => by
    unfold rowsOf at hG
    obtain ⟨g, _, rfl⟩ := List.mem_map.1 hG
    have := recG_len g L
    have := HLn.out
    have := HNL.out
    dsimp only
    omega
  have HGL : Hid _ := hide hgl
  clear hgl
  obtain ⟨w5, hw5⟩ : ∃ w5, w5 = (w3.alloc (.cells #[.int .i64 1, .int .i64 0, .int .u64 0, .int .u64 0, .int .i64 0] 41)).alloc (.cells #[.int .i64 3, .slice (some ⟨w3.heap.size, 0, none⟩) 1 1] 38) := ⟨_, rfl⟩
  have b5 : Below w3.heap.size w3 w5 := by rw [hw5]; exact below_alloc2 _ _ _
  have Z5 : Rdz w5 (some ⟨w3.heap.size + 1, 0, none⟩) 1 [⟨3, ⟨some ⟨w3.heap.size, 0, none⟩, 1, 1⟩⟩] [((3 : Int), [(⟨1, 0, 0, 0, 0⟩ : Rc)])] := by
    have e1 : w5.heap[w3.heap.size]? = some (.cells (layR.cs ⟨1, 0, 0, 0, 0⟩).toArray 41 (0, 0)) := by rw [hw5]; exact heap_old (heap_new _ _)
    have e2 : w5.heap[w3.heap.size + 1]? = some (.cells (layW.cs ⟨3, ⟨some ⟨w3.heap.size, 0, none⟩, 1, 1⟩⟩).toArray 38 (0, 0)) := by rw [hw5]; exact heap_new2 _ _ _
    refine ⟨TRow.one e2, rfl, fun k rw G h1 h2 => ?_⟩
    have e0 : k = 0 := by have := get_lt h1; simpa using this
    subst e0
    cases h1; cases h2
    exact ⟨rfl, TRow.one e1, (fun e => by cases e), Nat.le_refl _⟩
  have MA := merge_any w5 (some ⟨w3.heap.size + 1, 0, none⟩) 1 1 _ _ Z5 (fun e => by cases e) (by omega) (fun G hG => by rw [List.mem_singleton.1 hG]; decide)
  have HW5 : Hid _ := hide hw5
  have HB5 : Hid (Below w.heap.size w w5) := hide (HB3.out.trans (b5.mono HB3.out.size))
  have HM5 : Hid _ := hide (HM3.out.below b5)
  have HZ5 : Hid _ := hide (HZ.out.below b5)
  clear hw5 b5 Z5
  go_wp2_with fail
  rw [← HW5.out]
  refine MA.mono ?_
  rintro r w6 ⟨v6, u6, e6, O6, rfl, mr6, o6, p6, b6⟩
  clear MA
  obtain ⟨e1, e2⟩ := mr6.uniq lit_gap
  subst e1; subst e2
  obtain ⟨a6, c6, hv6, -, -⟩ := own_form o6
  subst hv6
  have HB6 : Hid (Below w.heap.size w w6) := hide (HB5.out.trans (b6.mono HB5.out.size))
  have HM6 : Hid _ := hide (HM5.out.below b6)
  have HZ6 : Hid _ := hide (HZ5.out.below b6)
  clear mr6 o6 p6 b6
  by_cases hN0 : N = 0
  · have hL0 : L = [] := List.eq_nil_of_length_eq_zero (by rw [HLn.out]; exact hN0)
    have hM0 : M = 0 := by have h9 := HK.out.len; rw [HMK.out, hL0] at h9; simpa using h9
    clear hL0
    have HRET : Hid (Below w.heap.size w w6) := HB6
    subst hM0
    subst hN0
    go_wp2
    go_ret
    exact ⟨rfl, HRET.out⟩
  · have hNp : (0 : Int) < (N : Int) := by omega
    have hNb : ((N : Int) == 0) = false := by simp [hN0]
    have hNb2 : (N == 0) = false := by simp [hN0]
    have WI := within_any atv (N : Int) w6 hNp (by omega)
    go_wp2_with fail
    refine WI.mono ?_
    rintro r w6' ⟨⟨at0, rfl, h0, h1⟩, hwx⟩
    rw [hwx]
    clear WI hwx w6'
    obtain ⟨q, rfl⟩ : ∃ q : Nat, at0 = (q : Int) := ⟨at0.toNat, by omega⟩
    have hq : q < N := by omega
    have WO := without_any w6 a3 M c3 rws (rowsOf K L) (q : Int) HZ6.out (by omega) HGL.out
    go_wp2_with fail
    refine WO.mono ?_
    rintro r w7 ⟨v7, rs7, rfl, z7, b7⟩
    clear WO
    obtain ⟨a7, c7, hv7, hn7⟩ := z7.form
    obtain ⟨m7, hm7⟩ : ∃ m7, m7 = (wout (q : Int) (rowsOf K L)).length := ⟨_, rfl⟩
    rw [← hm7] at hv7 hn7
    subst hv7
    have hm7b : m7 ≤ M := by
      rw [hm7, HM.out]
      unfold wout
      refine Nat.le_trans (List.length_filter_le _ _) ?_
      rw [List.length_map]; exact Nat.le_refl _
    have HGw : ∀ G ∈ wout (q : Int) (rowsOf K L), G.2.length * 40 ≤ 140737488355328 := fun G hG => by
      unfold wout at hG
      obtain ⟨G', hG', rfl⟩ := List.mem_map.1 (List.mem_filter.1 hG).1
      have h8 := HGL.out G' hG'
      have h9 := List.length_filter_le (fun r : Rc => decide (r.stamp ≠ (q : Int))) G'.2
      dsimp only
      omega
    have MB := merge_any w7 a7 m7 c7 rs7 _ (z7.reads (by rw [z7.len, ← hm7])) hn7 (by omega) HGw
    have HB7 : Hid (Below w.heap.size w w7) := hide (HB6.out.trans (b7.mono HB6.out.size))
    have HM7 : Hid _ := hide (HM6.out.below b7)
    have HZ7 : Hid _ := hide (HZ6.out.below b7)
    clear z7 b7 hn7 hm7 hm7b HGw
    go_wp2_with fail
    refine MB.mono ?_
    rintro r w8 ⟨v8, u8, e8, O8, rfl, mr8, o8, p8, b8⟩
    clear MB
    have HB8 : Hid (Below w.heap.size w w8) := hide (HB7.out.trans (b8.mono HB7.out.size))
    have HM8 : Hid _ := hide (HM7.out.below b8)
    have HZ8 : Hid _ := hide (HZ7.out.below b8)
    obtain ⟨a8, c8, hv8, -, -⟩ := own_form o8
    obtain ⟨d8, f8, hu8, -, -⟩ := own_form p8
    rw [List.length_map] at hv8 hu8
    obtain ⟨n8, hn8⟩ : ∃ n8, n8 = (evs ((wout (q : Int) (rowsOf K L)).map Prod.fst) O8).length := ⟨_, rfl⟩
    rw [← hn8] at hv8 hu8
    subst hv8; subst hu8
    have hwN : IntKind.i64.wrap ((N : Int) - 1) = (N : Int) - 1 := by rw [IntKind.wrap_i64]; omega
    have HMR : Hid _ := hide mr8
    have HO8 : Hid _ := hide o8
    have HP8 : Hid _ := hide p8
    have HN8 : Hid _ := hide hn8
    clear mr8 o8 p8 b8 hn8
    have hM1 : 0 < M := by
      rcases Nat.eq_zero_or_pos M with h9 | h9
      · have h8 : K = [] := List.eq_nil_of_length_eq_zero (by rw [HMK.out]; exact h9)
        have h7 : L ≠ [] := fun e => hN0 (by rw [← HLn.out, e]; rfl)
        obtain ⟨x, hx⟩ := List.exists_mem_of_ne_nil _ h7
        have := (HK.out.mem x.1.g).2 ⟨x, hx, rfl⟩
        rw [h8] at this
        simp at this
      · exact h9
    obtain ⟨vb, vo, hvb, -⟩ : ∃ vb vo, va = some ⟨vb, vo, none⟩ ∧ True := by
      obtain ⟨vb, vo, e, _⟩ := (HM8.out.ev.row HN.out.symm).at (by omega)
      exact ⟨vb, vo, e, trivial⟩
    subst hvb
    obtain ⟨ub, uo, hub, -⟩ : ∃ ub uo, ua = some ⟨ub, uo, none⟩ ∧ True := by
      obtain ⟨ub, uo, e, _⟩ := (HM8.out.ids.row (by rw [HM8.out.len, HN.out])).at (by omega)
      exact ⟨ub, uo, e, trivial⟩
    subst hub
    have hqv : (q : Int) ≤ (vc : Int) := by have := HVC.out; omega
    have hqu : (q : Int) ≤ (uc : Int) := by have := HUC.out; omega
    go_upto_if 71 with fail
    go_cut [2] from 67 to 101 (fun s2 wx => s2 = .int .i64 (q : Int) ∧ Hid (Below w8.heap.size w8 wx))
    case first =>
      by_cases hlast : q + 1 < N
      · have hI : (q : Int) < (N : Int) - 1 := by omega
        have e1 : decide ((q : Int) < (N : Int) - 1) = true := decide_eq_true hI
        obtain ⟨ee, eO⟩ := HMR.out.uniq (wout_gap HK.out (by rw [HLn.out]; exact HNL.out) HGb.out q (by rw [HLn.out]; exact hlast))
        subst ee; subst eO
        have h8 : n8 = 0 := HN8.out
        subst h8
        clear hlast
        go_wp2_with fail
        go_meet
        exact ⟨rfl, hide (Below.refl _ _)⟩
      · have hq1 : q + 1 = N := by omega
        have hI : ¬ (q : Int) < (N : Int) - 1 := by omega
        have e1 : decide ((q : Int) < (N : Int) - 1) = false := decide_eq_false hI
        obtain ⟨K', hK', hW⟩ := wout_last HK.out q (by rw [HLn.out]; exact hq1)
        have htl : (L.take q).length = q := by rw [List.length_take, HLn.out]; omega
        have mr := HMR.out
        have o9 := HO8.out
        have p9 := HP8.out
        have h8 := HN8.out
        rw [hW] at mr o9 p9 h8
        obtain ⟨ee, eO⟩ := mr.uniq (Mres.trace hK' (by rw [htl]; have := HNL.out; omega) (fun e he => HGb.out e (List.mem_of_mem_take he)))
        subst ee
        rw [eO, (evs_trace hK').1] at o9
        rw [eO, (evs_trace hK').2] at p9
        have h8' : n8 = q := by
          have h7 := congrArg List.length (evs_trace hK').2
          rw [List.length_map, List.length_map, htl] at h7
          rw [h8, eO]; exact h7
        subst h8'
        have SB := sameB a8 (some ⟨vb, vo, none⟩) n8 c8 vc _ (fs.take n8) w8 (o9.row (by rw [List.length_map, htl])) ((HM8.out.ev.row HN.out.symm).cut n8 (by omega)) (by omega) (fun i x y hx hy => by
          rw [List.getElem?_map] at hx
          cases hL : (L.take n8)[i]? with
          | none => rw [hL] at hx; cases hx
          | some e =>
            rw [hL] at hx
            have hx := Option.some.inj hx
            rw [← HLf.out, ← List.map_take, List.getElem?_map, hL] at hy
            have hy := Option.some.inj hy
            subst hx; subst hy
            exact ⟨rfl, rfl, rfl, rfl, rfl⟩)
        have HP9 : Hid (Own layN 3 w8 w7.heap.size (.slice d8 n8 f8) (js.take n8)) := hide (by rw [← HLs.out, ← List.map_take]; exact p9)
        have HJL : Hid ((js.take n8).length = n8) := hide (by rw [List.length_take, HM8.out.len, ← HN.out]; omega)
        clear mr o9 p9 h8 eO hlast htl hW hK'
        go_wp2_with fail
        refine SB.mono ?_
        rintro r w9 ⟨rfl, b9⟩
        clear SB
        have SN := sameN d8 (some ⟨ub, uo, none⟩) n8 f8 uc (js.take n8) w9 ((HP9.out.below b9).row HJL.out) (((HM8.out.below b9).ids.row (by rw [HM8.out.len, HN.out])).cut n8 (by omega)) (by omega)
        have HB9 : Hid _ := hide b9
        clear b9
        go_wp2_with fail
        refine SN.mono ?_
        rintro r w10 ⟨rfl, b10⟩
        clear SN
        have HB10 : Hid (Below w8.heap.size w8 w10) := hide (HB9.out.trans (b10.mono HB9.out.size))
        clear b10
        go_wp2_with fail
        go_meet
        exact ⟨rfl, HB10⟩
    case rest =>
      obtain ⟨rfl, HBc⟩ := hcut
      have HBc8 : Hid (Below w.heap.size w wc) := hide (HB8.out.trans (HBc.out.mono HB8.out.size))
      have HMc : Hid _ := hide (HM8.out.below HBc.out)
      have HZc : Hid _ := hide (HZ8.out.below HBc.out)
      have hMI0 : (0 : Int) < (M : Int) := by omega
      have WR := within_any rowv (M : Int) wc hMI0 (by omega)
      clear hwN hqv hqu
      go_wp2_with fail
      refine WR.mono ?_
      rintro r wc' ⟨⟨ro0, rfl, h0r, h1r⟩, hwx⟩
      rw [hwx]
      clear WR hwx wc'
      obtain ⟨ro, rfl⟩ : ∃ q : Nat, ro0 = (q : Int) := ⟨ro0.toNat, by omega⟩
      have hro : ro < M := by omega
      obtain ⟨rw, hrw⟩ : ∃ rw, rws[ro]? = some rw := ⟨_, List.getElem?_eq_getElem (by rw [HRL.out]; exact hro)⟩
      obtain ⟨cg, hcg⟩ : ∃ cg, K[ro]? = some cg := ⟨_, List.getElem?_eq_getElem (by rw [HMK.out]; exact hro)⟩
      obtain ⟨y, hy⟩ : ∃ y, L[q]? = some y := ⟨_, List.getElem?_eq_getElem (by rw [HLn.out]; exact hq)⟩
      have hGr : (rowsOf K L)[ro]? = some (cg, recG cg L) := by unfold rowsOf; rw [List.getElem?_map, hcg]; rfl
      have hfy : fs[q]? = some y.1 := by rw [← HLf.out, List.getElem?_map, hy]; rfl
      obtain ⟨rb, rf, hrb, _, hrc⟩ := HZc.out.row.at hM1
      subst hrb
      have g0 := hrc ro rw hrw 0 _ rfl
      obtain ⟨_, _, heq, _, hvcc⟩ := (HMc.out.ev.row HN.out.symm).at (by omega)
      cases heq
      have g1 := hvcc q y.1 hfy 0 _ rfl
      have hgr := (HZc.out.each ro rw _ hrw hGr).1
      simp only [layW, layV, Nat.add_zero] at g0 g1
      rw [hgr] at g0
      dsimp only at g0
      have HRW : Hid _ := hide hrw
      have HCG : Hid _ := hide hcg
      have HY : Hid _ := hide hy
      have HGR : Hid _ := hide hGr
      clear hrw hcg hy hGr hfy hrc hvcc hgr
      have hroI : (ro : Int) < (M : Int) := by omega
      have hqI : (q : Int) < (N : Int) := by omega
      by_cases hE : cg = y.1.g
      · have hd : (cg == y.1.g) = true := by simp [hE]
        have HRET : Hid _ := hide HBc8.out
        go_wp2_with fail
        go_quiet (fail)
        go_wp2
        go_ret
        exact ⟨rfl, below_drewN HRET.out _⟩
      · have hd : (cg == y.1.g) = false := by simp [hE]
        by_cases hX : N = 1048576
        · have hx : ((N : Int) == 1048576) = true := by simp [hX]
          have hx2 : (N == 1048576) = true := by simp [hX]
          have HRET : Hid _ := hide HBc8.out
          have HX : Hid _ := hide hX
          clear hX
          go_wp2_with fail
          go_quiet (fail)
          go_wp2
          go_ret
          exact ⟨rfl, below_drewN HRET.out _⟩
        · have hx : ((N : Int) == 1048576) = false := by simp; omega
          have hx2 : (N == 1048576) = false := by simp [hX]
          have HX : Hid _ := hide hX
          have HE : Hid _ := hide hE
          clear hX
          go_wp2_with fail
          go_quiet (fail)
          generalize hwd : wc.drewN _ = wd
          have HBd : Hid (Below wc.heap.size wc wd) := hide (by rw [← hwd]; exact below_drewN (Below.refl _ _) _)
          clear hwd g0 g1 hd hx hx2
          have HBwd : Hid (Below w.heap.size w wd) := hide (HBc8.out.trans (HBd.out.mono HBc8.out.size))
          have TN := twins_any wd (some ⟨rb, rf, none⟩) M c3 rws (rowsOf K L) (HZc.out.below HBd.out) (by omega) HGL.out
          go_wp2_with fail
          refine TN.mono ?_
          rintro r w9 ⟨v9, rs9, rfl, z9, b9⟩
          clear TN
          obtain ⟨a9, c9, hv9, -⟩ := z9.form
          rw [← HM.out] at hv9
          subst hv9
          have hrl9 : rs9.length = M := by rw [z9.len, HM.out]
          obtain ⟨g9, c9', hv9, _, _, _⟩ := z9.own.frm (by rw [hrl9]; exact hM1)
          injection hv9 with e1 e2 e3
          subst e1
          obtain ⟨rw9, hrw9⟩ : ∃ rw, rs9[ro]? = some rw := ⟨_, List.getElem?_eq_getElem (by rw [hrl9]; exact hro)⟩
          obtain ⟨h91, h92⟩ := z9.each ro rw9 _ hrw9 HGR.out
          have HB9 : Hid (Below w.heap.size w w9) := hide (HBwd.out.trans (b9.mono HBwd.out.size))
          have HZ9 : Hid _ := hide z9
          have HRL9 : Hid _ := hide hrl9
          have HRW9 : Hid _ := hide hrw9
          obtain ⟨gg9, sa9, sn9, sc9⟩ := rw9
          dsimp only at h91 h92
          subst h91
          have hs9 : sn9 = (recG gg9 L).length := by obtain ⟨_, _, e, _, _⟩ := own_form h92; injection e
          have hs9b : sn9 ≤ 1048576 := by rw [hs9]; have := recG_len gg9 L; have := HLn.out; have := HNL.out; omega
          have p0 : w9.cell? ⟨g9, ro * 2 + 1, none⟩ = some (.slice sa9 sn9 sc9) := z9.own.cell HRW9.out 1 rfl
          have PT := put_any w9 sa9 sn9 sc9 (recG gg9 L) ⟨(q : Int), 9, 0, 0, 0⟩ (own_reads (s := ⟨sa9, sn9, sc9⟩) h92).1 (by omega)
          have hs9I : (sn9 : Int) ≤ 1048576 := by omega
          clear z9 b9 hrl9 hrw9 h92 hs9 e2 e3
          dsimp only at PT
          go_wp2_with fail
          refine PT.mono ?_
          rintro r w10 ⟨v10, rfl, o10, b10⟩
          clear PT
          obtain ⟨na, nc, hv10, -, -⟩ := own_form o10
          obtain ⟨nn, hnn⟩ : ∃ nn, nn = (putR (q : Int) ⟨(q : Int), 9, 0, 0, 0⟩ (recG gg9 L)).length := ⟨_, rfl⟩
          rw [← hnn] at hv10
          subst hv10
          have z10 := HZ9.out.below b10
          obtain ⟨cb, hcb⟩ := own_ty z10.own (b := g9) rfl
          have p10 : w10.cell? ⟨g9, ro * 2 + 1, none⟩ = some (.slice sa9 sn9 sc9) := z10.own.cell HRW9.out 1 rfl
          have fz10 := frz hcb (ro * 2 + 1)
          have ZR := z10.setRow HRL9.out HRW9.out HGR.out (s := ⟨na, nn, nc⟩) o10
          dsimp only at ZR
          have hmm : ∀ G ∈ (rowsOf K L).set ro (gg9, putR (q : Int) ⟨(q : Int), 9, 0, 0, 0⟩ (recG gg9 L)), G.2.length * 40 ≤ 140737488355328 := fun G hG => by
            rcases List.mem_or_eq_of_mem_set hG with h9 | h9
            · exact HGL.out G h9
            · rw [h9]
              have h8 := putR_len (q : Int) ⟨(q : Int), 9, 0, 0, 0⟩ (recG gg9 L)
              have h7 := recG_len gg9 L
              have := HLn.out
              have := HNL.out
              dsimp only
              omega
          have DB := dbl HK.out (by have h8 := HLn.out; have h9 := HNL.out; have h7 := HX.out; omega) HGb.out HY.out HCG.out HE.out (r := ⟨(q : Int), 9, 0, 0, 0⟩) rfl
          have HDB : Hid _ := hide DB
          have MC := merge_any _ (some ⟨g9, 0, none⟩) M c9 _ _ ZR (fun e => by cases e) (by omega) hmm
          have HBW : Hid (Below w.heap.size w (w10.setCell ⟨g9, ro * 2 + 1, none⟩ (.slice na nn nc))) := hide ((HB9.out.trans (b10.mono HB9.out.size)).trans ((but_setC w10 ⟨g9, ro * 2 + 1, none⟩ (.slice na nn nc)).below (Nat.le_trans HB9.out.size b10.size) (fun z hz => by have e : z = g9 := hz; have h9 := (HZ9.out.own.lt g9 rfl).1; have := HBwd.out.size; omega)))
          clear z10 hcb hmm ZR DB o10 b10 hnn p0
          go_wp2_with fail
          refine MC.mono ?_
          rintro r w11 ⟨v11, u11, e11, O11, rfl, mr11, o11, p11, b11⟩
          clear MC p10 fz10
          obtain ⟨ee, eO⟩ := mr11.uniq HDB.out
          subst ee; subst eO
          obtain ⟨a11, c11, hv11, -, -⟩ := own_form o11
          obtain ⟨d11, f11, hu11, -, -⟩ := own_form p11
          have hv11' : v11 = .slice a11 0 c11 := hv11
          have hu11' : u11 = .slice d11 0 f11 := hu11
          subst hv11'; subst hu11'
          have HBX : Hid (Below w.heap.size w w11) := hide (HBW.out.trans (b11.mono HBW.out.size))
          clear mr11 o11 p11 b11 hv11 hu11
          go_wp2
          go_ret
          exact ⟨rfl, HBX.out⟩
end Go.Proofs.Ytdlpffbeladgaaa
