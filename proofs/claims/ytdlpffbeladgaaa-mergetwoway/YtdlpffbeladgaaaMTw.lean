/-
  MergeTwoWay: the walk.
-/
import Derived.Test.YtdlpffbeladgaaaMrB
import Derived.Test.YtdlpffbeladgaaaMRm
namespace Go.Proofs.Ytdlpffbeladgaaa
open Go.RowKit
theorem zip_back {α β : Type} : ∀ L : List (α × β), (L.map Prod.fst).zip (L.map Prod.snd) = L
  | [] => rfl
  | x :: L => by rw [List.map_cons, List.map_cons, List.zip_cons_cons, zip_back L]
set_option maxRecDepth 8000 in
set_option maxHeartbeats 25600000 in
theorem mergeTwoWay (w : World) (a b : Option Addr) (n c m d : Nat) (es : List Vt) (is : List Int) (hr : TRow layV w a n es) (hS : ∀ e ∈ es, Stk w e) (hi : TRow layN w b m is) (hn : (n : Int) ≤ 9000000000000000000) (hm : (m : Int) ≤ 9000000000000000000)
    (a2' : Option Addr) (n2 c2' : Nat) (L2 : List Rw) (Gs2 : List (Int × List Rc)) (hz2 : Rdz w a2' n2 L2 Gs2) (hb2 : n2 * 32 ≤ 140737488355328) (hg2 : ∀ G ∈ Gs2, G.2.length * 40 ≤ 140737488355328) :
    Calls Try.prog 7 #[.slice a n c, .slice b m d, .slice a2' n2 c2'] w fun r w' => r = .returned (.bool true) ∧ Below w.heap.size w w' := by
  have MD := made_any w a b n c m d es is hr hi hS hn hm
  have HZ2 : Hid _ := hide hz2
  have HG2 : Hid _ := hide hg2
  have HN2 : Hid _ := hide hb2
  clear hr hi hS hz2 hg2 hb2
  go_enter Try.func7, Try.ntmps7
  go_wp2_with fail
  refine MD.mono ?_
  rintro r w1 ⟨v, u, fs, js, rfl, hmd, hl, hst, b1⟩
  clear MD
  obtain ⟨va, vc, hvv, hv0, -⟩ := own_form hmd.ev
  obtain ⟨ua, uc, huu, -, -⟩ := own_form hmd.ids
  rw [hmd.len] at huu
  obtain ⟨N, hN⟩ : ∃ N, N = fs.length := ⟨_, rfl⟩
  rw [← hN] at hvv huu hv0 hl
  subst hvv; subst huu
  have hNI : (N : Int) ≤ 1048576 := by omega
  have HNL : Hid _ := hide hl
  have HN : Hid _ := hide hN
  have HMD : Hid _ := hide hmd
  have HB1 : Hid _ := hide b1
  have TW := twin_any w1 va N vc fs (hmd.ev.row hN.symm) hv0 hst (by omega)
  clear hN hmd b1 hv0 hst hl
  go_wp2_with fail
  refine TW.mono ?_
  rintro r w2 ⟨v2, gs, rfl, o2, tw, b2⟩
  clear TW
  obtain ⟨a2, c2, hv2, -, -⟩ := own_form o2
  rw [tw.len, ← HN.out] at hv2
  subst hv2
  have HM2 : Hid _ := hide (HMD.out.below b2)
  have HB2 : Hid (Below w.heap.size w w2) := hide (HB1.out.trans (b2.mono HB1.out.size))
  have HTW : Hid _ := hide tw
  have SP := split_ok w2 a2 ua N c2 uc gs js (o2.row (by rw [tw.len, HN.out])) (HM2.out.ids.row (by rw [HMD.out.len, HN.out])) HNL.out (fun e he => by
    obtain ⟨i, hi⟩ := List.getElem?_of_mem he
    have hlt := get_lt hi
    rw [tw.len] at hlt
    have h9 := tw.each i _ e (List.getElem?_eq_getElem hlt) hi
    rw [h9.g]
    exact HMD.out.g _ (List.getElem_mem hlt))
  clear b2 o2 tw
  go_wp2_with fail
  refine SP.mono ?_
  rintro r w3 ⟨v3, rws, K, rfl, hK0, hz0, b3⟩
  clear SP
  obtain ⟨L, hL⟩ : ∃ L, L = fs.zip js := ⟨_, rfl⟩
  have hK : Gors K L := by rw [hL]; exact HTW.out.gors hK0
  have hz : Rowz w3 w2.heap.size v3 rws (rowsOf K L) := by
    have e9 : rowsOf K L = rowsOf K (gs.zip js) := by
      rw [hL]; unfold rowsOf
      exact List.map_congr_left (fun g _ => by rw [HTW.out.recG])
    rw [e9]; exact hz0
  obtain ⟨a3, c3, hv3, hn3⟩ := hz.form
  obtain ⟨M, hM⟩ : ∃ M, M = (rowsOf K L).length := ⟨_, rfl⟩
  rw [← hM] at hv3 hn3
  subst hv3
  have HLL : Hid _ := hide hL
  have HM : Hid _ := hide hM
  have HMK : Hid (K.length = M) := hide (by rw [hM]; unfold rowsOf; rw [List.length_map])
  have hzl : (fs.zip js).length = N := by rw [List.length_zip, HMD.out.len, HN.out]; omega
  have hMI : (M : Int) ≤ 1048576 := by
    have h9 := hK.len
    rw [HMK.out, hL, hzl] at h9
    have := HNL.out
    omega
  have HK : Hid _ := hide hK
  have HZ : Hid (Rdz w3 a3 M rws (rowsOf K L)) := hide (hz.reads (by rw [hz.len, hM]))
  have HRL : Hid (rws.length = M) := hide (by rw [hz.len, hM])
  have HM3 : Hid _ := hide (HM2.out.below b3)
  have HB3 : Hid (Below w.heap.size w w3) := hide (HB2.out.trans (b3.mono HB2.out.size))
  have HN3 : Hid (a3 = none → M = 0 ∧ c3 = 0) := hide hn3
  have HLn : Hid (L.length = N) := hide (by rw [hL, hzl])
  have HGb : Hid (∀ e ∈ L, 0 ≤ e.1.g ∧ e.1.g < 65536) := hide (fun e he => by rw [hL] at he; exact HMD.out.g _ (List.of_mem_zip he).1)
  have HLf : Hid (L.map Prod.fst = fs) := hide (by rw [hL, List.map_fst_zip]; rw [HMD.out.len]; exact Nat.le_refl _)
  have HLs : Hid (L.map Prod.snd = js) := hide (by rw [hL, List.map_snd_zip]; rw [HMD.out.len]; exact Nat.le_refl _)
  clear hK0 hz0 hz hL hK hM hzl b3 hn3
  have MT := merge_trace w3 a3 M c3 rws K L HZ.out HN3.out HK.out (by rw [HLn.out]; exact HNL.out) HGb.out
  go_wp2_with fail
  refine MT.mono ?_
  rintro r w4 ⟨v4, u4, rfl, o4, p4, b4⟩
  clear MT
  obtain ⟨a4, c4, hv4, -, -⟩ := own_form o4
  obtain ⟨d4, e4, hu4, -, -⟩ := own_form p4
  rw [List.length_map, HLn.out] at hv4 hu4
  subst hv4; subst hu4
  have HM4 : Hid _ := hide (HM3.out.below b4)
  have HZ4 : Hid _ := hide (HZ.out.below b4)
  have HB4 : Hid (Below w.heap.size w w4) := hide (HB3.out.trans (b4.mono HB3.out.size))
  have SB := sameB a4 va N c4 vc _ fs w4 (o4.row (by rw [List.length_map, HLn.out])) (HM4.out.ev.row HN.out.symm) (by omega) (fun i x y hx hy => by
    rw [List.getElem?_map] at hx
    cases hL : L[i]? with
    | none => rw [hL] at hx; cases hx
    | some e =>
      rw [hL] at hx
      have hx := Option.some.inj hx
      rw [← HLf.out, List.getElem?_map, hL] at hy
      have hy := Option.some.inj hy
      subst hx; subst hy
      exact ⟨rfl, rfl, rfl, rfl, rfl⟩)
  have HP4 : Hid _ := hide p4
  clear o4 p4 b4
  go_wp2_with fail
  refine SB.mono ?_
  rintro r w5 ⟨rfl, b5⟩
  clear SB
  have HM5 : Hid _ := hide (HM4.out.below b5)
  have HZ5 : Hid _ := hide (HZ4.out.below b5)
  have HB5 : Hid (Below w.heap.size w w5) := hide (HB4.out.trans (b5.mono HB4.out.size))
  have SN := sameN d4 ua N e4 uc js w5 (by rw [← HLs.out]; exact (HP4.out.below b5).row (by rw [List.length_map, HLn.out])) (HM5.out.ids.row (by rw [HMD.out.len, HN.out])) (by omega)
  clear b5
  go_wp2_with fail
  refine SN.mono ?_
  rintro r w6 ⟨rfl, b6⟩
  clear SN
  have HM6 : Hid _ := hide (HM5.out.below b6)
  have HZ6 : Hid _ := hide (HZ5.out.below b6)
  have HB6 : Hid (Below w.heap.size w w6) := hide (HB5.out.trans (b6.mono HB5.out.size))
  have hgl : ∀ G ∈ rowsOf K L, G.2.length * 40 ≤ 140737488355328 := fun G hG => by
    unfold rowsOf at hG
    obtain ⟨g, _, rfl⟩ := List.mem_map.1 hG
    have := recG_len g L
    have := HLn.out
    have := HNL.out
    dsimp only
    omega
  have NK := new_ok w6 a3 M c3 rws (rowsOf K L) HZ6.out HN3.out hgl (RowsOk.rows HK.out (by rw [HLn.out]; exact HNL.out) HGb.out)
  clear b6 hgl
  go_wp2_with fail
  refine NK.mono ?_
  rintro r w7 ⟨p, rv, ph, hv, rfl, M7, b7⟩
  clear NK
  have HB7 : Hid (Below w.heap.size w w7) := hide (HB6.out.trans (b7.mono HB6.out.size))
  have LF := left_any M7
  dsimp only at LF
  rw [tot_rows HK.out, HLn.out] at LF
  have TN := fun W (hb : Below w.heap.size w W) => twins_any W a2' n2 c2' L2 Gs2 (HZ2.out.below hb) HN2.out HG2.out
  have HTN : Hid _ := hide TN
  clear M7 b7 TN
  go_wp2_with fail
  refine LF.mono ?_
  rintro r W7 ⟨rfl, rfl⟩
  clear LF
  have TN := HTN.out W7 HB7.out
  clear HTN
  go_wp2_with fail
  refine TN.mono ?_
  rintro r w8 ⟨v8, rws8, rfl, z8, b8⟩
  clear TN
  have HB8 : Hid (Below w.heap.size w w8) := hide (HB7.out.trans (b8.mono HB7.out.size))
  obtain ⟨a8, c8, hv8, hn8⟩ := z8.form
  obtain ⟨M8, hM8⟩ : ∃ M8, M8 = Gs2.length := ⟨_, rfl⟩
  have e8 : M8 = n2 := by rw [hM8, ← HZ2.out.len, HZ2.out.row.len]
  rw [← hM8, e8] at hv8 hn8
  subst hv8
  have HG8 : Hid (Gs2.length = n2) := hide (by rw [← hM8]; exact e8)
  have ZR := z8.reads (by rw [z8.len, ← hM8]; exact e8)
  have MA := merge_any w8 a8 n2 c8 rws8 Gs2 ZR hn8 (by have := HN2.out; omega) HG2.out
  clear b8 z8 ZR hn8 e8 hM8 M8
  go_wp2_with fail
  refine MA.mono ?_
  rintro r w9 ⟨v9, u9, err, O, rfl, mr, o9, p9, b9⟩
  clear MA
  have HB9 : Hid (Below w.heap.size w w9) := hide (HB8.out.trans (b9.mono HB8.out.size))
  obtain ⟨a9, c9, hv9, -, -⟩ := own_form o9
  obtain ⟨d9, e9, hu9, -, -⟩ := own_form p9
  have hevl : (evs (Gs2.map Prod.fst) O).length = O.length := by unfold evs; rw [List.length_map]
  obtain ⟨NO, hNO⟩ : ∃ NO, NO = O.length := ⟨_, rfl⟩
  rw [List.length_map, hevl, ← hNO] at hv9 hu9
  subst hv9; subst hu9
  by_cases he : err = 0
  · subst he
    obtain ⟨q1, q2, q3⟩ := mr.ok
    have hNl : NO ≤ 1048576 := by rw [hNO]; exact mr.len
    have SP := split_ok w9 a9 d9 NO c9 e9 _ _ (o9.row (by rw [List.length_map, hevl, hNO])) (p9.row (by rw [List.length_map, hevl, hNO])) hNl (fun e he => by
      obtain ⟨x, hx, rfl⟩ := List.mem_map.1 he
      have h1 := (q2.mem x.1.g).2 ⟨x, hx, rfl⟩
      obtain ⟨G, hG, e5⟩ := List.mem_map.1 h1
      rw [← e5]
      exact q1.g G hG)
    have HQ2 : Hid _ := hide q2
    have HQ3 : Hid _ := hide q3
    have HZp : Hid ((List.map Prod.fst (evs (Gs2.map Prod.fst) O)).zip (List.map Prod.snd (evs (Gs2.map Prod.fst) O)) = evs (Gs2.map Prod.fst) O) := hide (zip_back _)
    clear mr o9 p9 b9 q1 q2 q3 hNO hevl hNl
    go_wp2_with fail
    refine SP.mono ?_
    rintro r w10 ⟨v10, rws10, K10, rfl, hK10, z10, b10⟩
    clear SP
    rw [HZp.out] at hK10 z10
    have eK := hK10.uniq HQ2.out
    subst eK
    rw [HQ3.out] at z10
    have HB10 : Hid (Below w.heap.size w w10) := hide (HB9.out.trans (b10.mono HB9.out.size))
    obtain ⟨a10, c10, hv10, -⟩ := z10.form
    rw [HG8.out] at hv10
    subst hv10
    have SR := sameRw a10 a2' n2 c10 c2' rws10 L2 Gs2 w10 (z10.reads (by rw [z10.len, HG8.out])) (HZ2.out.below HB10.out) (by have := HN2.out; omega) (fun G hG => by have := HG2.out G hG; omega)
    clear hK10 z10 b10
    go_wp2_with fail
    refine SR.mono ?_
    rintro r w11 ⟨rfl, b11⟩
    clear SR
    go_wp2
    go_ret
    exact ⟨rfl, HB10.out.trans (b11.mono HB10.out.size)⟩
  · have e5 := mr.none he
    subst e5
    rw [List.length_nil] at hNO
    subst hNO
    have hb1 : (err == 0) = false := by simp [he]
    have hb2' : (err != 0) = true := by simp [he]
    clear mr o9 p9 b9 hevl he
    go_wp2
    all_goals (go_ret; exact ⟨rfl, HB9.out⟩)
end Go.Proofs.Ytdlpffbeladgaaa
