import Derived.Test.YtpnacioliccglaaDoorZt13
import Derived.Laws.Concat
set_option maxRecDepth 8000
set_option maxHeartbeats 8000000
set_option linter.unusedVariables false
/-
  An event's line: the document's.
-/
namespace Go.Proofs.YtpnacioliccglaaDoor
open Go.RowKit Go.Maps Go.Shelf
set_option linter.unusedVariables false
theorem str_of {S : ByteArray} {L : List UInt8} (h : S.data.toList = L) : S = ⟨L.toArray⟩ := by
  subst h
  cases S
  simp
theorem app_list (a b : ByteArray) : (a ++ b).data.toList = a.data.toList ++ b.data.toList := by
  rw [ByteArray.data_append, Array.toList_append]
theorem sz_list (S : ByteArray) : S.size = S.data.toList.length := (Array.length_toList).symm
theorem add_str (a b : ByteArray) (h : a.data.toList.length + b.data.toList.length ≤ 9223372036854775807) : ∃ c : ByteArray, (∀ W, (Op.stringOp .add a b).run Tryd.prog W = .ok (.string c) W) ∧ c.data.toList = a.data.toList ++ b.data.toList :=
  ⟨a ++ b, fun W => run_string_add_sum W a b (by rw [sz_list a, sz_list b]; omega), app_list a b⟩
set_option maxRecDepth 8000 in
set_option maxHeartbeats 8000000 in
theorem rshown_any (g : Int) (k o a : Nat) (sa : Option Addr) (n sc : Nat) (ls : List ByteArray) (w : World) (hK : Dk w)
    (hg0 : 0 ≤ g) (hg1 : g < 65536) (hk0 : 1 ≤ k) (hk1 : k ≤ 22) (ho : o < 18446744073709551616) (ha : a < 18446744073709551616) (hn : n ≤ 16) (hsz : ∀ s ∈ ls, s.size ≤ 65536)
    (hS : E6.SRow w sa n ls) :
    Calls Tryd.prog 21 #[.agg #[.int .i64 g, .int .i64 (k : Int), .int .u64 (o : Int), .int .u64 (a : Int), .slice sa n sc]] w fun e w' => e = .returned (.string ⟨(linE g k o a ls).toArray⟩) ∧ Below w.heap.size w w' := by
  have hls := hS.len
  obtain ⟨W, hW⟩ : ∃ W, W = w.alloc (.cells #[.int .i64 g, .int .i64 (k : Int), .int .u64 (o : Int), .int .u64 (a : Int), .slice sa n sc] 25) := ⟨_, rfl⟩
  have hbW : Below w.heap.size w W := by rw [hW]; exact below_alloc1 _ _
  have hsW : w.heap.size ≤ W.heap.size := hbW.size
  have hbx : W.heap[w.heap.size]? = some (.cells #[.int .i64 g, .int .i64 (k : Int), .int .u64 (o : Int), .int .u64 (a : Int), .slice sa n sc] 25 (0, 0)) := by rw [hW]; exact heap_new _ _
  have hlt : w.heap.size < W.heap.size := (Array.getElem?_eq_some_iff.1 hbx).1
  have hKW := hK.below hbW hK.big
  have HbW := hide hbW
  have HBx := hide (fun (X : World) (h : Below W.heap.size W X) => (h.block _ hlt).trans hbx)
  have HKn := hide (E6.rname_any (k : Int) W)
  have HNv : Hid (E6.nameV (k : Int) = .tuple #[.string (E6.kname k), .int .i64 0]) := hide (by rw [E6.nameV, if_pos ⟨by omega, by omega⟩]; rfl)
  rw [HNv.out] at HKn
  have HS := hide (fun X (h : Below W.heap.size W X) => hS.bel (hbW.trans (h.mono hsW)))
  have HI := hide (fun X (h : Below W.heap.size W X) => it10_any g X (hKW.below h hKW.big) (by omega) (by omega))
  have HH := hide (fun X (h : Below W.heap.size W X) => fu_any o 16 _ X (ifu16 o X (hKW.below h hKW.big) ho))
  have HD := hide (fun X (h : Below W.heap.size W X) => fu_any a 10 _ X (ifu10 a X (hKW.below h hKW.big) ha))
  have HSx : Hid (∀ X, Below W.heap.size W X → X.cell? ⟨w.heap.size, 0, none⟩ = some (.int .i64 g) ∧ X.cell? ⟨w.heap.size, 2, none⟩ = some (.int .u64 (o : Int)) ∧ X.cell? ⟨w.heap.size, 3, none⟩ = some (.int .u64 (a : Int)) ∧ X.cell? ⟨w.heap.size, 4, none⟩ = some (.slice sa n sc)) := hide (fun X h => ⟨cell_at (HBx.out X h) rfl, cell_at (HBx.out X h) rfl, cell_at (HBx.out X h) rfl, cell_at (HBx.out X h) rfl⟩)
  have HLs := hide hls
  have hAl := itoa_len (z := g) (by omega) (by omega)
  have hHl := hexD_16 ho
  have hDl := dec_len20 ha
  have hNl : (E6.kname k).data.toList.length ≤ 8 := by have h := kname_len k (by omega); rw [sz_list] at h; exact h
  have HSz := hide (stkL_len hsz)
  have HSm := hide hsz
  have HLn : Hid (linE g k o a ls = linH g k o a ++ stkL ls n) := hide (by unfold linE; rw [hls])
  have HH' : Hid (linH g k o a = Lib.itoa g ++ [32] ++ (E6.kname k).data.toList ++ [32, 48, 120] ++ hexD o ++ [32] ++ Lib.decDigits a) := hide rfl
  obtain ⟨PA, hPA⟩ : ∃ P, Lib.itoa g = P := ⟨_, rfl⟩
  obtain ⟨PH, hPH⟩ : ∃ P, hexD o = P := ⟨_, rfl⟩
  obtain ⟨PD, hPD⟩ : ∃ P, Lib.decDigits a = P := ⟨_, rfl⟩
  obtain ⟨nm, hnm⟩ : ∃ m, E6.kname k = m := ⟨_, rfl⟩
  rw [hPA] at HH' HI hAl
  rw [hPH] at HH' HH hHl
  rw [hPD] at HH' HD hDl
  rw [hnm] at HH' HKn hNl
  obtain ⟨S1, r1, l1⟩ := add_str ⟨PA.toArray⟩ ⟨#[32]⟩ (by show PA.length + 1 ≤ _; omega)
  have l1 : S1.data.toList = PA ++ [32] := l1
  obtain ⟨S2, r2, l2⟩ := add_str S1 nm (by rw [l1]; simp only [List.length_append, List.length_cons, List.length_nil]; omega)
  rw [l1] at l2
  obtain ⟨S3, r3, l3⟩ := add_str S2 ⟨#[32, 48, 120]⟩ (by rw [l2]; show _ + 3 ≤ _; simp only [List.length_append, List.length_cons, List.length_nil]; omega)
  rw [l2] at l3
  have l3 : S3.data.toList = PA ++ [32] ++ nm.data.toList ++ [32, 48, 120] := l3
  obtain ⟨S4, r4, l4⟩ := add_str S3 ⟨PH.toArray⟩ (by rw [l3]; show _ + PH.length ≤ _; simp only [List.length_append, List.length_cons, List.length_nil]; omega)
  rw [l3] at l4
  have l4 : S4.data.toList = PA ++ [32] ++ nm.data.toList ++ [32, 48, 120] ++ PH := l4
  obtain ⟨S5, r5, l5⟩ := add_str S4 ⟨#[32]⟩ (by rw [l4]; show _ + 1 ≤ _; simp only [List.length_append, List.length_cons, List.length_nil]; omega)
  rw [l4] at l5
  have l5 : S5.data.toList = PA ++ [32] ++ nm.data.toList ++ [32, 48, 120] ++ PH ++ [32] := l5
  obtain ⟨S6, r6, l6⟩ := add_str S5 ⟨PD.toArray⟩ (by rw [l5]; show _ + PD.length ≤ _; simp only [List.length_append, List.length_cons, List.length_nil]; omega)
  rw [l5] at l6
  have l6 : S6.data.toList = PA ++ [32] ++ nm.data.toList ++ [32, 48, 120] ++ PH ++ [32] ++ PD := l6
  have HL6 : Hid (S6.data.toList = linH g k o a) := hide (by rw [l6, HH'.out])
  have HL6n : Hid ((linH g k o a).length ≤ 70) := hide (by rw [HH'.out]; simp only [List.length_append, List.length_cons, List.length_nil]; omega)
  clear l1 l2 l3 l4 l5 l6 hAl hHl hDl hNl
  have hnI : (n : Int) ≤ 16 := by omega
  have HW := hide hW
  have hk1I : (k : Int) ≤ 22 := by omega
  clear hPA hPH hPD hnm hbW hbx hKW hK hls hsz hS hg0 hg1 ho ha HNv hn hk0 hk1 hW hlt hsW
  go_enter Tryd.func21, Tryd.ntmps21
  go_wp2_with fail
  rw [← HW.out]
  refine HKn.out.mono ?_
  rintro x w1 ⟨rfl, hb1⟩
  have HB1 := hide hb1
  have HBd := hide hb1.drew
  clear hb1 HKn
  go_wp2_with fail
  go_region_held3 (fun X => X.cell? ⟨w.heap.size, 0, none⟩ = some (.int .i64 g) ∧ X.cell? ⟨w.heap.size, 2, none⟩ = some (.int .u64 (o : Int)) ∧ X.cell? ⟨w.heap.size, 3, none⟩ = some (.int .u64 (a : Int)))
    (first
      | (have h9 := HSx.out _ HBd.out; with_reducible exact ⟨h9.1, h9.2.1, h9.2.2.1⟩)
      | (have h9 := HSx.out _ HB1.out; with_reducible exact ⟨h9.1, h9.2.1, h9.2.2.1⟩)
      | (have h9 := HSx.out _ HB4.out; with_reducible exact ⟨h9.1, h9.2.1, h9.2.2.1⟩)
      | (have h9 := HSx.out _ HB3.out; with_reducible exact ⟨h9.1, h9.2.1, h9.2.2.1⟩)
      | (have h9 := HSx.out _ HB2.out; with_reducible exact ⟨h9.1, h9.2.1, h9.2.2.1⟩))
    (first
      | (go_at_call 42; go_must (refine (HI.out _ HBd.out).mono ?_; rintro e9 w2 ⟨rfl, h2⟩; have HB2 : Hid (Below W.heap.size W w2) := hide (HBd.out.trans (h2.mono HBd.out.size)); clear h2))
      | (go_at_call 43; first
          | (refine (HD.out _ HB3.out).mono ?_; rintro e9 w4 ⟨rfl, h4⟩; have HB4 : Hid (Below W.heap.size W w4) := hide (HB3.out.trans (h4.mono HB3.out.size)); clear h4)
          | (refine (HH.out _ HB2.out).mono ?_; rintro e9 w3 ⟨rfl, h3⟩; have HB3 : Hid (Below W.heap.size W w3) := hide (HB2.out.trans (h3.mono HB2.out.size)); clear h3)))
  have HB4x := hide HB4.out
  have c4 := (HSx.out _ HB4.out).2.2.2
  clear r1 r2 r3 r4 r5 r6
  go_wp2
  clear c4
  go_loopw [5, 6] (fun s5 s6 wr => ∃ (j : Nat) (S : ByteArray), j ≤ n ∧ s5 = .string S ∧ s6 = .int .i64 j ∧ Hid (S.data.toList = linH g k o a ++ stkL ls j ∧ Below W.heap.size W wr)) (fun _ s _ => n - (intOf s).toNat)
  case atStart => exact ⟨0, S6, Nat.zero_le _, rfl, rfl, hide ⟨by rw [stkL, List.append_nil]; exact HL6.out, HB4.out⟩⟩
  case round =>
    obtain ⟨j, S, hj, rfl, rfl, HJ⟩ := hrel
    have c4 := (HSx.out _ HJ.out.2).2.2.2
    by_cases hlt : j < n
    · have hjI : (j : Int) < n := by omega
      have hj0 : (0 : Int) ≤ j := by omega
      obtain ⟨b1, o1, e1, d1⟩ := (HS.out wr HJ.out.2).at hlt
      obtain ⟨Z, hZ⟩ : ∃ Z, ls.getD j ByteArray.empty = Z := ⟨_, rfl⟩
      rw [hZ] at d1
      have HZs : Hid (Z.size ≤ 65536) := hide (HSm.out Z (by
        rw [← hZ, List.getD_eq_getElem?_getD, List.getElem?_eq_getElem (by rw [HLs.out]; exact hlt)]
        exact List.getElem_mem _))
      have HX : Hid (stkL ls (j + 1) = stkL ls j ++ [32] ++ wrd Z) := hide (by rw [stkL, hZ])
      have hl : S.data.toList.length ≤ 70 + 262147 * j := by rw [HJ.out.1, List.length_append]; have := HL6n.out; have := HSz.out j (by rw [HLs.out]; exact hj); omega
      have hzl : (wrd Z).length ≤ 262146 := by have h1 := wrd_len Z; have := HZs.out; omega
      obtain ⟨S7, r7, l7⟩ := add_str S ⟨#[32]⟩ (by show _ + 1 ≤ _; omega)
      have l7 : S7.data.toList = S.data.toList ++ [32] := l7
      obtain ⟨S8, r8, l8⟩ := add_str S7 ⟨(wrd Z).toArray⟩ (by rw [l7, List.length_append]; show _ + 1 + (wrd Z).length ≤ _; omega)
      have l8 : S8.data.toList = S7.data.toList ++ wrd Z := l8
      have HJ2 : Hid (∀ X, Below W.heap.size W X → S8.data.toList = linH g k o a ++ stkL ls (j + 1) ∧ Below W.heap.size W X) := hide (fun X hX => ⟨by rw [l8, l7, HJ.out.1, HX.out]; simp only [List.append_assoc], hX⟩)
      have HQ := hide (rquote_any Z wr (by have := HZs.out; omega))
      subst e1
      clear hZ hl hzl l7 l8
      go_wp2_with fail
      refine HQ.out.mono ?_
      rintro x w5 ⟨rfl, f5⟩
      have HJ3 := hide (HJ2.out w5 (HJ.out.2.trans (f5.bel.mono HJ.out.2.size)))
      clear f5 HQ HJ2
      go_wp2
      exact ⟨⟨j + 1, S8, by omega, rfl, by go_num, HJ3⟩, by simp [intOf]; omega⟩
    · have h9 : j = n := by omega
      subst h9
      have hjI : ¬ (j : Int) < j := by omega
      have HF : Hid (S = ⟨(linE g k o a ls).toArray⟩ ∧ Below w.heap.size w wr) := hide ⟨str_of (by rw [HLn.out]; exact HJ.out.1), HbW.out.trans (HJ.out.2.mono HbW.out.size)⟩
      clear hlt
      go_wp2
      go_ret
      exact ⟨by rw [HF.out.1]; rfl, HF.out.2⟩
end Go.Proofs.YtpnacioliccglaaDoor
/-
  Line: the program's and the document's.
-/
namespace Go.Proofs.YtpnacioliccglaaDoor
open Go.RowKit Go.Maps Go.Shelf
set_option linter.unusedVariables false
/-- What Line answers. -/
noncomputable def lnV (g k o a : Int) (ls : List ByteArray) : Value := if E6.chk g k o a ls = 0 then .tuple #[.string ⟨(linE g k.toNat o.toNat a.toNat ls).toArray⟩, .int .i64 0] else .tuple #[.string ⟨#[]⟩, .int .i64 (E6.chk g k o a ls)]
theorem chk_good {g k o a : Int} {ls : List ByteArray} (h : E6.chk g k o a ls = 0) : (1 ≤ k ∧ k ≤ 22) ∧ 0 ≤ g ∧ g < 65536 ∧ ls.length ≤ 16 ∧ ∀ s ∈ ls, s.size ≤ 65536 := by
  unfold E6.chk at h
  by_cases h1 : 1 ≤ k ∧ k ≤ 22
  · rw [if_pos h1] at h
    by_cases h2 : g < 0 ∨ 65536 ≤ g
    · rw [if_pos h2] at h; exact absurd h (by decide)
    · rw [if_neg h2] at h
      by_cases h3 : E6.objB k.toNat o a = true
      · rw [if_pos h3] at h
        by_cases h4 : E6.argB k.toNat a = true
        · rw [if_pos h4] at h
          by_cases h5 : E6.stkB ls = true
          · have hl : ls.length ≤ 16 := by
              rcases Nat.lt_or_ge 16 ls.length with h6 | h6
              · rw [E6.stkB_deep rfl h6] at h5; cases h5
              · exact h6
            rw [E6.stkB_all rfl hl, List.all_eq_true] at h5
            exact ⟨h1, by omega, by omega, hl, fun s hs => of_decide_eq_true (h5 s hs)⟩
          · rw [if_neg h5] at h; exact absurd h (by decide)
        · rw [if_neg h4] at h; exact absurd h (by decide)
      · rw [if_neg h3] at h; exact absurd h (by decide)
  · rw [if_neg h1] at h; exact absurd h (by decide)
set_option maxRecDepth 8000 in
set_option maxHeartbeats 4000000 in
theorem line_any (g k o a : Int) (sa : Option Addr) (n sc : Nat) (ls : List ByteArray) (w : World) (hK : Dk w) (hr : E6.SRow w sa n ls) (hn : (n : Int) ≤ 9223372036854775806) (ho : 0 ≤ o ∧ o ≤ 18446744073709551615) (ha : 0 ≤ a ∧ a ≤ 18446744073709551615) :
    Calls Tryd.prog 7 #[.agg #[.int .i64 g, .int .i64 k, .int .u64 o, .int .u64 a, .slice sa n sc]] w fun e w' => e = .returned (lnV g k o a ls) ∧ Below w.heap.size w w' := by
  obtain ⟨W, hW⟩ : ∃ W, W = w.alloc (.cells #[.int .i64 g, .int .i64 k, .int .u64 o, .int .u64 a, .slice sa n sc] 25) := ⟨_, rfl⟩
  have hbW : Below w.heap.size w W := by rw [hW]; exact below_alloc1 _ _
  have hsW := hbW.size
  have hbx : W.heap[w.heap.size]? = some (.cells #[.int .i64 g, .int .i64 k, .int .u64 o, .int .u64 a, .slice sa n sc] 25 (0, 0)) := by rw [hW]; exact heap_new _ _
  have hlt : w.heap.size < W.heap.size := (Array.getElem?_eq_some_iff.1 hbx).1
  have hKW := hK.below hbW hK.big
  have HCk := hide (E6.check_any g k o a sa n sc ls W hKW.kr (hr.bel hbW) hn)
  have HBx := hide (fun (X : World) (h : Below W.heap.size W X) => (h.block _ hlt).trans hbx)
  have HbW := hide hbW
  have HW := hide hW
  obtain ⟨V, hV⟩ : ∃ V, lnV g k o a ls = V := ⟨_, rfl⟩
  rw [hV]
  have HV := hide hV
  obtain ⟨F, hF⟩ : ∃ F, E6.chk g k o a ls = F := ⟨_, rfl⟩
  rw [hF] at HCk
  by_cases h0 : F = 0
  · obtain ⟨⟨k1, k2⟩, g0, g1, hl, hs⟩ := chk_good (hF.trans h0)
    have hVe : V = .tuple #[.string ⟨(linE g k.toNat o.toNat a.toNat ls).toArray⟩, .int .i64 0] := by rw [← hV, lnV, if_pos (hF.trans h0)]
    subst h0
    have HA := hide (fun (X : World) (h : Below W.heap.size W X) => aline_any X.heap.size (.slice none 0 0) [] g k.toNat o.toNat a.toNat sa n sc ls X (hKW.below h hKW.big) (Nat.le_trans hKW.big h.size) g0 g1 (by omega) (by omega) (by omega) (by omega) (by rw [← hr.len]; exact hl) hr.len hs (fun Y hY => ((hr.bel hbW).bel h).bel (hY)) (Own.nil _ _ _ _) (by simp) (Nat.le_refl _))
    rw [show ((k.toNat : Nat) : Int) = k by omega, show ((o.toNat : Nat) : Int) = o by omega, show ((a.toNat : Nat) : Int) = a by omega] at HA
    obtain ⟨S, hS⟩ : ∃ S, linE g k.toNat o.toNat a.toNat ls = S := ⟨_, rfl⟩
    rw [hS] at HA hVe
    have HVe := hide hVe
    clear hW hbx hlt hKW hbW hsW hK hr hF hV HV k1 k2 g0 g1 hl hs ho ha hS hVe
    go_enter Tryd.func7, Tryd.ntmps7
    go_wp2_with fail
    rw [← HW.out]
    refine HCk.out.mono ?_
    rintro x w1 ⟨rfl, hb1⟩
    have HB1 := hide hb1
    have hbx1 := HBx.out w1 hb1
    have c0 := cell_at hbx1 (i := 0) rfl
    have c1 := cell_at hbx1 (i := 1) rfl
    have c2 := cell_at hbx1 (i := 2) rfl
    have c3 := cell_at hbx1 (i := 3) rfl
    have c4 := cell_at hbx1 (i := 4) rfl
    have HA1 := hide (HA.out w1 hb1)
    clear hbx1 hb1 HCk HA
    go_wp2_with fail
    refine HA1.out.mono ?_
    rintro x w2 ⟨v2, rfl, o2, f2⟩
    have hcv := conv_own o2
    rw [List.nil_append] at hcv
    have HB2 := hide (HbW.out.trans ((HB1.out.trans (f2.bel.mono HB1.out.size)).mono HbW.out.size))
    clear o2 f2 HA1 c0 c1 c2 c3 c4
    go_wp2
    go_ret2
    exact ⟨by rw [HVe.out]; rfl, HB2.out⟩
  · have hb : (F != 0) = true := by simp [h0]
    have HVe : Hid (V = .tuple #[.string ⟨#[]⟩, .int .i64 F]) := hide (by rw [← hV, lnV, if_neg (by rw [hF]; exact h0), hF])
    clear hW hbx hlt hKW hbW hsW hK hr hF hV HV h0 ho ha
    go_enter Tryd.func7, Tryd.ntmps7
    go_wp2_with fail
    rw [← HW.out]
    refine HCk.out.mono ?_
    rintro x w1 ⟨rfl, hb1⟩
    have HB1 := hide (HbW.out.trans (hb1.mono HbW.out.size))
    clear hb1 HCk
    go_wp2
    go_ret2
    exact ⟨by rw [HVe.out]; rfl, HB1.out⟩
set_option maxRecDepth 8000 in
set_option maxHeartbeats 4000000 in
theorem rline_any (g k o a : Int) (sa : Option Addr) (n sc : Nat) (ls : List ByteArray) (w : World) (hK : Dk w) (hr : E6.SRow w sa n ls) (hn : (n : Int) ≤ 9223372036854775806) (ho : 0 ≤ o ∧ o ≤ 18446744073709551615) (ha : 0 ≤ a ∧ a ≤ 18446744073709551615) :
    Calls Tryd.prog 8 #[.agg #[.int .i64 g, .int .i64 k, .int .u64 o, .int .u64 a, .slice sa n sc]] w fun e w' => e = .returned (lnV g k o a ls) ∧ Below w.heap.size w w' := by
  obtain ⟨W, hW⟩ : ∃ W, W = w.alloc (.cells #[.int .i64 g, .int .i64 k, .int .u64 o, .int .u64 a, .slice sa n sc] 25) := ⟨_, rfl⟩
  have hbW : Below w.heap.size w W := by rw [hW]; exact below_alloc1 _ _
  have hsW := hbW.size
  have hbx : W.heap[w.heap.size]? = some (.cells #[.int .i64 g, .int .i64 k, .int .u64 o, .int .u64 a, .slice sa n sc] 25 (0, 0)) := by rw [hW]; exact heap_new _ _
  have hlt : w.heap.size < W.heap.size := (Array.getElem?_eq_some_iff.1 hbx).1
  have hKW := hK.below hbW hK.big
  have HCk := hide (E6.rcheck_any g k o a sa n sc ls W (hr.bel hbW) hn ho ha)
  have HBx := hide (fun (X : World) (h : Below W.heap.size W X) => (h.block _ hlt).trans hbx)
  have HbW := hide hbW
  have HW := hide hW
  obtain ⟨V, hV⟩ : ∃ V, lnV g k o a ls = V := ⟨_, rfl⟩
  rw [hV]
  obtain ⟨F, hF⟩ : ∃ F, E6.chk g k o a ls = F := ⟨_, rfl⟩
  rw [hF] at HCk
  by_cases h0 : F = 0
  · obtain ⟨⟨k1, k2⟩, g0, g1, hl, hs⟩ := chk_good (hF.trans h0)
    have hVe : V = .tuple #[.string ⟨(linE g k.toNat o.toNat a.toNat ls).toArray⟩, .int .i64 0] := by rw [← hV, lnV, if_pos (hF.trans h0)]
    subst h0
    have HA := hide (fun (X : World) (h : Below W.heap.size W X) => rshown_any g k.toNat o.toNat a.toNat sa n sc ls X (hKW.below h hKW.big) g0 g1 (by omega) (by omega) (by omega) (by omega) (by rw [← hr.len]; exact hl) hs ((hr.bel hbW).bel h))
    rw [show ((k.toNat : Nat) : Int) = k by omega, show ((o.toNat : Nat) : Int) = o by omega, show ((a.toNat : Nat) : Int) = a by omega] at HA
    obtain ⟨S, hS⟩ : ∃ S, linE g k.toNat o.toNat a.toNat ls = S := ⟨_, rfl⟩
    rw [hS] at HA hVe
    have HVe := hide hVe
    clear hW hbx hlt hKW hbW hsW hK hr hF hV k1 k2 g0 g1 hl hs ho ha hS hVe
    go_enter Tryd.func8, Tryd.ntmps8
    go_wp2_with fail
    rw [← HW.out]
    refine HCk.out.mono ?_
    rintro x w1 ⟨rfl, hb1⟩
    have HB1 := hide hb1
    have hbx1 := HBx.out w1 hb1
    have c0 := cell_at hbx1 (i := 0) rfl
    have c1 := cell_at hbx1 (i := 1) rfl
    have c2 := cell_at hbx1 (i := 2) rfl
    have c3 := cell_at hbx1 (i := 3) rfl
    have c4 := cell_at hbx1 (i := 4) rfl
    have HA1 := hide (HA.out w1 hb1)
    clear hbx1 hb1 HCk HA
    go_wp2_with fail
    refine HA1.out.mono ?_
    rintro x w2 ⟨rfl, b2⟩
    have HB2 := hide (HbW.out.trans ((HB1.out.trans (b2.mono HB1.out.size)).mono HbW.out.size))
    clear b2 HA1 c0 c1 c2 c3 c4
    go_wp2
    go_ret2
    exact ⟨by rw [HVe.out]; rfl, HB2.out⟩
  · have hb : (F != 0) = true := by simp [h0]
    have HVe : Hid (V = .tuple #[.string ⟨#[]⟩, .int .i64 F]) := hide (by rw [← hV, lnV, if_neg (by rw [hF]; exact h0), hF])
    clear hW hbx hlt hKW hbW hsW hK hr hF hV h0 ho ha
    go_enter Tryd.func8, Tryd.ntmps8
    go_wp2_with fail
    rw [← HW.out]
    refine HCk.out.mono ?_
    rintro x w1 ⟨rfl, hb1⟩
    have HB1 := hide (HbW.out.trans (hb1.mono HbW.out.size))
    clear hb1 HCk
    go_wp2
    go_ret2
    exact ⟨by rw [HVe.out]; rfl, HB1.out⟩
end Go.Proofs.YtpnacioliccglaaDoor
/-
  The law's own comparisons: texts, events, and the room behind a stack.
-/
namespace Go.Proofs.YtpnacioliccglaaDoor
open Go.RowKit Go.Maps Go.Shelf
set_option linter.unusedVariables false
def eqT (A B : List ByteArray) : Bool := decide (A.map ByteArray.data = B.map ByteArray.data)
theorem map_data_inj {A B : List ByteArray} (h : A.map ByteArray.data = B.map ByteArray.data) : A = B := by
  induction A generalizing B with
  | nil => cases B; rfl; simp at h
  | cons x A ih =>
    cases B with
    | nil => simp at h
    | cons y B =>
      simp at h
      rw [ih h.2]
      cases x; cases y; simp at h; rw [h.1]
theorem eqT_iff {A B : List ByteArray} : eqT A B = true ↔ A = B := by
  unfold eqT; rw [decide_eq_true_eq]
  exact ⟨map_data_inj, fun h => by rw [h]⟩
theorem eqT_self (A : List ByteArray) : eqT A A = true := eqT_iff.2 rfl
set_option maxRecDepth 4000 in
/-- Texts that are the same. -/
theorem tsame_any (a b : Option Addr) (n ca cb : Nat) (A : List ByteArray) (w : World) (hA : E6.SRow w a n A) (hB : E6.SRow w b n A) (hn : (n : Int) ≤ 9223372036854775806) :
    Calls Tryd.prog 44 #[.slice a n ca, .slice b n cb] w fun e w' => e = .returned (.bool true) ∧ Below w.heap.size w w' := by
  have H1 : Hid (E6.SRow w a n A) := hA
  have H2 : Hid (E6.SRow w b n A) := hB
  clear hA hB
  go_enter Tryd.func44, Tryd.ntmps44
  go_wp2
  go_loopw [5] (fun i wr => ∃ k q : Nat, k ≤ n ∧ i = .int .i64 k ∧ wr = w.drewN q) (fun i _ => n - (intOf i).toNat)
  case atStart => exact ⟨0, 0, Nat.zero_le _, rfl, rfl⟩
  case round =>
    obtain ⟨k, q, hk, rfl, hw⟩ := hrel
    have HW : Hid (wr = w.drewN q) := hw
    have H1r : Hid (E6.SRow wr a n A) := hide (by rw [hw]; exact H1.out.drewN q)
    have H2r : Hid (E6.SRow wr b n A) := hide (by rw [hw]; exact H2.out.drewN q)
    clear hw
    by_cases hlt : k < n
    · obtain ⟨b1, o1, rfl, hc1⟩ := H1r.out.at hlt
      obtain ⟨b2, o2, rfl, hc2⟩ := H2r.out.at hlt
      generalize A.getD k ByteArray.empty = x at hc1 hc2
      have hne : (x.toList != x.toList) = false := by simp
      go_wp2
      go_quiet (fail)
      go_wp2
      exact ⟨⟨k + 1, q + nq, by omega, by go_num, by rw [HW.out]; exact World.drewN_drewN _ _ _⟩, by simp [intOf]; omega⟩
    · go_wp2
      go_ret
      exact ⟨rfl, by rw [HW.out]; exact below_drewN (Below.refl _ _) q⟩
set_option maxRecDepth 4000 in
set_option maxHeartbeats 2000000 in
/-- An event, and another with the same stack elsewhere. -/
theorem dsame_any (g k o a : Int) (sa : Option Addr) (n sc : Nat) (sa' : Option Addr) (sc' : Nat) (ls : List ByteArray) (w : World) (hr : E6.SRow w sa n ls) (hr' : E6.SRow w sa' n ls) (hn : (n : Int) ≤ 9223372036854775806) :
    Calls Tryd.prog 22 #[.agg #[.int .i64 g, .int .i64 k, .int .u64 o, .int .u64 a, .slice sa n sc], .agg #[.int .i64 g, .int .i64 k, .int .u64 o, .int .u64 a, .slice sa' n sc']] w fun e w' => e = .returned (.bool true) ∧ Below w.heap.size w w' := by
  obtain ⟨W, hW⟩ : ∃ W, W = (w.alloc (.cells #[.int .i64 g, .int .i64 k, .int .u64 o, .int .u64 a, .slice sa n sc] 25)).alloc (.cells #[.int .i64 g, .int .i64 k, .int .u64 o, .int .u64 a, .slice sa' n sc'] 25) := ⟨_, rfl⟩
  have hbW : Below w.heap.size w W := by rw [hW]; exact below_alloc2 _ _ _
  have h1 : W.heap[w.heap.size]? = some (.cells #[.int .i64 g, .int .i64 k, .int .u64 o, .int .u64 a, .slice sa n sc] 25 (0, 0)) := by rw [hW]; exact ((below_alloc1 _ _).block _ (by simp)).trans (heap_new _ _)
  have h2 : W.heap[w.heap.size + 1]? = some (.cells #[.int .i64 g, .int .i64 k, .int .u64 o, .int .u64 a, .slice sa' n sc'] 25 (0, 0)) := by rw [hW]; exact heap_new2 _ _ _
  have c0 := cell_at h1 (i := 0) rfl
  have c1 := cell_at h1 (i := 1) rfl
  have c2 := cell_at h1 (i := 2) rfl
  have c3 := cell_at h1 (i := 3) rfl
  have c4 := cell_at h1 (i := 4) rfl
  have d0 := cell_at h2 (i := 0) rfl
  have d1 := cell_at h2 (i := 1) rfl
  have d2 := cell_at h2 (i := 2) rfl
  have d3 := cell_at h2 (i := 3) rfl
  have d4 := cell_at h2 (i := 4) rfl
  have HT := hide (tsame_any sa sa' n sc sc' ls W (hr.bel hbW) (hr'.bel hbW) hn)
  have HbW := hide hbW
  have HW := hide hW
  clear hW h1 h2 hbW hr hr'
  have e1 : (g == g) = true := by simp
  have e2 : (k == k) = true := by simp
  have e3 : (o == o) = true := by simp
  have e4 : (a == a) = true := by simp
  go_enter Tryd.func22, Tryd.ntmps22
  go_wp2_with fail
  rw [← HW.out]
  refine HT.out.mono ?_
  rintro x w2 ⟨rfl, hb⟩
  have HB := hide (HbW.out.trans (hb.mono HbW.out.size))
  clear hb
  go_wp2
  go_ret
  exact ⟨rfl, HB.out⟩
set_option maxRecDepth 8000 in
set_option maxHeartbeats 4000000 in
/-- The event is as it was, and the room behind its stack. -/
theorem kept_any (g k o a : Int) (rb rc n : Nat) (sa : Option Addr) (sc : Nat) (ls : List ByteArray) (w : World) (hr : E6.SRow w (some ⟨rb, 0, none⟩) n ls) (hr' : E6.SRow w sa n ls)
    (hroom : ∀ i, i < 70 → w.cell? ⟨rb, n + i, none⟩ = some (.string ⟨#[114, 111, 111, 109]⟩)) (hc : n + 70 ≤ rc) (hn : (n : Int) ≤ 8796093021952) :
    Calls Tryd.prog 9 #[.agg #[.int .i64 g, .int .i64 k, .int .u64 o, .int .u64 a, .slice (some ⟨rb, 0, none⟩) n rc], .agg #[.int .i64 g, .int .i64 k, .int .u64 o, .int .u64 a, .slice sa n sc]] w fun e w' => e = .returned (.bool true) ∧ Below w.heap.size w w' := by
  obtain ⟨W, hW⟩ : ∃ W, W = (w.alloc (.cells #[.int .i64 g, .int .i64 k, .int .u64 o, .int .u64 a, .slice (some ⟨rb, 0, none⟩) n rc] 25)).alloc (.cells #[.int .i64 g, .int .i64 k, .int .u64 o, .int .u64 a, .slice sa n sc] 25) := ⟨_, rfl⟩
  have hbW : Below w.heap.size w W := by rw [hW]; exact below_alloc2 _ _ _
  have h1 : W.heap[w.heap.size]? = some (.cells #[.int .i64 g, .int .i64 k, .int .u64 o, .int .u64 a, .slice (some ⟨rb, 0, none⟩) n rc] 25 (0, 0)) := by rw [hW]; exact ((below_alloc1 _ _).block _ (by simp)).trans (heap_new _ _)
  have h2 : W.heap[w.heap.size + 1]? = some (.cells #[.int .i64 g, .int .i64 k, .int .u64 o, .int .u64 a, .slice sa n sc] 25 (0, 0)) := by rw [hW]; exact heap_new2 _ _ _
  have c0 := cell_at h1 (i := 0) rfl
  have c1 := cell_at h1 (i := 1) rfl
  have c2 := cell_at h1 (i := 2) rfl
  have c3 := cell_at h1 (i := 3) rfl
  have c4 := cell_at h1 (i := 4) rfl
  have d0 := cell_at h2 (i := 0) rfl
  have d1 := cell_at h2 (i := 1) rfl
  have d2 := cell_at h2 (i := 2) rfl
  have d3 := cell_at h2 (i := 3) rfl
  have d4 := cell_at h2 (i := 4) rfl
  have HT := hide (dsame_any g k o a (some ⟨rb, 0, none⟩) n rc sa sc ls W (hr.bel hbW) (hr'.bel hbW) (by omega))
  have HF := hide (fun (X : World) (hX : Below W.heap.size W X) => And.intro (show X.cell? ⟨w.heap.size, 4, none⟩ = some (.slice (some ⟨rb, 0, none⟩) n rc) from E6.cell_bel c4 hX) (And.intro (show X.cell? ⟨w.heap.size + 1, 4, none⟩ = some (.slice sa n sc) from E6.cell_bel d4 hX) (fun i (hi : i < 70) => E6.cell_bel (E6.cell_bel (hroom i hi) hbW) hX)))
  have HbW := hide hbW
  have HW := hide hW
  clear hW h1 h2 hbW hr hr' hroom
  go_enter Tryd.func9, Tryd.ntmps9
  go_wp2_with fail
  rw [← HW.out]
  refine HT.out.mono ?_
  rintro x w2 ⟨rfl, hb⟩
  obtain ⟨e4, f4, hq⟩ := HF.out w2 hb
  have HB := hide (HbW.out.trans (hb.mono HbW.out.size))
  have HQ := hide hq
  clear hb hq c0 c1 c2 c3 c4 d0 d1 d2 d3 d4 HT HF
  obtain ⟨m, hm⟩ : ∃ m : Nat, m = n + 70 := ⟨_, rfl⟩
  have hmc : m ≤ rc := by omega
  have hmi : (n : Int) + 70 = (m : Int) := by omega
  have HM := hide hm
  clear hm
  go_wp2
  go_loopw [6] (fun i wr => ∃ j : Nat, j ≤ 70 ∧ i = .int .i64 j ∧ wr = w2) (fun i _ => 70 - (intOf i).toNat)
  case atStart => exact ⟨0, Nat.zero_le _, rfl, rfl⟩
  case round =>
    obtain ⟨j, hj, rfl, hw⟩ := hrel
    subst hw
    by_cases hlt : j < 70
    · have hcj := HQ.out j hlt
      obtain ⟨q, hq⟩ : ∃ q : Nat, n + j = q := ⟨_, rfl⟩
      have hji : (n : Int) + (j : Int) = (q : Int) := by omega
      have hqm : q < m := by have := HM.out; omega
      rw [hq] at hcj
      clear hq
      have hne : ((⟨#[114, 111, 111, 109]⟩ : ByteArray).toList != (⟨#[114, 111, 111, 109]⟩ : ByteArray).toList) = false := by simp
      go_wp2
      exact ⟨⟨j + 1, by omega, by go_num, by first | rfl | trivial⟩, by simp [intOf]; omega⟩
    · go_wp2
      go_ret
      exact ⟨rfl, HB.out⟩
end Go.Proofs.YtpnacioliccglaaDoor
