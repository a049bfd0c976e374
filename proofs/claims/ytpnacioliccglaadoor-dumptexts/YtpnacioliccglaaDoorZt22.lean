import Derived.Test.YtpnacioliccglaaDoorZt14
import Derived.Test.YtpnacioliccglaaDoorZt21
import Derived.Test.YtpnacioliccglaaDoorZt15
set_option maxRecDepth 8000
set_option maxHeartbeats 8000000
set_option linter.unusedVariables false
/-
  Dump: the program's and the document's.
-/
namespace Go.Proofs.YtpnacioliccglaaDoor
open Go.RowKit Go.Maps Go.Shelf
set_option linter.unusedVariables false
/-- An event's line and its end. -/
def ln (e : E6.Ev) : List UInt8 := linE e.g e.k.toNat e.o.toNat e.a.toNat e.ls ++ [10]
/-- The text of events. -/
def txt (es : List E6.Ev) : List UInt8 := es.flatMap ln
theorem txt_app (a b : List E6.Ev) : txt (a ++ b) = txt a ++ txt b := by simp [txt]
theorem txt_one (e : E6.Ev) : txt [e] = ln e := by simp [txt]
theorem txt_take {es : List E6.Ev} {j : Nat} {e : E6.Ev} (h : es[j]? = some e) : txt (es.take (j + 1)) = txt (es.take j) ++ linE e.g e.k.toNat e.o.toNat e.a.toNat e.ls ++ [10] := by
  rw [List.take_add_one, h, Option.toList_some, txt_app, txt_one, ln, List.append_assoc]
theorem txt_le (es : List E6.Ev) (j : Nat) : (txt (es.take j)).length ≤ (txt es).length := by
  have h := congrArg List.length (txt_app (es.take j) (es.drop j))
  rw [List.take_append_drop, List.length_append] at h
  omega
theorem bnd_good : ∀ (es : List E6.Ev) (i : Nat) (L : List ByteArray) (N : List E6.Nd), (E6.bnd es i L N).2 = 0 → ∀ e ∈ es, e.chk = 0
  | [], _, _, _, _, e, he => by cases he
  | x :: r, i, L, N, h, e, he => by
    rw [E6.bnd] at h
    by_cases h0 : x.chk = 0
    · rw [if_pos h0] at h
      split at h
      · rcases List.mem_cons.1 he with rfl | he
        · exact h0
        · exact bnd_good r _ _ _ h e he
      · exact absurd (show (3 : Int) = 0 from h) (by decide)
    · rw [if_neg h0] at h
      exact absurd h h0
theorem bounds_good {es : List E6.Ev} (h : (E6.bounds es).2 = 0) : ∀ e ∈ es, e.chk = 0 := by
  unfold E6.bounds at h
  split at h
  · exact bnd_good _ _ _ _ h
  · exact absurd (show (3 : Int) = 0 from h) (by decide)
theorem linE_len {g : Int} {k o a : Nat} {ls : List ByteArray} (g0 : 0 ≤ g) (g1 : g < 65536) (hk : k ≤ 22) (ho : o < 18446744073709551616) (ha : a < 18446744073709551616) (hl : ls.length ≤ 16) (hs : ∀ s ∈ ls, s.size ≤ 65536) : (linE g k o a ls).length ≤ 4900000 := by
  have h1 := itoa_len (z := g) (by omega) (by omega)
  have h2 := kname_len k (by omega)
  have h3 := hexD_16 ho
  have h4 := dec_len20 ha
  have h5 := stkL_len hs ls.length (Nat.le_refl _)
  have h6 : (E6.kname k).size = (E6.kname k).data.toList.length := (Array.length_toList).symm
  unfold linE linH
  simp only [List.length_append, List.length_cons, List.length_nil]
  omega
/-- What Dump answers. -/
noncomputable def dmpV (es : List E6.Ev) : Value := if (E6.bounds es).2 = 0 then (if (txt es).length ≤ 67108864 then .tuple #[.string ⟨(txt es).toArray⟩, .int .i64 0] else .tuple #[.string ⟨#[]⟩, .int .i64 3]) else .tuple #[.string ⟨#[]⟩, .int .i64 (E6.bounds es).2]
set_option maxRecDepth 8000 in
set_option maxHeartbeats 4000000 in
theorem dump_any (a : Option Addr) (n c : Nat) (es : List E6.Ev) (w : World) (hK : Dk w) (hr : E6.ERow w a n es) (hok : ∀ e ∈ es, e.ok) (hn : (n : Int) ≤ 9223372036854775806) :
    Calls Tryd.prog 15 #[.slice a n c] w fun r w' => r = .returned (dmpV es) ∧ Below w.heap.size w w' := by
  have HBd := hide (E6.bounds_any a n c es w hK.kr hr hok hn)
  obtain ⟨V, hV⟩ : ∃ V, dmpV es = V := ⟨_, rfl⟩
  rw [hV]
  obtain ⟨p, hp⟩ : ∃ p, (E6.bounds es).1 = p := ⟨_, rfl⟩
  obtain ⟨F, hF⟩ : ∃ F, (E6.bounds es).2 = F := ⟨_, rfl⟩
  rw [hp, hF] at HBd
  by_cases h0 : F = 0
  · have hgood := bounds_good (hF.trans h0)
    have HV : Hid (V = if (txt es).length ≤ 67108864 then .tuple #[.string ⟨(txt es).toArray⟩, .int .i64 0] else .tuple #[.string ⟨#[]⟩, .int .i64 3]) := hide (by rw [← hV, dmpV, if_pos (hF.trans h0)])
    subst h0
    have HG := hide hgood
    have HE := hide hr
    have HO := hide hok
    have HK := hide hK
    have HL := hide hr.len
    have HB := hide hK.big
    clear hV hp hF hgood hr hok hK
    go_enter Tryd.func15, Tryd.ntmps15
    go_wp2_with fail
    refine HBd.out.mono ?_
    rintro x w1 ⟨rfl, b1⟩
    have HB1 := hide b1
    clear b1 HBd
    go_wp2
    go_loopw [19, 6] (fun i v wr => ∃ j : Nat, j ≤ n ∧ i = .int .i64 j ∧ Hid (Ou wr w.heap.size v (txt (es.take j)) ∧ Below w.heap.size w wr ∧ (txt (es.take j)).length ≤ 67108864)) (fun i _ _ => n - (intOf i).toNat)
    case atStart => exact ⟨0, Nat.zero_le _, rfl, hide ⟨Own.nil _ _ _ _, HB1.out, by simp [txt]⟩⟩
    case round =>
      obtain ⟨j, hj, rfl, HJ⟩ := hrel
      by_cases hlt : j < n
      · have hjI : (j : Int) < n := by omega
        obtain ⟨b, off, e, rfl, hej, c0, c1, c2, c3, c4, hs⟩ := (HE.out.bel HJ.out.2.1).at hlt
        obtain ⟨b', off', e', hba', hej', _, _, _, _, _, hs0⟩ := HE.out.at hlt
        rw [hej] at hej'
        cases hej'
        have hme := List.mem_of_getElem? hej
        obtain ⟨⟨k1, k2⟩, g0, g1, hl, hsz⟩ := chk_good (HG.out e hme)
        have hoe := HO.out e hme
        obtain ⟨W1, hW1⟩ : ∃ W1, W1 = wr.alloc (.cells #[.int .i64 e.g, .int .i64 e.k, .int .u64 e.o, .int .u64 e.a, .slice e.sa e.ls.length e.sc] 25) := ⟨_, rfl⟩
        have hb1 : Below w.heap.size w W1 := by rw [hW1]; exact HJ.out.2.1.alloc HJ.out.2.1.size _
        have h1 : W1.heap[wr.heap.size]? = some (.cells #[.int .i64 e.g, .int .i64 e.k, .int .u64 e.o, .int .u64 e.a, .slice e.sa e.ls.length e.sc] 25 (0, 0)) := by rw [hW1]; exact heap_new _ _
        have ho1 : Ou W1 w.heap.size u6 (txt (es.take j)) := by rw [hW1]; exact ou_fr HJ.out.1
        have hll := linE_len (k := e.k.toNat) (o := e.o.toNat) (a := e.a.toNat) g0 g1 (by omega) (by have := hoe.ho; omega) (by have := hoe.ha; omega) hl hsz
        have hjl := HJ.out.2.2
        have HA := hide (aline_any w.heap.size u6 (txt (es.take j)) e.g e.k.toNat e.o.toNat e.a.toNat e.sa e.ls.length e.sc e.ls W1 (HK.out.below hb1 HB.out) HB.out g0 g1 (by omega) (by omega) (by have := hoe.ho; omega) (by have := hoe.ha; omega) hl rfl hsz (fun X hX => E6.SRow.bel hs0 (hb1.trans hX)) ho1 (by omega) hb1.size)
        rw [show ((e.k.toNat : Nat) : Int) = e.k by omega, show ((e.o.toNat : Nat) : Int) = e.o by have := hoe.ho; omega, show ((e.a.toNat : Nat) : Int) = e.a by have := hoe.ha; omega] at HA
        have HT := hide (txt_take hej)
        have HT2 := hide (txt_le es (j + 1))
        obtain ⟨S, hS⟩ : ∃ S, linE e.g e.k.toNat e.o.toNat e.a.toNat e.ls = S := ⟨_, rfl⟩
        rw [hS] at HA HT hll
        have HLl : Hid ((txt (es.take j) ++ S).length + 1 ≤ 140737488355328 ∧ (txt (es.take j)).length ≤ 67108864) := hide ⟨by rw [List.length_append]; omega, hjl⟩
        have HB2 := hide hb1
        have HW1 := hide hW1
        have d0 := cell_at h1 (i := 0) rfl
        have d1 := cell_at h1 (i := 1) rfl
        have d2 := cell_at h1 (i := 2) rfl
        have d3 := cell_at h1 (i := 3) rfl
        have d4 := cell_at h1 (i := 4) rfl
        clear hS hll hjl ho1 h1 hb1 hW1 hoe hsz hl g0 g1 k1 k2 hme hej hs0 hba' hs
        go_wp2_with fail
        rw [← HW1.out]
        refine HA.out.mono ?_
        rintro x w2 ⟨v2, rfl, o2, f2⟩
        have HO2 := hide o2
        have HB3 := hide (HB2.out.trans f2.bel)
        clear o2 f2 HA HB2 HW1 d0 d1 d2 d3 d4 c0 c1 c2 c3 c4
        obtain ⟨M, hM⟩ : ∃ M, (txt (es.take (j + 1))).length = M := ⟨_, rfl⟩
        have HM := hide hM
        rw [hM] at HT2
        clear hM
        by_cases hbig : M ≤ 67108864
        · have hbI : ¬ (67108864 : Int) < M := by omega
          have hbJ : (M : Int) ≤ 67108864 := by omega
          have HBig := hide hbig
          clear hbig
          go_wp2_with (at_builtin; go_must (refine append_u _ rfl _ _ rfl w.heap.size v2 (txt (es.take j) ++ S) rfl (ou_fr HO2.out) w2.heap.size 1 1 _ [10] rfl (heap_new _ _) rfl rfl (by have := HLl.out.1; omega) (by rw [World.size_alloc]; exact Nat.le_succ_of_le HB3.out.size) ?_); intro v3 w3 o3 f3; rw [← HT.out] at o3; obtain ⟨a3, c3, e3, _, _⟩ := own_form o3; rw [HM.out] at e3; subst e3; have HO3 := hide o3; have HB4 := hide (HB3.out.trans (((below_alloc1 w2 _).mono HB3.out.size).trans f3.bel)); clear o3 f3)
          go_wp2
          exact ⟨⟨j + 1, by omega, by go_num, hide ⟨HO3.out, HB4.out, by rw [HM.out]; exact HBig.out⟩⟩, by simp [intOf]; omega⟩
        · have hbI : (67108864 : Int) < M := by omega
          have HVe : Hid (V = .tuple #[.string ⟨#[]⟩, .int .i64 3]) := hide (by rw [HV.out, if_neg (by have := HT2.out; omega)])
          clear hbig
          go_wp2_with (at_builtin; go_must (refine append_u _ rfl _ _ rfl w.heap.size v2 (txt (es.take j) ++ S) rfl (ou_fr HO2.out) w2.heap.size 1 1 _ [10] rfl (heap_new _ _) rfl rfl (by have := HLl.out.1; omega) (by rw [World.size_alloc]; exact Nat.le_succ_of_le HB3.out.size) ?_); intro v3 w3 o3 f3; rw [← HT.out] at o3; obtain ⟨a3, c3, e3, _, _⟩ := own_form o3; rw [HM.out] at e3; subst e3; have HO3 := hide o3; have HB4 := hide (HB3.out.trans (((below_alloc1 w2 _).mono HB3.out.size).trans f3.bel)); clear o3 f3)
          go_wp2
          go_ret2
          exact ⟨by rw [HVe.out]; rfl, HB4.out⟩
      · have h9 : j = n := by omega
        subst h9
        have hjI : ¬ (j : Int) < j := by omega
        have hcv := conv_own HJ.out.1
        have ht : es.take j = es := List.take_of_length_le (by rw [HL.out]; exact Nat.le_refl _)
        rw [ht] at hcv
        have HVe : Hid (V = .tuple #[.string ⟨(txt es).toArray⟩, .int .i64 0]) := hide (by rw [HV.out, if_pos (by have := HJ.out.2.2; rwa [ht] at this)])
        have HB5 := hide HJ.out.2.1
        clear ht
        go_wp2
        go_ret2
        exact ⟨by rw [HVe.out]; rfl, HB5.out⟩
  · have hb : (F != 0) = true := by simp [h0]
    have HVe : Hid (V = .tuple #[.string ⟨#[]⟩, .int .i64 F]) := hide (by rw [← hV, dmpV, if_neg (by rw [hF]; exact h0), hF])
    clear hV hp hF h0 hr hok hK
    go_enter Tryd.func15, Tryd.ntmps15
    go_wp2_with fail
    refine HBd.out.mono ?_
    rintro x w1 ⟨rfl, b1⟩
    have HB1 := hide b1
    clear b1 HBd
    go_wp2
    go_ret2
    exact ⟨by rw [HVe.out]; rfl, HB1.out⟩
end Go.Proofs.YtpnacioliccglaaDoor
/-
  Dump: the document's.
-/
namespace Go.Proofs.YtpnacioliccglaaDoor
open Go.RowKit Go.Maps Go.Shelf
set_option linter.unusedVariables false
set_option maxRecDepth 8000 in
set_option maxHeartbeats 4000000 in
theorem rdump_any (a : Option Addr) (n c : Nat) (es : List E6.Ev) (w : World) (hK : Dk w) (hr : E6.ERow w a n es) (hok : ∀ e ∈ es, e.ok) (hn : (n : Int) ≤ 9223372036854775806) :
    Calls Tryd.prog 16 #[.slice a n c] w fun r w' => r = .returned (dmpV es) ∧ Below w.heap.size w w' := by
  have HBd := hide (E6.rbounds_any a n c es w hr hok hn)
  obtain ⟨V, hV⟩ : ∃ V, dmpV es = V := ⟨_, rfl⟩
  rw [hV]
  obtain ⟨p, hp⟩ : ∃ p, (E6.bounds es).1 = p := ⟨_, rfl⟩
  obtain ⟨F, hF⟩ : ∃ F, (E6.bounds es).2 = F := ⟨_, rfl⟩
  rw [hp, hF] at HBd
  by_cases h0 : F = 0
  · have hgood := bounds_good (hF.trans h0)
    have HV : Hid (V = if (txt es).length ≤ 67108864 then .tuple #[.string ⟨(txt es).toArray⟩, .int .i64 0] else .tuple #[.string ⟨#[]⟩, .int .i64 3]) := hide (by rw [← hV, dmpV, if_pos (hF.trans h0)])
    subst h0
    have HG := hide hgood
    have HE := hide hr
    have HO := hide hok
    have HK := hide hK
    have HL := hide hr.len
    have HB := hide hK.big
    clear hV hp hF hgood hr hok hK
    go_enter Tryd.func16, Tryd.ntmps16
    go_wp2_with fail
    refine HBd.out.mono ?_
    rintro x w1 ⟨rfl, b1⟩
    have HB1 := hide b1
    clear b1 HBd
    go_wp2
    go_loopw [6, 7] (fun v i wr => ∃ j : Nat, j ≤ n ∧ i = .int .i64 j ∧ Hid (Ou wr w.heap.size v (txt (es.take j)) ∧ Below w.heap.size w wr ∧ (txt (es.take j)).length ≤ 67108864)) (fun _ i _ => n - (intOf i).toNat)
    case atStart => exact ⟨0, Nat.zero_le _, rfl, hide ⟨Own.nil _ _ _ _, HB1.out, by simp [txt]⟩⟩
    case round =>
      obtain ⟨j, hj, rfl, HJ⟩ := hrel
      by_cases hlt : j < n
      · have hjI : (j : Int) < n := by omega
        obtain ⟨b, off, e, rfl, hej, c0, c1, c2, c3, c4, hs⟩ := (HE.out.bel HJ.out.2.1).at hlt
        obtain ⟨b', off', e', hba', hej', _, _, _, _, _, hs0⟩ := HE.out.at hlt
        rw [hej] at hej'
        cases hej'
        have hme := List.mem_of_getElem? hej
        obtain ⟨⟨k1, k2⟩, g0, g1, hl, hsz⟩ := chk_good (HG.out e hme)
        have hoe := HO.out e hme
        have hll := linE_len (k := e.k.toNat) (o := e.o.toNat) (a := e.a.toNat) g0 g1 (by omega) (by have := hoe.ho; omega) (by have := hoe.ha; omega) hl hsz
        have hjl := HJ.out.2.2
        have hsr := E6.SRow.bel hs0 HJ.out.2.1
        have HA := hide (rshown_any e.g e.k.toNat e.o.toNat e.a.toNat e.sa e.ls.length e.sc e.ls wr (HK.out.below HJ.out.2.1 HB.out) g0 g1 (by omega) (by omega) (by have := hoe.ho; omega) (by have := hoe.ha; omega) hl hsz hsr)
        rw [show ((e.k.toNat : Nat) : Int) = e.k by omega, show ((e.o.toNat : Nat) : Int) = e.o by have := hoe.ho; omega, show ((e.a.toNat : Nat) : Int) = e.a by have := hoe.ha; omega] at HA
        have HT := hide (txt_take hej)
        have HT2 := hide (txt_le es (j + 1))
        obtain ⟨S, hS⟩ : ∃ S, linE e.g e.k.toNat e.o.toNat e.a.toNat e.ls = S := ⟨_, rfl⟩
        rw [hS] at HA HT hll
        obtain ⟨Z, hZ⟩ : ∃ Z : ByteArray, (⟨S.toArray⟩ : ByteArray) = Z := ⟨_, rfl⟩
        rw [hZ] at HA
        have hZd : Z.data.toList = S := by rw [← hZ]
        have hZs : Z.size = S.length := by rw [sz_list, hZd]
        have HZd := hide hZd
        have HZs := hide hZs
        obtain ⟨M, hM⟩ : ∃ M, (txt (es.take (j + 1))).length = M := ⟨_, rfl⟩
        have hM2 : (txt (es.take j)).length + Z.size + 1 = M := by rw [← hM, HT.out, hZs]; simp only [List.length_append, List.length_singleton]
        have HM := hide hM
        have HM2 := hide hM2
        rw [hM] at HT2
        obtain ⟨a6, c6, e6, _, _⟩ := own_form HJ.out.1
        obtain ⟨m6, hm6⟩ : ∃ m, (txt (es.take j)).length = m := ⟨_, rfl⟩
        rw [hm6] at e6 hM2
        obtain ⟨z6, hz6⟩ : ∃ z, Z.size = z := ⟨_, rfl⟩
        rw [hz6] at hM2
        have HLl : Hid ((txt (es.take j)).length + Z.size + 1 ≤ 140737488355328) := hide (by rw [hZs]; omega)
        have hmI : ((m6 : Int) + (z6 : Int)) + 1 = (M : Int) := by omega
        have hm9 : (M : Int) ≤ 100000000 := by omega
        subst e6
        clear hS hll hjl hZ hZd hZs hM hM2 hm6 hsr hoe hsz hl g0 g1 k1 k2 hme hej hs0 hba' hs
        by_cases hbig : M ≤ 67108864
        · have hbI : ¬ (67108864 : Int) < M := by omega
          have hbJ : (M : Int) ≤ 67108864 := by omega
          have HBig := hide hbig
          clear hbig
          go_wp2_with fail
          refine HA.out.mono ?_
          rintro x w2 ⟨rfl, b2⟩
          have HO2 := hide (HJ.out.1.below b2)
          have HB3 := hide (HJ.out.2.1.trans (b2.mono HJ.out.2.1.size))
          clear b2 HA c0 c1 c2 c3 c4
          go_wp2_with (first
            | (at_builtin; refine append_u _ rfl _ _ rfl w.heap.size v3 (txt (es.take j) ++ S) rfl (ou_fr HO3.out) w3.heap.size 1 1 _ [10] rfl (heap_new _ _) rfl rfl (by have := HLl.out; rw [List.length_append, ← HZd.out, ← sz_list]; omega) (by rw [World.size_alloc]; exact Nat.le_succ_of_le HB4.out.size) ?_; intro v4 w4 o4 f4; rw [← HT.out] at o4; obtain ⟨a4, c4, e4, _, _⟩ := own_form o4; rw [HM.out] at e4; subst e4; have HO4 := hide o4; have HB5 := hide (HB4.out.trans (((below_alloc1 w3 _).mono HB4.out.size).trans f4.bel)); clear o4 f4)
            | (at_builtin; refine append_s _ rfl _ _ rfl w.heap.size _ (txt (es.take j)) rfl HO2.out Z rfl (by have := HLl.out; omega) HB3.out.size ?_; intro v3 w3 o3 f3; rw [HZd.out] at o3; have HO3 := hide o3; have HB4 := hide (HB3.out.trans f3.bel); clear o3 f3))
          go_wp2
          exact ⟨⟨j + 1, by omega, by go_num, hide ⟨HO4.out, HB5.out, by rw [HM.out]; exact HBig.out⟩⟩, by simp [intOf]; omega⟩
        · have hbI : (67108864 : Int) < M := by omega
          have HVe : Hid (V = .tuple #[.string ⟨#[]⟩, .int .i64 3]) := hide (by rw [HV.out, if_neg (by have := HT2.out; omega)])
          clear hbig
          go_wp2_with fail
          refine HA.out.mono ?_
          rintro x w2 ⟨rfl, b2⟩
          have HB3 := hide (HJ.out.2.1.trans (b2.mono HJ.out.2.1.size))
          clear b2 HA c0 c1 c2 c3 c4
          go_wp2
          go_ret2
          exact ⟨by rw [HVe.out]; rfl, HB3.out⟩
      · have h9 : j = n := by omega
        subst h9
        have hjI : ¬ (j : Int) < j := by omega
        have hcv := conv_own HJ.out.1
        have ht : es.take j = es := List.take_of_length_le (by rw [HL.out]; exact Nat.le_refl _)
        rw [ht] at hcv
        have HVe : Hid (V = .tuple #[.string ⟨(txt es).toArray⟩, .int .i64 0]) := hide (by rw [HV.out, if_pos (by have := HJ.out.2.2; rwa [ht] at this)])
        have HB5 := hide HJ.out.2.1
        clear ht
        go_wp2
        go_ret2
        exact ⟨by rw [HVe.out]; rfl, HB5.out⟩
  · have hb : (F != 0) = true := by simp [h0]
    have HVe : Hid (V = .tuple #[.string ⟨#[]⟩, .int .i64 F]) := hide (by rw [← hV, dmpV, if_neg (by rw [hF]; exact h0), hF])
    clear hV hp hF h0 hr hok hK
    go_enter Tryd.func16, Tryd.ntmps16
    go_wp2_with fail
    refine HBd.out.mono ?_
    rintro x w1 ⟨rfl, b1⟩
    have HB1 := hide b1
    clear b1 HBd
    go_wp2
    go_ret2
    exact ⟨by rw [HVe.out]; rfl, HB1.out⟩
end Go.Proofs.YtpnacioliccglaaDoor
/-
  Events with room: what Dump asks of them, and a row of them that is turned round.
-/
namespace Go.Proofs.YtpnacioliccglaaDoor
open Go.RowKit Go.Maps Go.Shelf
set_option linter.unusedVariables false
/-- An event without where its stack lies. -/
def bare (e : E6.Ev) : E6.Ev := ⟨e.g, e.k, e.o, e.a, none, 0, e.ls⟩
theorem bnd_bare : ∀ (es : List E6.Ev) (i : Nat) (L : List ByteArray) (N : List E6.Nd), E6.bnd (es.map bare) i L N = E6.bnd es i L N
  | [], _, _, _ => rfl
  | x :: r, i, L, N => by
    rw [List.map_cons, E6.bnd, E6.bnd]
    have h1 : (bare x).chk = x.chk := rfl
    have h2 : (bare x).ls = x.ls := rfl
    rw [h1, h2, bnd_bare r]
theorem bounds_bare (es : List E6.Ev) : E6.bounds (es.map bare) = E6.bounds es := by
  unfold E6.bounds
  rw [List.length_map, bnd_bare]
theorem txt_bare : ∀ (es : List E6.Ev), txt (es.map bare) = txt es
  | [] => rfl
  | x :: r => by
    have h := txt_bare r
    unfold txt at h ⊢
    rw [List.map_cons, List.flatMap_cons, List.flatMap_cons, h]
    rfl
theorem dmpV_bare (es : List E6.Ev) : dmpV (es.map bare) = dmpV es := by
  unfold dmpV
  rw [bounds_bare, txt_bare]
theorem dmpV_twins {es fs : List E6.Ev} (hl : fs.length = es.length) (h : ∀ (i : Nat) (e f : E6.Ev), es[i]? = some e → fs[i]? = some f → f.g = e.g ∧ f.k = e.k ∧ f.o = e.o ∧ f.a = e.a ∧ f.ls = e.ls) : dmpV fs = dmpV es := by
  have hm : fs.map bare = es.map bare := by
    apply List.ext_getElem?
    intro i
    rw [List.getElem?_map, List.getElem?_map]
    cases h1 : es[i]? with
    | none =>
      have h2 : fs[i]? = none := by rw [List.getElem?_eq_none_iff] at h1 ⊢; omega
      rw [h2]
    | some e =>
      obtain ⟨f, h2⟩ : ∃ f, fs[i]? = some f := ⟨fs[i]'(by have := (List.getElem?_eq_some_iff.1 h1).1; omega), List.getElem?_eq_getElem _⟩
      rw [h2]
      obtain ⟨a1, a2, a3, a4, a5⟩ := h i e f h1 h2
      simp only [Option.map_some]
      unfold bare
      rw [a1, a2, a3, a4, a5]
  rw [← dmpV_bare fs, ← dmpV_bare es, hm]
theorem Rr.dmp {B : Nat} {w : World} {v : Value} {es fs M : List E6.Ev} (h : Rr B w v es fs M) : dmpV fs = dmpV es :=
  dmpV_twins h.len (fun i e f h1 h2 => by obtain ⟨a1, a2, a3, a4, a5, _⟩ := h.tn i e f h1 h2; exact ⟨a1, a2, a3, a4, a5⟩)
theorem dmpV_form (es : List E6.Ev) : ∃ S F, dmpV es = .tuple #[.string S, .int .i64 F] := by
  unfold dmpV
  split
  · split
    · exact ⟨_, _, rfl⟩
    · exact ⟨_, _, rfl⟩
  · exact ⟨_, _, rfl⟩
theorem zsr {w : World} {base rb n c : Nat} {ls : List ByteArray} (h : Own layZ 9 w base (.slice (some ⟨rb, 0, none⟩) (n + 70) c) (ls ++ List.replicate 70 room)) (hn : ls.length = n) : E6.SRow w (some ⟨rb, 0, none⟩) n ls ∧ ∀ i, i < 70 → w.cell? ⟨rb, n + i, none⟩ = some (.string ⟨#[114, 111, 111, 109]⟩) := by
  have hl : (ls ++ List.replicate 70 room).length = n + 70 := by rw [List.length_append, List.length_replicate, hn]
  refine ⟨⟨hn, ?_⟩, ?_⟩
  · refine .inr ⟨rb, 0, rfl, fun i hi => ?_⟩
    have h1 := zown h i (by omega)
    rw [Nat.zero_add, h1]
    congr 2
    rw [List.getD_eq_getElem?_getD, List.getD_eq_getElem?_getD, List.getElem?_append_left (by omega)]
  · intro i hi
    have h1 := zown h (n + i) (by omega)
    rw [h1]
    congr 2
    rw [List.getD_eq_getElem?_getD, List.getElem?_append_right (by omega), hn, Nat.add_sub_cancel_left, List.getElem?_replicate, if_pos hi]
    rfl
/-- An event with room of its own behind its stack. -/
structure Lo (B : Nat) (w : World) (f : E6.Ev) : Prop where
  own : ∃ rb, f.sa = some ⟨rb, 0, none⟩ ∧ f.ls.length + 70 ≤ f.sc ∧ Own layZ 9 w B (.slice (some ⟨rb, 0, none⟩) (f.ls.length + 70) f.sc) (f.ls ++ List.replicate 70 room)
  ok : f.ok
section
variable {B n rb rc : Nat} {w w' : World} {e f : E6.Ev} {v : Value} {fs es hs : List E6.Ev}
theorem Tn.lo (h : Tn B w e f) (he : e.ok) : Lo B w f := by
  obtain ⟨rb, h1, h2, h3⟩ := h.own
  refine ⟨⟨rb, h1, by rw [h.ls]; exact h2, by rw [h.ls]; exact h3⟩, ⟨by rw [h.o]; exact he.ho, by rw [h.a]; exact he.ha, by rw [h.ls]; exact he.len, by rw [h.ls]; exact he.sz, by rw [h.ls]; omega, fun e9 => by rw [h1] at e9; cases e9⟩⟩
theorem Lo.below (h : Lo B w f) (hb : Below w.heap.size w w') : Lo B w' f := by
  obtain ⟨⟨rb, h1, h2, h3⟩, h4⟩ := h
  exact ⟨⟨rb, h1, h2, h3.below hb⟩, h4⟩
theorem Lo.but (h : Lo B w f) (hv : Own layE 25 w B v fs) (hb : But (fun q => v.ownBlock = some q) w w') : Lo B w' f := by
  obtain ⟨⟨rb, h1, h2, h3⟩, h4⟩ := h
  exact ⟨⟨rb, h1, h2, zown_but (S := fun _ => True) h3 hv hb⟩, h4⟩
theorem Lo.at (h : Lo B w f) : f.at w := by
  obtain ⟨⟨rb, h1, h2, h3⟩, h4⟩ := h
  unfold E6.Ev.at
  rw [h1]
  exact (zsr h3 rfl).1
/-- A row of such, and the marks behind it. -/
structure Rv (B : Nat) (w : World) (rb rc n : Nat) (hs : List E6.Ev) : Prop where
  len : hs.length = n
  row : Own layE 25 w B (.slice (some ⟨rb, 0, none⟩) (n + 70) rc) (hs ++ List.replicate 70 mark)
  lo : ∀ f ∈ hs, Lo B w f
theorem Rr.rv (h : Rr B w (.slice (some ⟨rb, 0, none⟩) (n + 70) rc) es fs (List.replicate 70 mark)) (hn : es.length = n) (hok : ∀ e ∈ es, e.ok) : Rv B w rb rc n fs := by
  refine ⟨h.len.trans hn, h.row, fun f hf => ?_⟩
  obtain ⟨i, hi, hfi⟩ := List.getElem_of_mem hf
  have h2 : fs[i]? = some f := by rw [← hfi]; exact List.getElem?_eq_getElem _
  have h1 : es[i]? = some (es[i]'(by rw [← h.len]; exact hi)) := List.getElem?_eq_getElem _
  exact (h.tn i _ f h1 h2).lo (hok _ (List.getElem_mem _))
theorem Rv.below (h : Rv B w rb rc n hs) (hb : Below w.heap.size w w') : Rv B w' rb rc n hs := ⟨h.len, h.row.below hb, fun f hf => (h.lo f hf).below hb⟩
theorem Rv.get {i : Nat} (h : Rv B w rb rc n hs) (hi : i < n) : ∃ f, hs[i]? = some f ∧ f ∈ hs ∧ (hs ++ List.replicate 70 mark)[i]? = some f := by
  have hl : i < hs.length := by rw [h.len]; exact hi
  exact ⟨hs[i], List.getElem?_eq_getElem hl, List.getElem_mem hl, by rw [List.getElem?_append_left hl]; exact List.getElem?_eq_getElem hl⟩
theorem erow_cells (h : Own layE 25 w B (.slice (some ⟨rb, 0, none⟩) n rc) es) {i : Nat} (hf : es[i]? = some f) : w.cell? ⟨rb, i * 5, none⟩ = some (.int .i64 f.g) ∧ w.cell? ⟨rb, i * 5 + 1, none⟩ = some (.int .i64 f.k) ∧ w.cell? ⟨rb, i * 5 + 2, none⟩ = some (.int .u64 f.o) ∧ w.cell? ⟨rb, i * 5 + 3, none⟩ = some (.int .u64 f.a) ∧ w.cell? ⟨rb, i * 5 + 4, none⟩ = some (.slice f.sa f.ls.length f.sc) :=
  ⟨h.cell hf 0 rfl, h.cell hf 1 rfl, h.cell hf 2 rfl, h.cell hf 3 rfl, h.cell hf 4 rfl⟩
theorem Rv.erow (h : Rv B w rb rc n hs) : E6.ERow w (some ⟨rb, 0, none⟩) n hs := by
  refine ⟨h.len, .inr ⟨rb, 0, rfl, fun i f hf => ?_⟩⟩
  have hl := (List.getElem?_eq_some_iff.1 hf).1
  obtain ⟨c0, c1, c2, c3, c4⟩ := erow_cells h.row (i := i) (f := f) (by rw [List.getElem?_append_left hl]; exact hf)
  rw [Nat.zero_add]
  exact ⟨c0, c1, c2, c3, c4, (h.lo f (List.mem_of_getElem? hf)).at⟩
theorem Rv.ok (h : Rv B w rb rc n hs) : ∀ f ∈ hs, f.ok := fun f hf => (h.lo f hf).ok
theorem Rv.froz (h : Rv B w rb rc n hs) (k : Nat) : w.frozen? ⟨rb, k, none⟩ = false := h.row.frozen k
theorem Rv.mrk {i : Nat} (h : Rv B w rb rc n hs) (hi : i < 70) : w.cell? ⟨rb, (n + i) * 5, none⟩ = some (.int .i64 (-9)) := by
  refine (erow_cells h.row (i := n + i) (f := mark) ?_).1
  rw [List.getElem?_append_right (by rw [h.len]; omega), h.len, Nat.add_sub_cancel_left, List.getElem?_replicate, if_pos hi]
/-- One of them is set. -/
theorem Rv.set {i : Nat} (h : Rv B w rb rc n hs) (hi : i < n) (hf : f ∈ hs) :
    Rv B (((((w.setCell ⟨rb, i * 5, none⟩ (.int .i64 f.g)).setCell ⟨rb, i * 5 + 1, none⟩ (.int .i64 f.k)).setCell ⟨rb, i * 5 + 2, none⟩ (.int .u64 f.o)).setCell ⟨rb, i * 5 + 3, none⟩ (.int .u64 f.a)).setCell ⟨rb, i * 5 + 4, none⟩ (.slice f.sa f.ls.length f.sc)) rb rc n (hs.set i f) ∧ ∀ {w0 : World}, w0.heap.size ≤ B → Below w0.heap.size w0 w → Below w0.heap.size w0 (((((w.setCell ⟨rb, i * 5, none⟩ (.int .i64 f.g)).setCell ⟨rb, i * 5 + 1, none⟩ (.int .i64 f.k)).setCell ⟨rb, i * 5 + 2, none⟩ (.int .u64 f.o)).setCell ⟨rb, i * 5 + 3, none⟩ (.int .u64 f.a)).setCell ⟨rb, i * 5 + 4, none⟩ (.slice f.sa f.ls.length f.sc)) := by
  have hk : But (fun q => (Value.slice (some ⟨rb, 0, none⟩) (n + 70) rc).ownBlock = some q) w (((((w.setCell ⟨rb, i * 5, none⟩ (.int .i64 f.g)).setCell ⟨rb, i * 5 + 1, none⟩ (.int .i64 f.k)).setCell ⟨rb, i * 5 + 2, none⟩ (.int .u64 f.o)).setCell ⟨rb, i * 5 + 3, none⟩ (.int .u64 f.a)).setCell ⟨rb, i * 5 + 4, none⟩ (.slice f.sa f.ls.length f.sc)) :=
    But.setC (j := i * 5) (layE.cs f) (But.refl (fun q => (Value.slice (some ⟨rb, 0, none⟩) (n + 70) rc).ownBlock = some q) w) (fun _ => rfl)
  have hl : (hs ++ List.replicate 70 mark).length = n + 70 := by rw [List.length_append, List.length_replicate, h.len]
  refine ⟨⟨by rw [List.length_set]; exact h.len, ?_, fun f' hf' => ?_⟩, fun hb hw => hw.trans (hk.below hw.size (fun q e9 => Nat.le_trans hb (h.row.lt q e9).1))⟩
  · rw [show hs.set i f ++ List.replicate 70 mark = (hs ++ List.replicate 70 mark).set i f by rw [List.set_append_left _ _ (by rw [h.len]; exact hi)]]
    exact Own.set h.row hl (by rw [hl]; omega) f
  · have hm : f' ∈ hs := by
      rcases List.mem_or_eq_of_mem_set hf' with h1 | h1
      · exact h1
      · rw [h1]; exact hf
    exact (h.lo f' hm).but h.row hk
/-- One of them is set. -/
theorem Rv.setL {i : Nat} (h : Rv B w rb rc n hs) (hi : i < n) (hl2 : Lo B w f) :
    Rv B (((((w.setCell ⟨rb, i * 5, none⟩ (.int .i64 f.g)).setCell ⟨rb, i * 5 + 1, none⟩ (.int .i64 f.k)).setCell ⟨rb, i * 5 + 2, none⟩ (.int .u64 f.o)).setCell ⟨rb, i * 5 + 3, none⟩ (.int .u64 f.a)).setCell ⟨rb, i * 5 + 4, none⟩ (.slice f.sa f.ls.length f.sc)) rb rc n (hs.set i f) ∧ ∀ {w0 : World}, w0.heap.size ≤ B → Below w0.heap.size w0 w → Below w0.heap.size w0 (((((w.setCell ⟨rb, i * 5, none⟩ (.int .i64 f.g)).setCell ⟨rb, i * 5 + 1, none⟩ (.int .i64 f.k)).setCell ⟨rb, i * 5 + 2, none⟩ (.int .u64 f.o)).setCell ⟨rb, i * 5 + 3, none⟩ (.int .u64 f.a)).setCell ⟨rb, i * 5 + 4, none⟩ (.slice f.sa f.ls.length f.sc)) := by
  have hk : But (fun q => (Value.slice (some ⟨rb, 0, none⟩) (n + 70) rc).ownBlock = some q) w (((((w.setCell ⟨rb, i * 5, none⟩ (.int .i64 f.g)).setCell ⟨rb, i * 5 + 1, none⟩ (.int .i64 f.k)).setCell ⟨rb, i * 5 + 2, none⟩ (.int .u64 f.o)).setCell ⟨rb, i * 5 + 3, none⟩ (.int .u64 f.a)).setCell ⟨rb, i * 5 + 4, none⟩ (.slice f.sa f.ls.length f.sc)) :=
    But.setC (j := i * 5) (layE.cs f) (But.refl (fun q => (Value.slice (some ⟨rb, 0, none⟩) (n + 70) rc).ownBlock = some q) w) (fun _ => rfl)
  have hl : (hs ++ List.replicate 70 mark).length = n + 70 := by rw [List.length_append, List.length_replicate, h.len]
  refine ⟨⟨by rw [List.length_set]; exact h.len, ?_, fun f' hf' => ?_⟩, fun hb hw => hw.trans (hk.below hw.size (fun q e9 => Nat.le_trans hb (h.row.lt q e9).1))⟩
  · rw [show hs.set i f ++ List.replicate 70 mark = (hs ++ List.replicate 70 mark).set i f by rw [List.set_append_left _ _ (by rw [h.len]; exact hi)]]
    exact Own.set h.row hl (by rw [hl]; omega) f
  · rcases List.mem_or_eq_of_mem_set hf' with h1 | h1
    · exact (h.lo f' h1).but h.row hk
    · rw [h1]; exact (hl2).but h.row hk
end
end Go.Proofs.YtpnacioliccglaaDoor
