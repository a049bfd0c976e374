/-
  CheckEnds.
-/
import Derived.Test.YtafkammiehcdjaaGreatDoorCkW
import Derived.Test.YtafkammiehcdjaaGreatDoorAwA
namespace Go.Proofs.YtafkammiehcdjaaGreatDoor
open Go.RowKit Go.Maps Go.Shelf
theorem erow_take {w : World} {a : Option Addr} {n : Nat} {es : List E6.Ev} (h : E6.ERow w a n es) {j : Nat} (hj : j ≤ n) : E6.ERow w a j (es.take j) := by
  refine ⟨by rw [List.length_take, h.len]; omega, ?_⟩
  rcases h.cells with h0 | ⟨b, off, e, hc⟩
  · exact .inl (by omega)
  · refine .inr ⟨b, off, e, fun i f hf => hc i f ?_⟩
    rw [List.getElem?_take] at hf
    split at hf
    · exact hf
    · cases hf
theorem end_step {es : List E6.Ev} {j : Nat} {M : CS} {P Y : Int} (hp : Pre es j M) (hr : CS.new.run es 0 = (P, Y)) {e : E6.Ev} (he : es[j]? = some e) (hlt : P < 0 ∨ (j : Int) < P) : M.why (me e) = 0 := by
  have h1 := hp.all
  have hdrop : es.drop j = e :: es.drop (j + 1) := by
    obtain ⟨hl', he'⟩ := List.getElem?_eq_some_iff.1 he
    rw [List.drop_eq_getElem_cons hl', he']
  rw [hr, hdrop, CS.run] at h1
  by_cases hw : M.why (me e) ≠ 0
  · rw [if_pos hw] at h1
    have h2 : P = (j : Int) := congrArg Prod.fst h1
    omega
  · by_cases h0 : M.why (me e) = 0
    · exact h0
    · exact absurd h0 hw
theorem last_why {es : List E6.Ev} {p : Nat} {M : CS} {Y : Int} (hp : Pre es p M) (hr : CS.new.run es 0 = ((p : Int), Y)) {e : E6.Ev} (he : es[p]? = some e) : M.why (me e) = Y ∧ Y ≠ 0 := by
  have h1 := hp.all
  have hdrop : es.drop p = e :: es.drop (p + 1) := by
    obtain ⟨hl', he'⟩ := List.getElem?_eq_some_iff.1 he
    rw [List.drop_eq_getElem_cons hl', he']
  rw [hr, hdrop, CS.run] at h1
  by_cases hw : M.why (me e) ≠ 0
  · rw [if_pos hw] at h1
    have h2 : Y = M.why (me e) := congrArg Prod.snd h1
    rw [h2]; exact ⟨rfl, hw⟩
  · rw [if_neg hw] at h1
    have h2 : (p : Int) = ((M.next (me e)).run (es.drop (p + 1)) (p + 1)).1 := congrArg Prod.fst h1
    rcases run_bd (es.drop (p + 1)) (M.next (me e)) (p + 1) with h3 | h3
    · omega
    · omega
theorem last_run {es : List E6.Ev} {p : Nat} {M : CS} {Y : Int} (hp : Pre es p M) (hr : CS.new.run es 0 = ((p : Int), Y)) (hb : (E6.bounds es).2 = 0) {e : E6.Ev} (he : es[p]? = some e) : runV (es.take (p + 1)) = ((p : Int), Y, 0) := by
  have h1 : es.take (p + 1) = es.take p ++ [e] := by
    obtain ⟨hl, h9⟩ := List.getElem?_eq_some_iff.1 he
    rw [List.take_succ_eq_append_getElem hl, h9]
  obtain ⟨h2, h3⟩ := last_why hp hr he
  rw [runV_zero (E6.bounds_take _ hb), h1, hp [e], CS.run, if_pos (by rw [h2]; exact h3), h2]
theorem take_ok {es : List E6.Ev} (h : ∀ e ∈ es, e.ok) (j : Nat) : ∀ e ∈ es.take j, e.ok := fun e he => h e (List.mem_of_mem_take he)
set_option maxRecDepth 8000 in
set_option maxHeartbeats 8000000 in
theorem ends_any (a : Option Addr) (n c : Nat) (es : List E6.Ev) (a1 : Option Addr) (n1 c1 : Nat) (os : List E6.Ev) (w : World) (hK : E6.Kr w) (hr : E6.ERow w a n es) (hok : ∀ e ∈ es, e.ok) (hn : n * 56 ≤ 140737488355328) (hc : n ≤ c) (hz : a = none → n = 0 ∧ c = 0) (hr1 : E6.ERow w a1 n1 os) (hok1 : ∀ e ∈ os, e.ok) (hn1 : n1 * 56 ≤ 140737488355328) :
    Calls Tryz.prog 3 #[.slice a n c, .slice a1 n1 c1] w fun e w' => e = .returned (.bool true) ∧ Below w.heap.size w w' := by
  have HAw := hide (awake_any w hK)
  have HK := hide hK
  have HR := hide hr
  have HO := hide hok
  have HN := hide hn
  have hnI : (n : Int) ≤ 9223372036854775806 := by omega
  have hn1I : (n1 : Int) ≤ 9223372036854775806 := by omega
  have hcI : (n : Int) ≤ c := by omega
  have HZ := hide hz
  have HR1 := hide hr1
  have HO1 := hide hok1
  have hsz := hK.size
  obtain ⟨P, hP⟩ : ∃ P, P = (runV es).1 := ⟨_, rfl⟩
  obtain ⟨Y, hY⟩ : ∃ Y, Y = (runV es).2.1 := ⟨_, rfl⟩
  obtain ⟨E, hE⟩ : ∃ E, E = (runV es).2.2 := ⟨_, rfl⟩
  have HP := hide hP
  have HY := hide hY
  have HEr := hide hE
  clear hK hr hok hn hz hr1 hok1 hn1 hP hY hE hc
  go_enter Tryz.func3, Tryz.ntmps3
  go_wp2_with fail
  refine HAw.out.mono ?_
  rintro r w1 ⟨rfl, hb1⟩
  have HB1 := hide hb1
  have HTw := hide (twin_all a n c es w1 (HR.out.bel hb1) HO.out HN.out (fun e => (HZ.out e).2))
  clear hb1 HAw
  go_wp2_with fail
  refine HTw.out.mono ?_
  rintro r w2 ⟨a2, c2, fs, rfl, hrow, hok2, hv, _, hb2⟩
  have HB2 := hide (Below.on HB1.out hb2)
  have HRn := hide (Run_any a2 n c2 fs w2 (HK.out.below HB2.out (by omega)) hrow hok2 hnI)
  rw [hv, ← HP.out, ← HY.out, ← HEr.out] at HRn
  clear hrow hok2 hv hb2 HTw HB1
  go_wp2_with fail
  refine HRn.out.mono ?_
  rintro r w3 ⟨rfl, hb3⟩
  have HB3 := hide (Below.on HB2.out hb3)
  clear hb3 HRn HB2
  by_cases hE0 : E = 0
  · have hEb : (E != 0) = false := by simp [hE0]
    have hb0 : (E6.bounds es).2 = 0 := runV_err (by rw [← HEr.out]; exact hE0)
    have hrun : CS.new.run es 0 = (P, Y) := by rw [HP.out, HY.out, runV_zero hb0]
    obtain ⟨hlen, hchk⟩ := bounds_zero hb0
    rw [HR.out.len] at hlen
    have hl6 : (n : Int) ≤ 1048576 := by omega
    have HBz := hide hb0
    have HRun := hide hrun
    have HCk := hide hchk
    have hbd := run_bd es CS.new 0
    rw [hrun, HR.out.len] at hbd
    have HBd := hide hbd
    have HNw := hide (New_any w3)
    unfold gPtr at HNw
    clear hE0 hb0 hrun hlen hchk hbd HP HY HEr
    go_wp2_with fail
    refine HNw.out.mono ?_
    rintro r w4 ⟨rfl, hs4⟩
    have HS := hide (RSt.under HB3.out hs4)
    generalize w3.heap.size + 5 = cb at HS ⊢
    clear hs4 HNw
    rcases HBd.out with ⟨hP1, hY1⟩ | ⟨hP1, hP2, hY1⟩
    · subst hP1
      subst hY1
      clear HBd
      go_wp2
      go_loopw [12] (fun i wr => ∃ (j : Nat) (M : CS), j ≤ n ∧ i = .int .i64 j ∧ RSt w wr cb M ∧ M.taken = j ∧ Pre es j M) (fun i _ => n - (intOf i).toNat)
      case atStart => exact ⟨0, CS.new, Nat.zero_le _, rfl, HS.out, rfl, Pre.zero es⟩
      case round =>
        obtain ⟨j, M, hj, rfl, hst, htk, hpre⟩ := hrel
        have HS' := hide hst
        have HTk := hide htk
        have HPre := hide hpre
        clear hst HS htk hpre
        by_cases hlt : j < n
        · have hjI : (j : Int) < n := by omega
          have hjn : (j : Int) < n := by omega
          have hjc : (j : Int) ≤ c := by omega
          obtain ⟨b, off, e, ha, hej, x0, x1, x2, x3, x4, hs⟩ := HR.out.at (i := j) (by omega)
          subst ha
          have HEj := hide hej
          have HW0 := hide (end_step HPre.out HRun.out hej (.inl (by decide)))
          have HMe := hide (HO.out e (List.mem_of_getElem? hej))
          have HCe := hide (HCk.out e (List.mem_of_getElem? hej))
          have HSs : Hid (E6.SRow w e.sa e.ls.length e.ls) := hide hs
          have HTwj := hide (twin_all (some ⟨b, off, none⟩) j c (es.take j) wr (erow_take (HR.out.bel HS'.out.bel) (by omega)) (take_ok HO.out j) (by have := HN.out; omega) (fun e => by cases e))
          clear hej hs
          go_wp2_with fail
          refine HTwj.out.mono ?_
          rintro r w5 ⟨a5, c5, gs, rfl, hrow5, hok5, hv5, _, hb5⟩
          have hS5 := HS'.out.on hb5
          have HRj := hide (Run_any a5 j c5 gs w5 (HK.out.below hS5.bel (by omega)) hrow5 hok5 (by omega))
          rw [hv5, HPre.out.take HBz.out] at HRj
          have HS5 := hide hS5
          clear hrow5 hok5 hv5 hb5 hS5 HTwj
          go_wp2_with fail
          refine HRj.out.mono ?_
          rintro r w6 ⟨rfl, hb6⟩
          have HS6 := hide (HS5.out.on hb6)
          clear hb6 HRj HS5
          by_cases ho1 : j < n1
          · have ho1I : (j : Int) < n1 := by omega
            obtain ⟨b1, off1, x, ha1, hxj, y0, y1, y2, y3, y4, hsx⟩ := HR1.out.at ho1
            subst ha1
            have hS6d := HS6.out.on (Below.refl w6.heap.size w6).drew
            have HRef := hide (refused_any (c := c) hS6d HK.out (erow_take (HR.out.bel hS6d.bel) (by omega)) (take_ok HO.out j) (HO1.out x (List.mem_of_getElem? hxj)) (E6.SRow.bel hsx hS6d.bel) HPre.out HTk.out (by omega))
            unfold gPtr at HRef
            have HS6d := hide hS6d
            have HSx : Hid (∀ X, Below w.heap.size w X → X.cell? ⟨b1, off1 + j * 5, none⟩ = some (.int .i64 x.g) ∧ X.cell? ⟨b1, off1 + j * 5 + 1, none⟩ = some (.int .i64 x.k) ∧ X.cell? ⟨b1, off1 + j * 5 + 2, none⟩ = some (.int .u64 x.o) ∧ X.cell? ⟨b1, off1 + j * 5 + 3, none⟩ = some (.int .u64 x.a) ∧ X.cell? ⟨b1, off1 + j * 5 + 4, none⟩ = some (.slice x.sa x.ls.length x.sc)) := hide (fun X hX => ⟨E6.cell_bel y0 hX, E6.cell_bel y1 hX, E6.cell_bel y2 hX, E6.cell_bel y3 hX, E6.cell_bel y4 hX⟩)
            clear hxj y0 y1 y2 y3 y4 hsx hS6d
            go_wp2_with fail
            go_region_held3 (fun X => X.cell? ⟨b1, off1 + j * 5, none⟩ = some (.int .i64 x.g) ∧ X.cell? ⟨b1, off1 + j * 5 + 1, none⟩ = some (.int .i64 x.k) ∧ X.cell? ⟨b1, off1 + j * 5 + 2, none⟩ = some (.int .u64 x.o) ∧ X.cell? ⟨b1, off1 + j * 5 + 3, none⟩ = some (.int .u64 x.a) ∧ X.cell? ⟨b1, off1 + j * 5 + 4, none⟩ = some (.slice x.sa x.ls.length x.sc))
              (first | with_reducible exact HSx.out _ HS6.out.bel | with_reducible exact HSx.out _ HS6d.out.bel | with_reducible exact HSx.out _ HS7.out.bel)
              (first | (go_at_call 13; go_must (refine HRef.out.mono ?_; rintro e9 w7 ⟨rfl, hs7⟩; have HS7 := hide hs7; clear hs7)))
            clear HRef HSx HS6d
            have q0 := E6.cell_bel x0 HS7.out.bel
            have q1 := E6.cell_bel x1 HS7.out.bel
            have q2 := E6.cell_bel x2 HS7.out.bel
            have q3 := E6.cell_bel x3 HS7.out.bel
            have q4 := E6.cell_bel x4 HS7.out.bel
            have HAd := hide (HS7.out.add (by rw [HTk.out]; omega) HK.out e HMe.out (E6.SRow.bel HSs.out HS7.out.bel))
            unfold gPtr at HAd
            rw [HCe.out] at HAd
            obtain ⟨z1, z2, z3⟩ := add_why (M := M) (by rw [HTk.out]; omega) (me e)
            rw [z1, z2, z3, HW0.out, if_neg (fun e => e rfl)] at HAd
            clear z1 z2 z3
            go_wp2_with fail
            refine HAd.out.mono ?_
            rintro r w9 ⟨rfl, hs9⟩
            have HS9 := hide hs9
            have HTn := hide (next_taken HW0.out)
            clear hs9 HAd q0 q1 q2 q3 q4
            go_wp2
            exact ⟨⟨j + 1, _, by omega, by go_num, HS9.out, by rw [HTn.out, HTk.out], HPre.out.succ HEj.out HW0.out⟩, by simp [intOf]; omega⟩

          · have ho1I : ¬ (j : Int) < n1 := by omega
            have q0 := E6.cell_bel x0 HS6.out.bel
            have q1 := E6.cell_bel x1 HS6.out.bel
            have q2 := E6.cell_bel x2 HS6.out.bel
            have q3 := E6.cell_bel x3 HS6.out.bel
            have q4 := E6.cell_bel x4 HS6.out.bel
            have HAd := hide (HS6.out.add (by rw [HTk.out]; omega) HK.out e HMe.out (E6.SRow.bel HSs.out HS6.out.bel))
            unfold gPtr at HAd
            rw [HCe.out] at HAd
            obtain ⟨z1, z2, z3⟩ := add_why (M := M) (by rw [HTk.out]; omega) (me e)
            rw [z1, z2, z3, HW0.out, if_neg (fun e => e rfl)] at HAd
            clear z1 z2 z3
            go_wp2_with fail
            refine HAd.out.mono ?_
            rintro r w9 ⟨rfl, hs9⟩
            have HS9 := hide hs9
            have HTn := hide (next_taken HW0.out)
            clear hs9 HAd q0 q1 q2 q3 q4
            go_wp2
            exact ⟨⟨j + 1, _, by omega, by go_num, HS9.out, by rw [HTn.out, HTk.out], HPre.out.succ HEj.out HW0.out⟩, by simp [intOf]; omega⟩

        · have hjn : j = n := by omega
          subst hjn
          go_wp2_with fail
          go_wp2
          go_ret
          exact ⟨rfl, HS'.out.bel⟩
    · obtain ⟨p, rfl⟩ : ∃ p : Nat, P = (p : Int) := ⟨P.toNat, by omega⟩
      have hYb : (Y == 0) = false := by rw [beq_eq_false_iff_ne]; exact hY1
      have HY1 := hide hY1
      have hpn : (p : Int) < n := by omega
      have hd1 : decide ((n : Int) ≤ (p : Int)) = false := decide_eq_false (by omega)
      have hd2 : decide ((p : Int) < 0) = false := decide_eq_false (by omega)
      have hd4 : decide (n ≤ p) = false := decide_eq_false (by omega)
      have hd3 : decide ((0 : Int) ≤ (p : Int)) = true := decide_eq_true (by omega)
      clear HBd hP1 hP2 hY1
      go_wp2
      go_loopw [12] (fun i wr => ∃ (j : Nat) (M : CS), j ≤ p ∧ i = .int .i64 j ∧ RSt w wr cb M ∧ M.taken = j ∧ Pre es j M) (fun i _ => p - (intOf i).toNat)
      case atStart => exact ⟨0, CS.new, Nat.zero_le _, rfl, HS.out, rfl, Pre.zero es⟩
      case round =>
        obtain ⟨j, M, hj, rfl, hst, htk, hpre⟩ := hrel
        have HS' := hide hst
        have HTk := hide htk
        have HPre := hide hpre
        clear hst HS htk hpre
        by_cases hlt : j < p
        · have hjI : (j : Int) < p := by omega
          have hjn : (j : Int) < n := by omega
          have hjc : (j : Int) ≤ c := by omega
          obtain ⟨b, off, e, ha, hej, x0, x1, x2, x3, x4, hs⟩ := HR.out.at (i := j) (by omega)
          subst ha
          have HEj := hide hej
          have HW0 := hide (end_step HPre.out HRun.out hej (.inr (by omega)))
          have HMe := hide (HO.out e (List.mem_of_getElem? hej))
          have HCe := hide (HCk.out e (List.mem_of_getElem? hej))
          have HSs : Hid (E6.SRow w e.sa e.ls.length e.ls) := hide hs
          have HTwj := hide (twin_all (some ⟨b, off, none⟩) j c (es.take j) wr (erow_take (HR.out.bel HS'.out.bel) (by omega)) (take_ok HO.out j) (by have := HN.out; omega) (fun e => by cases e))
          clear hej hs
          go_wp2_with fail
          refine HTwj.out.mono ?_
          rintro r w5 ⟨a5, c5, gs, rfl, hrow5, hok5, hv5, _, hb5⟩
          have hS5 := HS'.out.on hb5
          have HRj := hide (Run_any a5 j c5 gs w5 (HK.out.below hS5.bel (by omega)) hrow5 hok5 (by omega))
          rw [hv5, HPre.out.take HBz.out] at HRj
          have HS5 := hide hS5
          clear hrow5 hok5 hv5 hb5 hS5 HTwj
          go_wp2_with fail
          refine HRj.out.mono ?_
          rintro r w6 ⟨rfl, hb6⟩
          have HS6 := hide (HS5.out.on hb6)
          clear hb6 HRj HS5
          by_cases ho1 : j < n1
          · have ho1I : (j : Int) < n1 := by omega
            obtain ⟨b1, off1, x, ha1, hxj, y0, y1, y2, y3, y4, hsx⟩ := HR1.out.at ho1
            subst ha1
            have hS6d := HS6.out.on (Below.refl w6.heap.size w6).drew
            have HRef := hide (refused_any (c := c) hS6d HK.out (erow_take (HR.out.bel hS6d.bel) (by omega)) (take_ok HO.out j) (HO1.out x (List.mem_of_getElem? hxj)) (E6.SRow.bel hsx hS6d.bel) HPre.out HTk.out (by omega))
            unfold gPtr at HRef
            have HS6d := hide hS6d
            have HSx : Hid (∀ X, Below w.heap.size w X → X.cell? ⟨b1, off1 + j * 5, none⟩ = some (.int .i64 x.g) ∧ X.cell? ⟨b1, off1 + j * 5 + 1, none⟩ = some (.int .i64 x.k) ∧ X.cell? ⟨b1, off1 + j * 5 + 2, none⟩ = some (.int .u64 x.o) ∧ X.cell? ⟨b1, off1 + j * 5 + 3, none⟩ = some (.int .u64 x.a) ∧ X.cell? ⟨b1, off1 + j * 5 + 4, none⟩ = some (.slice x.sa x.ls.length x.sc)) := hide (fun X hX => ⟨E6.cell_bel y0 hX, E6.cell_bel y1 hX, E6.cell_bel y2 hX, E6.cell_bel y3 hX, E6.cell_bel y4 hX⟩)
            clear hxj y0 y1 y2 y3 y4 hsx hS6d
            go_wp2_with fail
            go_region_held3 (fun X => X.cell? ⟨b1, off1 + j * 5, none⟩ = some (.int .i64 x.g) ∧ X.cell? ⟨b1, off1 + j * 5 + 1, none⟩ = some (.int .i64 x.k) ∧ X.cell? ⟨b1, off1 + j * 5 + 2, none⟩ = some (.int .u64 x.o) ∧ X.cell? ⟨b1, off1 + j * 5 + 3, none⟩ = some (.int .u64 x.a) ∧ X.cell? ⟨b1, off1 + j * 5 + 4, none⟩ = some (.slice x.sa x.ls.length x.sc))
              (first | with_reducible exact HSx.out _ HS6.out.bel | with_reducible exact HSx.out _ HS6d.out.bel | with_reducible exact HSx.out _ HS7.out.bel)
              (first | (go_at_call 13; go_must (refine HRef.out.mono ?_; rintro e9 w7 ⟨rfl, hs7⟩; have HS7 := hide hs7; clear hs7)))
            clear HRef HSx HS6d
            have q0 := E6.cell_bel x0 HS7.out.bel
            have q1 := E6.cell_bel x1 HS7.out.bel
            have q2 := E6.cell_bel x2 HS7.out.bel
            have q3 := E6.cell_bel x3 HS7.out.bel
            have q4 := E6.cell_bel x4 HS7.out.bel
            have HAd := hide (HS7.out.add (by rw [HTk.out]; omega) HK.out e HMe.out (E6.SRow.bel HSs.out HS7.out.bel))
            unfold gPtr at HAd
            rw [HCe.out] at HAd
            obtain ⟨z1, z2, z3⟩ := add_why (M := M) (by rw [HTk.out]; omega) (me e)
            rw [z1, z2, z3, HW0.out, if_neg (fun e => e rfl)] at HAd
            clear z1 z2 z3
            go_wp2_with fail
            refine HAd.out.mono ?_
            rintro r w9 ⟨rfl, hs9⟩
            have HS9 := hide hs9
            have HTn := hide (next_taken HW0.out)
            clear hs9 HAd q0 q1 q2 q3 q4
            go_wp2
            exact ⟨⟨j + 1, _, by omega, by go_num, HS9.out, by rw [HTn.out, HTk.out], HPre.out.succ HEj.out HW0.out⟩, by simp [intOf]; omega⟩

          · have ho1I : ¬ (j : Int) < n1 := by omega
            have q0 := E6.cell_bel x0 HS6.out.bel
            have q1 := E6.cell_bel x1 HS6.out.bel
            have q2 := E6.cell_bel x2 HS6.out.bel
            have q3 := E6.cell_bel x3 HS6.out.bel
            have q4 := E6.cell_bel x4 HS6.out.bel
            have HAd := hide (HS6.out.add (by rw [HTk.out]; omega) HK.out e HMe.out (E6.SRow.bel HSs.out HS6.out.bel))
            unfold gPtr at HAd
            rw [HCe.out] at HAd
            obtain ⟨z1, z2, z3⟩ := add_why (M := M) (by rw [HTk.out]; omega) (me e)
            rw [z1, z2, z3, HW0.out, if_neg (fun e => e rfl)] at HAd
            clear z1 z2 z3
            go_wp2_with fail
            refine HAd.out.mono ?_
            rintro r w9 ⟨rfl, hs9⟩
            have HS9 := hide hs9
            have HTn := hide (next_taken HW0.out)
            clear hs9 HAd q0 q1 q2 q3 q4
            go_wp2
            exact ⟨⟨j + 1, _, by omega, by go_num, HS9.out, by rw [HTn.out, HTk.out], HPre.out.succ HEj.out HW0.out⟩, by simp [intOf]; omega⟩

        · have hjn : j = p := by omega
          subst hjn
          go_wp2_with fail
          have hjn : (j : Int) < n := hpn
          have hjc : (j : Int) + 1 ≤ c := by omega
          obtain ⟨b, off, e, ha, hej, x0, x1, x2, x3, x4, hs⟩ := HR.out.at (i := j) (by omega)
          subst ha
          obtain ⟨hwy, _⟩ := last_why HPre.out HRun.out hej
          have HWy := hide hwy
          have HEj := hide hej
          have HMe := hide (HO.out e (List.mem_of_getElem? hej))
          have HCe := hide (HCk.out e (List.mem_of_getElem? hej))
          have HSs : Hid (E6.SRow w e.sa e.ls.length e.ls) := hide hs
          have HLr := hide (last_run HPre.out HRun.out HBz.out hej)
          clear hej hs hwy
          rename World => Wk
          go_loopw [18] (fun i wr => ∃ k : Nat, k ≤ 2 ∧ i = .int .i64 k ∧ RSt w wr cb M) (fun i _ => 2 - (intOf i).toNat)
          case atStart => exact ⟨0, by omega, rfl, HS'.out⟩
          case round =>
            obtain ⟨k, hk, rfl, hst⟩ := hrel
            have HSk := hide hst
            clear hst HS'
            by_cases hk2 : k < 2
            · have hkI : (k : Int) < 2 := by omega
              have q0 := E6.cell_bel x0 HSk.out.bel
              have q1 := E6.cell_bel x1 HSk.out.bel
              have q2 := E6.cell_bel x2 HSk.out.bel
              have q3 := E6.cell_bel x3 HSk.out.bel
              have q4 := E6.cell_bel x4 HSk.out.bel
              have HAd := hide (HSk.out.add (by rw [HTk.out]; omega) HK.out e HMe.out (E6.SRow.bel HSs.out HSk.out.bel))
              unfold gPtr at HAd
              rw [HCe.out] at HAd
              obtain ⟨z1, z2, z3⟩ := add_why (M := M) (by rw [HTk.out]; omega) (me e)
              rw [z1, z2, z3, HWy.out, if_pos HY1.out] at HAd
              clear z1 z2 z3
              go_wp2_with fail
              refine HAd.out.mono ?_
              rintro r w9 ⟨rfl, hs9⟩
              have HS9 := hide hs9
              clear hs9 HAd q0 q1 q2 q3 q4
              go_wp2
              exact ⟨⟨k + 1, by omega, by go_num, HS9.out⟩, by simp [intOf]; omega⟩
            · have hkI : ¬ (k : Int) < 2 := by omega
              have HTwj := hide (twin_all (some ⟨b, off, none⟩) (j + 1) c (es.take (j + 1)) wr (erow_take (HR.out.bel HSk.out.bel) (by omega)) (take_ok HO.out (j + 1)) (by have := HN.out; omega) (fun e => by cases e))
              go_wp2_with fail
              refine HTwj.out.mono ?_
              rintro r w5 ⟨a5, c5, gs, rfl, hrow5, hok5, hv5, _, hb5⟩
              have hS5 := HSk.out.on hb5
              have HRj := hide (Run_any a5 (j + 1) c5 gs w5 (HK.out.below hS5.bel (by omega)) hrow5 hok5 (by omega))
              rw [hv5, HLr.out] at HRj
              have HS5 := hide hS5
              clear hrow5 hok5 hv5 hb5 hS5 HTwj
              go_wp2_with fail
              refine HRj.out.mono ?_
              rintro r w6 ⟨rfl, hb6⟩
              have HS6 := hide (HS5.out.on hb6)
              clear hb6 HRj HS5
              go_wp2
              go_ret
              exact ⟨rfl, HS6.out.bel⟩
  · have hEb : (E != 0) = true := by simp [hE0]
    have hb0 : ¬ (E6.bounds es).2 = 0 := fun h0 => hE0 (by rw [HEr.out, runV_zero h0])
    have hv : runV es = ((E6.bounds es).1, 0, (E6.bounds es).2) := by unfold runV; rw [if_pos hb0]
    have hP9 := HP.out
    have hY9 := HY.out
    have hE9 := HEr.out
    rw [hv] at hP9 hY9 hE9
    have HP9 := hide hP9
    have HY9 := hide hY9
    have HE9 := hide hE9
    have HTw2 := hide (twin_all a n c es w3 (HR.out.bel HB3.out) HO.out HN.out (fun e => (HZ.out e).2))
    clear hb0 hv hE0 hP9 hY9 hE9 HP HY HEr
    go_wp2_with fail
    refine HTw2.out.mono ?_
    rintro r w4 ⟨a4, c4, gs, rfl, hrow, hok2, _, hbn, hb4⟩
    have HB4 := hide (Below.on HB3.out hb4)
    have HBn := hide (E6.bounds_any a4 n c4 gs w4 (HK.out.below HB4.out (by omega)) hrow hok2 hnI)
    rw [hbn, ← HP9.out, ← HE9.out] at HBn
    clear hrow hok2 hbn hb4 HTw2
    have hY0 := HY9.out
    subst hY0
    go_wp2_with fail
    refine HBn.out.mono ?_
    rintro r w5 ⟨rfl, hb5⟩
    have HB5 := hide (Below.on HB4.out hb5)
    clear hb5 HBn
    go_wp2
    go_ret
    exact ⟨rfl, HB5.out⟩
end Go.Proofs.YtafkammiehcdjaaGreatDoor
