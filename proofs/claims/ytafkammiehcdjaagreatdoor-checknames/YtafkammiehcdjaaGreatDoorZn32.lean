import Derived.Test.YtafkammiehcdjaaGreatDoorZn31
import Derived.Test.YtafkammiehcdjaaGreatDoorZn21
import Derived.Test.YtafkammiehcdjaaGreatDoorZn29
/-
  Names are free: renamed.
-/
namespace Go.Proofs.YtafkammiehcdjaaGreatDoor
open Go.RowKit Go.Maps Go.Shelf
set_option linter.unusedVariables false
theorem or_one16 (x : Int) (h1 : 0 ≤ x) (h2 : x ≤ 18446744073709551615) : bits .or .u64 x 1 = ((x.toNat / 2 * 2 + 1 : Nat) : Int) := by
  obtain ⟨n, rfl⟩ := Int.eq_ofNat_of_zero_le h1
  have h := (bits_nat .u64 64 (by decide) wraps_u64 n 1 (by omega) (by omega)).2
  have e : ((1 : Nat) : Int) = 1 := rfl
  rw [e] at h; rw [h, Int.toNat_natCast]
  congr 1
  have g := Nat.two_pow_add_eq_or_of_lt (i := 1) (b := 1) (by omega) (n / 2)
  have g0 := Nat.two_pow_add_eq_or_of_lt (i := 1) (b := n % 2) (by omega) (n / 2)
  have hn : 2 ^ 1 * (n / 2) + n % 2 = n := by omega
  rw [hn] at g0
  rcases Nat.mod_two_eq_zero_or_one n with hm | hm
  · rw [hm, Nat.or_zero] at g0
    rw [← g0] at g; omega
  · rw [hm] at g0
    have : n ||| 1 = n := by
      conv => lhs; rw [g0]
      rw [Nat.or_assoc, Nat.or_self, ← g0]
    rw [this]; omega
def mix (ρ : E6.Ev → E6.Ev) (fs : List E6.Ev) (j : Nat) : List E6.Ev := (fs.take j).map ρ ++ fs.drop j
section
variable {ρ : E6.Ev → E6.Ev} {fs : List E6.Ev} {j : Nat} {x : E6.Ev}
theorem mix_at (hx : fs[j]? = some x) : (mix ρ fs j)[j]? = some x := by
  have hl := (List.getElem?_eq_some_iff.1 hx).1
  unfold mix
  have h1 : ((fs.take j).map ρ).length = j := by rw [List.length_map, List.length_take]; omega
  rw [List.getElem?_append_right (by omega), h1, Nat.sub_self, List.getElem?_drop, Nat.add_zero, hx]
theorem mix_set (hx : fs[j]? = some x) : (mix ρ fs j).set j (ρ x) = mix ρ fs (j + 1) := by
  obtain ⟨hl, h9⟩ := List.getElem?_eq_some_iff.1 hx
  unfold mix
  have h1 : ((fs.take j).map ρ).length = j := by rw [List.length_map, List.length_take]; omega
  rw [List.set_append_right _ _ (by omega), h1, Nat.sub_self, List.drop_eq_getElem_cons hl, List.set_cons_zero, List.take_succ_eq_append_getElem hl, List.map_append, List.append_assoc, h9]
  rfl
theorem mix_zero : mix ρ fs 0 = fs := by unfold mix; simp
theorem mix_all {n : Nat} (h : fs.length = n) : mix ρ fs n = fs.map ρ := by unfold mix; rw [← h, List.take_length, List.drop_length, List.append_nil]
end
theorem twins_map {es fs : List E6.Ev} (h : E6.Twins es fs) (F S t : Int) : E6.Twins (es.map (rnE F S t)) (fs.map (rnE F S t)) := by
  induction es generalizing fs with
  | nil => cases fs with
    | nil => trivial
    | cons _ _ => exact h.elim
  | cons x es ih => cases fs with
    | nil => exact h.elim
    | cons y fs =>
      refine ⟨?_, ih h.2⟩
      obtain ⟨h1, h2, h3, h4, h5⟩ := h.1
      unfold rnE
      exact ⟨by show tgI t y.g = tgI t x.g; rw [h1], h2, by show (rnI F S t).ob y.k y.o = (rnI F S t).ob x.k x.o; rw [h2, h3], by show (if y.k = 7 ∨ y.k = 8 then tgI t y.a else y.a) = (if x.k = 7 ∨ x.k = 8 then tgI t x.a else x.a); rw [h2, h4], h5⟩
theorem ob_num {o F S M1 M2 : Int} (h1 : IntKind.u64.wrap (o * F) = M1) (h2 : IntKind.u64.wrap (M1 + S) = M2) : M2 = obI F S 0 o ∧ ∀ d, IntKind.u64.wrap (M2 + d) = obI F S d o := by
  rw [IntKind.wrap_u64] at h1 h2
  unfold obI
  generalize o * F = p at h1 ⊢
  refine ⟨by omega, fun d => ?_⟩
  rw [IntKind.wrap_u64]
  omega
set_option maxRecDepth 8000 in
set_option maxHeartbeats 8000000 in
theorem renamed_any (a : Option Addr) (n c : Nat) (es : List E6.Ev) (w : World) (hr : E6.ERow w a n es) (hok : ∀ e ∈ es, e.ok) (hn : n * 56 ≤ 140737488355328) (hc0 : a = none → c = 0) (hchk : ∀ e ∈ es, e.chk = 0) (hn6 : (n : Int) ≤ 1048576) (fac S t F : Int) (hS : IsU S) (ht : -9223372036854775808 ≤ t ∧ t ≤ 9223372036854775807) (hor : bits .or .u64 fac 1 = F) :
    Calls Tryz.prog 15 #[.slice a n c, .int .u64 fac, .int .u64 S, .int .i64 t] w fun e w' => ∃ a' c' L, e = .returned (.slice a' n c') ∧ E6.ERow w' a' n L ∧ (∀ f ∈ L, f.ok) ∧ E6.Twins (es.map (rnE F S t)) L ∧ Below w.heap.size w w' := by
  have HTw := hide (E6.twin_any a n c es w hr hok hn hc0)
  have HR := hide hr
  have HO := hide hok
  have HCk := hide hchk
  have HT := hide ht
  clear hr hok hn hc0 hchk ht hS
  go_enter Tryz.func15, Tryz.ntmps15
  go_wp2_with fail
  refine HTw.out.mono ?_
  rintro r w1 ⟨fs, v, rfl, htw⟩
  have HTs := hide (htw.twins HR.out.len)
  have HOf := hide (htw.ok HO.out)
  have HLn := hide htw.len
  have HCf : Hid (∀ f ∈ fs, f.chk = 0) := hide (fun f hf => by
    obtain ⟨i, hi, e0⟩ := List.getElem_of_mem hf
    obtain ⟨e, h1, h2, _⟩ := htw.each i f (by rw [List.getElem?_eq_getElem hi, e0])
    rw [h2.chk]
    exact HCk.out e (List.mem_of_getElem? h1))
  by_cases hn0 : n = 0
  · subst hn0
    obtain ⟨a', c', rfl, hrow, _⟩ := htw.form
    have HRw := hide hrow
    have HB := hide htw.bel
    clear htw hrow HTw
    go_wp2
    go_loopw [10] (fun i wr => i = .int .i64 0 ∧ wr = w1) (fun _ _ => 0)
    case atStart => exact ⟨rfl, rfl⟩
    case round =>
      obtain ⟨rfl, hw9⟩ := hrel
      obtain rfl : w1 = wr := hw9.symm
      go_wp2
      go_ret
      have h0 : fs = [] := List.eq_nil_of_length_eq_zero HLn.out
      have h1 := HTs.out
      rw [h0] at h1
      cases es with
      | nil => first | exact ⟨a', c', fs, rfl, HRw.out, HOf.out, by rw [h0]; trivial, HB.out⟩ | exact ⟨a', c', fs, HRw.out, HOf.out, by rw [h0]; trivial, HB.out⟩ | exact ⟨a', ⟨c', rfl⟩, fs, HRw.out, HOf.out, by rw [h0]; trivial, HB.out⟩
      | cons x es => exact h1.elim
  · have ho : Own layV 36 w1 w.heap.size v fs := by
      unfold Own
      rw [htw.len, ← ecells_fl]
      exact htw.own
    obtain ⟨g, c', hv, hge, hlt, hcap⟩ := ho.frm (by rw [htw.len]; omega)
    rw [htw.len] at hv
    subst hv
    have hst : ∀ f ∈ fs, w1.ownsRow w.heap.size 9 1 (.slice f.sa f.ls.length f.sc) f.ls.length (f.ls.map Value.string) := fun f hf => by
      obtain ⟨i, hi, e0⟩ := List.getElem_of_mem hf
      obtain ⟨e, _, _, _, _, h5⟩ := htw.each i f (by rw [List.getElem?_eq_getElem hi, e0])
      exact h5
    have HRd : Hid (Rd w w1 g c' n (mix (rnE F S t) fs 0)) := hide (by rw [mix_zero]; exact ⟨ho, htw.len, hst, htw.bel⟩)
    clear htw ho hge hlt hcap hst HTw hn0
    go_wp2
    go_loopw [10] (fun i wr => ∃ (j : Nat), j ≤ n ∧ i = .int .i64 j ∧ Hid (Rd w wr g c' n (mix (rnE F S t) fs j))) (fun i _ => n - (intOf i).toNat)
    case atStart => exact ⟨0, Nat.zero_le _, rfl, HRd⟩
    case round =>
      obtain ⟨j, hj, rfl, HRj⟩ := hrel
      clear HRd
      by_cases hlt : j < n
      · have hjI : (j : Int) < n := by omega
        obtain ⟨x, hx⟩ : ∃ x, fs[j]? = some x := ⟨_, List.getElem?_eq_getElem (by rw [HLn.out]; exact hlt)⟩
        have hxm := List.mem_of_getElem? hx
        have hxe := (gdm_of (HCf.out x hxm) (HOf.out x hxm)).2
        have HXE := hide hxe
        have HXG : Hid (IsG x.g) := hide ⟨hxe.ok.g0, hxe.ok.g1⟩
        have HAt := hide (mix_at (ρ := rnE F S t) hx)
        have HSt := hide (mix_set (ρ := rnE F S t) hx)
        obtain ⟨c0, c1, c2, c3, f0, f2, f3⟩ := HRj.out.cell HAt.out
        have HLk := hide (lockKind_any x.k wr)
        have HCn := hide (chanKind_any x.k wr)
        obtain ⟨M1, hM1⟩ : ∃ M1, IntKind.u64.wrap (x.o * F) = M1 := ⟨_, rfl⟩
        obtain ⟨M2, hM2⟩ : ∃ M2, IntKind.u64.wrap (M1 + S) = M2 := ⟨_, rfl⟩
        have hMM := ob_num hM1 hM2
        have HMM := hide hMM
        clear hx hxm hxe hMM
        generalize mix (rnE F S t) fs j = L at HRj HAt HSt
        by_cases hA : 3 ≤ x.k ∧ x.k ≤ 6
        · rw [decide_eq_true hA] at HLk
          clear HCn
          have n7 : (x.k == 7) = false := beq_f (by omega)
          have n8 : (x.k == 8) = false := beq_f (by omega)
          have HOb : Hid ((rnI F S t).ob x.k x.o = obI F S 0 x.o) := hide (by unfold Rn.ob rnI; dsimp only; rw [if_pos hA])
          have HNk : Hid (¬ (x.k = 7 ∨ x.k = 8)) := hide (by omega)
          clear hA
          go_wp2_with fail
          refine HLk.out.mono ?_
          rintro r w2 ⟨rfl, hw9⟩
          obtain rfl : wr = w2 := hw9.symm
          clear HLk
          have HV : Hid (M2 = obI F S 0 x.o) := hide (by exact HMM.out.1)
          have hs1 := HRj.out.set (t := 2) (x' := { x with o := M2 }) (u := .int .u64 M2) HAt.out (by decide) rfl ⟨rfl, rfl, rfl⟩
          have HA := hide hs1
          have HAt2 : Hid ((L.set j { x with o := M2 })[j]? = some { x with o := M2 }) := hide (List.getElem?_set_self (List.getElem?_eq_some_iff.1 HAt.out).1)
          obtain ⟨d0, d1, d2, d3, k0, k2, k3⟩ := HA.out.cell HAt2.out
          dsimp only at d0 d1 d2 d3
          have HTg := hide (turned_any t x.g (wr.setCell ⟨g, j * 5 + 2, none⟩ (.int .u64 M2)) HXG.out HT.out)
          have HZ : Hid (Rd w ((wr.setCell ⟨g, j * 5 + 2, none⟩ (.int .u64 M2)).setCell ⟨g, j * 5, none⟩ (.int .i64 (tgI t x.g))) g c' n (mix (rnE F S t) fs (j + 1))) := hide (by
            have h1 := HA.out.set (t := 0) (x' := { x with o := M2, g := tgI t x.g }) (u := .int .i64 (tgI t x.g)) HAt2.out (by decide) rfl ⟨rfl, rfl, rfl⟩
            rw [List.set_set, show ({ x with o := M2, g := tgI t x.g } : E6.Ev) = rnE F S t x by unfold rnE; rw [HV.out, HOb.out, if_neg HNk.out], HSt.out] at h1
            exact h1)
          clear hs1 HV HMM HSt HAt
          generalize tgI t x.g = tg at HTg HZ
          go_wp2_with fail
          refine HTg.out.mono ?_
          rintro r w3 ⟨rfl, hw9⟩
          subst hw9
          clear HTg
          go_wp2
          exact ⟨⟨j + 1, by omega, by go_num, HZ⟩, by simp [intOf]; omega⟩
        · rw [decide_eq_false hA] at HLk
          by_cases hB : 9 ≤ x.k ∧ x.k ≤ 13
          · rw [decide_eq_true hB] at HCn
            have n7 : (x.k == 7) = false := beq_f (by omega)
            have n8 : (x.k == 8) = false := beq_f (by omega)
            have HOb : Hid ((rnI F S t).ob x.k x.o = obI F S 1 x.o) := hide (by unfold Rn.ob rnI; dsimp only; rw [if_neg hA, if_pos hB])
            have HNk : Hid (¬ (x.k = 7 ∨ x.k = 8)) := hide (by omega)
            clear hA hB
            go_wp2_with fail
            refine HLk.out.mono ?_
            rintro r w2 ⟨rfl, hw9⟩
            obtain rfl : wr = w2 := hw9.symm
            clear HLk
            go_wp2_with fail
            refine HCn.out.mono ?_
            rintro r w2 ⟨rfl, hw9⟩
            obtain rfl : wr = w2 := hw9.symm
            clear HCn
            obtain ⟨M3, hM3⟩ : ∃ M3, IntKind.u64.wrap (M2 + 1) = M3 := ⟨_, rfl⟩
            have HV : Hid (M3 = obI F S 1 x.o) := hide (by rw [← hM3]; exact HMM.out.2 1)
            have hs1 := HRj.out.set (t := 2) (x' := { x with o := M3 }) (u := .int .u64 M3) HAt.out (by decide) rfl ⟨rfl, rfl, rfl⟩
            have HA := hide hs1
            have HAt2 : Hid ((L.set j { x with o := M3 })[j]? = some { x with o := M3 }) := hide (List.getElem?_set_self (List.getElem?_eq_some_iff.1 HAt.out).1)
            obtain ⟨d0, d1, d2, d3, k0, k2, k3⟩ := HA.out.cell HAt2.out
            dsimp only at d0 d1 d2 d3
            have HTg := hide (turned_any t x.g (wr.setCell ⟨g, j * 5 + 2, none⟩ (.int .u64 M3)) HXG.out HT.out)
            have HZ : Hid (Rd w ((wr.setCell ⟨g, j * 5 + 2, none⟩ (.int .u64 M3)).setCell ⟨g, j * 5, none⟩ (.int .i64 (tgI t x.g))) g c' n (mix (rnE F S t) fs (j + 1))) := hide (by
              have h1 := HA.out.set (t := 0) (x' := { x with o := M3, g := tgI t x.g }) (u := .int .i64 (tgI t x.g)) HAt2.out (by decide) rfl ⟨rfl, rfl, rfl⟩
              rw [List.set_set, show ({ x with o := M3, g := tgI t x.g } : E6.Ev) = rnE F S t x by unfold rnE; rw [HV.out, HOb.out, if_neg HNk.out], HSt.out] at h1
              exact h1)
            clear hs1 HV HMM HSt HAt
            generalize tgI t x.g = tg at HTg HZ
            go_wp2_with fail
            refine HTg.out.mono ?_
            rintro r w3 ⟨rfl, hw9⟩
            subst hw9
            clear HTg
            go_wp2
            exact ⟨⟨j + 1, by omega, by go_num, HZ⟩, by simp [intOf]; omega⟩
          · rw [decide_eq_false hB] at HCn
            by_cases hC : x.k = 14 ∨ x.k = 15
            · have HW : Hid True := hide trivial
              rcases hC with hC | hC
              · clear HW
                have m14 : (x.k == 14) = true := beq_t hC
                have n7 : (x.k == 7) = false := beq_f (by omega)
                have n8 : (x.k == 8) = false := beq_f (by omega)
                have HOb : Hid ((rnI F S t).ob x.k x.o = obI F S 2 x.o) := hide (by unfold Rn.ob rnI; dsimp only; rw [if_neg hA, if_neg hB, if_pos (.inl hC)])
                have HNk : Hid (¬ (x.k = 7 ∨ x.k = 8)) := hide (by omega)
                clear hA hB hC
                go_wp2_with fail
                refine HLk.out.mono ?_
                rintro r w2 ⟨rfl, hw9⟩
                obtain rfl : wr = w2 := hw9.symm
                clear HLk
                go_wp2_with fail
                refine HCn.out.mono ?_
                rintro r w2 ⟨rfl, hw9⟩
                obtain rfl : wr = w2 := hw9.symm
                clear HCn
                obtain ⟨M3, hM3⟩ : ∃ M3, IntKind.u64.wrap (M2 + 2) = M3 := ⟨_, rfl⟩
                have HV : Hid (M3 = obI F S 2 x.o) := hide (by rw [← hM3]; exact HMM.out.2 2)
                have hs1 := HRj.out.set (t := 2) (x' := { x with o := M3 }) (u := .int .u64 M3) HAt.out (by decide) rfl ⟨rfl, rfl, rfl⟩
                have HA := hide hs1
                have HAt2 : Hid ((L.set j { x with o := M3 })[j]? = some { x with o := M3 }) := hide (List.getElem?_set_self (List.getElem?_eq_some_iff.1 HAt.out).1)
                obtain ⟨d0, d1, d2, d3, k0, k2, k3⟩ := HA.out.cell HAt2.out
                dsimp only at d0 d1 d2 d3
                have HTg := hide (turned_any t x.g (wr.setCell ⟨g, j * 5 + 2, none⟩ (.int .u64 M3)) HXG.out HT.out)
                have HZ : Hid (Rd w ((wr.setCell ⟨g, j * 5 + 2, none⟩ (.int .u64 M3)).setCell ⟨g, j * 5, none⟩ (.int .i64 (tgI t x.g))) g c' n (mix (rnE F S t) fs (j + 1))) := hide (by
                  have h1 := HA.out.set (t := 0) (x' := { x with o := M3, g := tgI t x.g }) (u := .int .i64 (tgI t x.g)) HAt2.out (by decide) rfl ⟨rfl, rfl, rfl⟩
                  rw [List.set_set, show ({ x with o := M3, g := tgI t x.g } : E6.Ev) = rnE F S t x by unfold rnE; rw [HV.out, HOb.out, if_neg HNk.out], HSt.out] at h1
                  exact h1)
                clear hs1 HV HMM HSt HAt
                generalize tgI t x.g = tg at HTg HZ
                go_wp2_with fail
                refine HTg.out.mono ?_
                rintro r w3 ⟨rfl, hw9⟩
                subst hw9
                clear HTg
                go_wp2
                exact ⟨⟨j + 1, by omega, by go_num, HZ⟩, by simp [intOf]; omega⟩
              · clear HW
                have m15 : (x.k == 15) = true := beq_t hC
                have n14 : (x.k == 14) = false := beq_f (by omega)
                have n7 : (x.k == 7) = false := beq_f (by omega)
                have n8 : (x.k == 8) = false := beq_f (by omega)
                have HOb : Hid ((rnI F S t).ob x.k x.o = obI F S 2 x.o) := hide (by unfold Rn.ob rnI; dsimp only; rw [if_neg hA, if_neg hB, if_pos (.inr hC)])
                have HNk : Hid (¬ (x.k = 7 ∨ x.k = 8)) := hide (by omega)
                clear hA hB hC
                go_wp2_with fail
                refine HLk.out.mono ?_
                rintro r w2 ⟨rfl, hw9⟩
                obtain rfl : wr = w2 := hw9.symm
                clear HLk
                go_wp2_with fail
                refine HCn.out.mono ?_
                rintro r w2 ⟨rfl, hw9⟩
                obtain rfl : wr = w2 := hw9.symm
                clear HCn
                obtain ⟨M3, hM3⟩ : ∃ M3, IntKind.u64.wrap (M2 + 2) = M3 := ⟨_, rfl⟩
                have HV : Hid (M3 = obI F S 2 x.o) := hide (by rw [← hM3]; exact HMM.out.2 2)
                have hs1 := HRj.out.set (t := 2) (x' := { x with o := M3 }) (u := .int .u64 M3) HAt.out (by decide) rfl ⟨rfl, rfl, rfl⟩
                have HA := hide hs1
                have HAt2 : Hid ((L.set j { x with o := M3 })[j]? = some { x with o := M3 }) := hide (List.getElem?_set_self (List.getElem?_eq_some_iff.1 HAt.out).1)
                obtain ⟨d0, d1, d2, d3, k0, k2, k3⟩ := HA.out.cell HAt2.out
                dsimp only at d0 d1 d2 d3
                have HTg := hide (turned_any t x.g (wr.setCell ⟨g, j * 5 + 2, none⟩ (.int .u64 M3)) HXG.out HT.out)
                have HZ : Hid (Rd w ((wr.setCell ⟨g, j * 5 + 2, none⟩ (.int .u64 M3)).setCell ⟨g, j * 5, none⟩ (.int .i64 (tgI t x.g))) g c' n (mix (rnE F S t) fs (j + 1))) := hide (by
                  have h1 := HA.out.set (t := 0) (x' := { x with o := M3, g := tgI t x.g }) (u := .int .i64 (tgI t x.g)) HAt2.out (by decide) rfl ⟨rfl, rfl, rfl⟩
                  rw [List.set_set, show ({ x with o := M3, g := tgI t x.g } : E6.Ev) = rnE F S t x by unfold rnE; rw [HV.out, HOb.out, if_neg HNk.out], HSt.out] at h1
                  exact h1)
                clear hs1 HV HMM HSt HAt
                generalize tgI t x.g = tg at HTg HZ
                go_wp2_with fail
                refine HTg.out.mono ?_
                rintro r w3 ⟨rfl, hw9⟩
                subst hw9
                clear HTg
                go_wp2
                exact ⟨⟨j + 1, by omega, by go_num, HZ⟩, by simp [intOf]; omega⟩
            · by_cases hD : x.k = 16
              · have hC0 := hC
                clear hC
                have hC := hD
                have m16 : (x.k == 16) = true := beq_t hC
                have n14 : (x.k == 14) = false := beq_f (by omega)
                have n15 : (x.k == 15) = false := beq_f (by omega)
                have n7 : (x.k == 7) = false := beq_f (by omega)
                have n8 : (x.k == 8) = false := beq_f (by omega)
                have HOb : Hid ((rnI F S t).ob x.k x.o = obI F S 3 x.o) := hide (by unfold Rn.ob rnI; dsimp only; rw [if_neg hA, if_neg hB, if_neg hC0, if_pos hC])
                have HNk : Hid (¬ (x.k = 7 ∨ x.k = 8)) := hide (by omega)
                clear hA hB hC hC0 hD
                go_wp2_with fail
                refine HLk.out.mono ?_
                rintro r w2 ⟨rfl, hw9⟩
                obtain rfl : wr = w2 := hw9.symm
                clear HLk
                go_wp2_with fail
                refine HCn.out.mono ?_
                rintro r w2 ⟨rfl, hw9⟩
                obtain rfl : wr = w2 := hw9.symm
                clear HCn
                obtain ⟨M3, hM3⟩ : ∃ M3, IntKind.u64.wrap (M2 + 3) = M3 := ⟨_, rfl⟩
                have HV : Hid (M3 = obI F S 3 x.o) := hide (by rw [← hM3]; exact HMM.out.2 3)
                have hs1 := HRj.out.set (t := 2) (x' := { x with o := M3 }) (u := .int .u64 M3) HAt.out (by decide) rfl ⟨rfl, rfl, rfl⟩
                have HA := hide hs1
                have HAt2 : Hid ((L.set j { x with o := M3 })[j]? = some { x with o := M3 }) := hide (List.getElem?_set_self (List.getElem?_eq_some_iff.1 HAt.out).1)
                obtain ⟨d0, d1, d2, d3, k0, k2, k3⟩ := HA.out.cell HAt2.out
                dsimp only at d0 d1 d2 d3
                have HTg := hide (turned_any t x.g (wr.setCell ⟨g, j * 5 + 2, none⟩ (.int .u64 M3)) HXG.out HT.out)
                have HZ : Hid (Rd w ((wr.setCell ⟨g, j * 5 + 2, none⟩ (.int .u64 M3)).setCell ⟨g, j * 5, none⟩ (.int .i64 (tgI t x.g))) g c' n (mix (rnE F S t) fs (j + 1))) := hide (by
                  have h1 := HA.out.set (t := 0) (x' := { x with o := M3, g := tgI t x.g }) (u := .int .i64 (tgI t x.g)) HAt2.out (by decide) rfl ⟨rfl, rfl, rfl⟩
                  rw [List.set_set, show ({ x with o := M3, g := tgI t x.g } : E6.Ev) = rnE F S t x by unfold rnE; rw [HV.out, HOb.out, if_neg HNk.out], HSt.out] at h1
                  exact h1)
                clear hs1 HV HMM HSt HAt
                generalize tgI t x.g = tg at HTg HZ
                go_wp2_with fail
                refine HTg.out.mono ?_
                rintro r w3 ⟨rfl, hw9⟩
                subst hw9
                clear HTg
                go_wp2
                exact ⟨⟨j + 1, by omega, by go_num, HZ⟩, by simp [intOf]; omega⟩
              · have n14 : (x.k == 14) = false := beq_f (fun q => hC (.inl q))
                have n15 : (x.k == 15) = false := beq_f (fun q => hC (.inr q))
                have n16 := beq_f hD
                have HOb : Hid ((rnI F S t).ob x.k x.o = x.o) := hide (by unfold Rn.ob rnI; dsimp only; rw [if_neg hA, if_neg hB, if_neg hC, if_neg hD])
                clear hM1 hM2
                by_cases h7 : x.k = 7
                · have m7 := beq_t h7
                  have HK7 : Hid (x.k = 7 ∨ x.k = 8) := hide (.inl h7)
                  clear hA hB hC hD h7
                  go_wp2_with fail
                  refine HLk.out.mono ?_
                  rintro r w2 ⟨rfl, hw9⟩
                  obtain rfl : wr = w2 := hw9.symm
                  clear HLk
                  go_wp2_with fail
                  refine HCn.out.mono ?_
                  rintro r w2 ⟨rfl, hw9⟩
                  obtain rfl : wr = w2 := hw9.symm
                  clear HCn
                  have HTg := hide (turned_any t x.g wr HXG.out HT.out)
                  have HXA : Hid (IsG x.a) := hide ⟨HXE.out.ok.a0, HXE.out.fj HK7.out⟩
                  have HTa := hide (turned_any t x.a (wr.setCell ⟨g, j * 5, none⟩ (.int .i64 (tgI t x.g))) HXA.out HT.out)
                  have hwa1 : IntKind.i64.wrap x.a = x.a := by rw [IntKind.wrap_i64]; have := HXA.out; unfold IsG at this; omega
                  have hwa2 : IntKind.u64.wrap (tgI t x.a) = tgI t x.a := by rw [IntKind.wrap_u64]; have := (tgI_g t HXA.out).1; unfold IsG at this; omega
                  have hs1 := HRj.out.set (t := 0) (x' := { x with g := tgI t x.g }) (u := .int .i64 (tgI t x.g)) HAt.out (by decide) rfl ⟨rfl, rfl, rfl⟩
                  have HA := hide hs1
                  have HAt2 : Hid ((L.set j { x with g := tgI t x.g })[j]? = some { x with g := tgI t x.g }) := hide (List.getElem?_set_self (List.getElem?_eq_some_iff.1 HAt.out).1)
                  obtain ⟨d0, d1, d2, d3, k0, k2, k3⟩ := HA.out.cell HAt2.out
                  dsimp only at d0 d1 d2 d3
                  have HZ : Hid (Rd w ((wr.setCell ⟨g, j * 5, none⟩ (.int .i64 (tgI t x.g))).setCell ⟨g, j * 5 + 3, none⟩ (.int .u64 (tgI t x.a))) g c' n (mix (rnE F S t) fs (j + 1))) := hide (by
                    have h1 := HA.out.set (t := 3) (x' := { x with g := tgI t x.g, a := tgI t x.a }) (u := .int .u64 (tgI t x.a)) HAt2.out (by decide) rfl ⟨rfl, rfl, rfl⟩
                    rw [List.set_set, show ({ x with g := tgI t x.g, a := tgI t x.a } : E6.Ev) = rnE F S t x by unfold rnE; rw [HOb.out, if_pos HK7.out], HSt.out] at h1
                    exact h1)
                  clear hs1 HMM HSt HAt HAt2 HA
                  generalize tgI t x.g = tg at *
                  generalize tgI t x.a = ta at *
                  go_wp2_with fail
                  refine HTg.out.mono ?_
                  rintro r w3 ⟨rfl, hw9⟩
                  obtain rfl : wr = w3 := hw9.symm
                  clear HTg
                  go_wp2_with fail
                  refine HTa.out.mono ?_
                  rintro r w3 ⟨rfl, hw9⟩
                  subst hw9
                  clear HTa
                  go_wp2
                  exact ⟨⟨j + 1, by omega, by go_num, HZ⟩, by simp [intOf]; omega⟩
                · have n7 := beq_f h7
                  by_cases h8 : x.k = 8
                  · have m8 := beq_t h8
                    have HK7 : Hid (x.k = 7 ∨ x.k = 8) := hide (.inr h8)
                    clear hA hB hC hD h7 h8
                    go_wp2_with fail
                    refine HLk.out.mono ?_
                    rintro r w2 ⟨rfl, hw9⟩
                    obtain rfl : wr = w2 := hw9.symm
                    clear HLk
                    go_wp2_with fail
                    refine HCn.out.mono ?_
                    rintro r w2 ⟨rfl, hw9⟩
                    obtain rfl : wr = w2 := hw9.symm
                    clear HCn
                    have HTg := hide (turned_any t x.g wr HXG.out HT.out)
                    have HXA : Hid (IsG x.a) := hide ⟨HXE.out.ok.a0, HXE.out.fj HK7.out⟩
                    have HTa := hide (turned_any t x.a (wr.setCell ⟨g, j * 5, none⟩ (.int .i64 (tgI t x.g))) HXA.out HT.out)
                    have hwa1 : IntKind.i64.wrap x.a = x.a := by rw [IntKind.wrap_i64]; have := HXA.out; unfold IsG at this; omega
                    have hwa2 : IntKind.u64.wrap (tgI t x.a) = tgI t x.a := by rw [IntKind.wrap_u64]; have := (tgI_g t HXA.out).1; unfold IsG at this; omega
                    have hs1 := HRj.out.set (t := 0) (x' := { x with g := tgI t x.g }) (u := .int .i64 (tgI t x.g)) HAt.out (by decide) rfl ⟨rfl, rfl, rfl⟩
                    have HA := hide hs1
                    have HAt2 : Hid ((L.set j { x with g := tgI t x.g })[j]? = some { x with g := tgI t x.g }) := hide (List.getElem?_set_self (List.getElem?_eq_some_iff.1 HAt.out).1)
                    obtain ⟨d0, d1, d2, d3, k0, k2, k3⟩ := HA.out.cell HAt2.out
                    dsimp only at d0 d1 d2 d3
                    have HZ : Hid (Rd w ((wr.setCell ⟨g, j * 5, none⟩ (.int .i64 (tgI t x.g))).setCell ⟨g, j * 5 + 3, none⟩ (.int .u64 (tgI t x.a))) g c' n (mix (rnE F S t) fs (j + 1))) := hide (by
                      have h1 := HA.out.set (t := 3) (x' := { x with g := tgI t x.g, a := tgI t x.a }) (u := .int .u64 (tgI t x.a)) HAt2.out (by decide) rfl ⟨rfl, rfl, rfl⟩
                      rw [List.set_set, show ({ x with g := tgI t x.g, a := tgI t x.a } : E6.Ev) = rnE F S t x by unfold rnE; rw [HOb.out, if_pos HK7.out], HSt.out] at h1
                      exact h1)
                    clear hs1 HMM HSt HAt HAt2 HA
                    generalize tgI t x.g = tg at *
                    generalize tgI t x.a = ta at *
                    go_wp2_with fail
                    refine HTg.out.mono ?_
                    rintro r w3 ⟨rfl, hw9⟩
                    obtain rfl : wr = w3 := hw9.symm
                    clear HTg
                    go_wp2_with fail
                    refine HTa.out.mono ?_
                    rintro r w3 ⟨rfl, hw9⟩
                    subst hw9
                    clear HTa
                    go_wp2
                    exact ⟨⟨j + 1, by omega, by go_num, HZ⟩, by simp [intOf]; omega⟩
                  · have n8 := beq_f h8
                    have HNk : Hid (¬ (x.k = 7 ∨ x.k = 8)) := hide (fun q => q.elim h7 h8)
                    clear hA hB hC hD h7 h8
                    go_wp2_with fail
                    refine HLk.out.mono ?_
                    rintro r w2 ⟨rfl, hw9⟩
                    obtain rfl : wr = w2 := hw9.symm
                    clear HLk
                    go_wp2_with fail
                    refine HCn.out.mono ?_
                    rintro r w2 ⟨rfl, hw9⟩
                    obtain rfl : wr = w2 := hw9.symm
                    clear HCn
                    have HTg := hide (turned_any t x.g wr HXG.out HT.out)
                    have HZ : Hid (Rd w (wr.setCell ⟨g, j * 5, none⟩ (.int .i64 (tgI t x.g))) g c' n (mix (rnE F S t) fs (j + 1))) := hide (by
                      have h1 := HRj.out.set (t := 0) (x' := { x with g := tgI t x.g }) (u := .int .i64 (tgI t x.g)) HAt.out (by decide) rfl ⟨rfl, rfl, rfl⟩
                      rw [show ({ x with g := tgI t x.g } : E6.Ev) = rnE F S t x by unfold rnE; rw [HOb.out, if_neg HNk.out], HSt.out] at h1
                      exact h1)
                    clear HMM HSt HAt
                    generalize tgI t x.g = tg at HTg HZ
                    go_wp2_with fail
                    refine HTg.out.mono ?_
                    rintro r w3 ⟨rfl, hw9⟩
                    obtain rfl : wr = w3 := hw9.symm
                    clear HTg
                    go_wp2
                    exact ⟨⟨j + 1, by omega, by go_num, HZ⟩, by simp [intOf]; omega⟩
      · have h9 : j = n := by omega
        subst h9
        rw [mix_all HLn.out] at HRj
        go_wp2
        go_ret
        refine ⟨_, _, fs.map (rnE F S t), rfl, HRj.out.erow, fun f hf => ?_, twins_map HTs.out F S t, HRj.out.bel⟩
        obtain ⟨y, hy, rfl⟩ := List.mem_map.1 hf
        exact rnE_ok F S t (HCf.out y hy) (HOf.out y hy)
end Go.Proofs.YtafkammiehcdjaaGreatDoor
/-
  awake.
-/
namespace Go.Proofs.YtafkammiehcdjaaGreatDoor
open Go.RowKit Go.Maps Go.Shelf
theorem bnd_plain : ∀ (es : List E6.Ev) (i : Nat), (∀ e ∈ es, e.chk = 0 ∧ e.ls = []) → E6.bnd es i [] [] = (-1, 0) := by
  intro es
  induction es with
  | nil => intro i _; rfl
  | cons e es ih =>
    intro i h
    obtain ⟨h1, h2⟩ := h e (by simp)
    rw [E6.bnd, if_pos h1, h2]
    have hR : E6.Roomy [] ([] : List E6.Nd).length (E6.left [] [] []).2.reverse := ⟨fun t ht => (by cases ht), by decide, by decide, by decide⟩
    rw [if_pos hR]
    exact ih (i + 1) (fun f hf => h f (by simp [hf]))
def evF : E6.Ev := ⟨0, 7, 0, 1, none, 0, []⟩
def evW : E6.Ev := ⟨1, 2, 8, 4, none, 0, []⟩
def evJ : E6.Ev := ⟨0, 8, 0, 1, none, 0, []⟩
def evA : E6.Ev := ⟨0, 3, 7, 0, none, 0, []⟩
theorem runV_one : runV [evF, evW, evJ] = (-1, 0, 0) := by
  have hb : (E6.bounds [evF, evW, evJ]).2 = 0 := by
    unfold E6.bounds
    rw [if_pos (by decide), bnd_plain _ _ (fun e he => by
      simp at he
      rcases he with rfl | rfl | rfl <;> exact ⟨by kernel_rfl, rfl⟩)]
  rw [runV_zero hb]
  have h9 : CS.new.run [evF, evW, evJ] 0 = (-1, 0) := by kernel_rfl
  rw [h9]
theorem runV_two : runV [evA, evA] = (1, 4, 0) := by
  have hb : (E6.bounds [evA, evA]).2 = 0 := by
    unfold E6.bounds
    rw [if_pos (by decide), bnd_plain _ _ (fun e he => by
      simp at he
      rcases he with rfl <;> exact ⟨by kernel_rfl, rfl⟩)]
  rw [runV_zero hb]
  have h9 : CS.new.run [evA, evA] 0 = (1, 4) := by kernel_rfl
  rw [h9]
def evsC (es : List E6.Ev) : Array Value := (E6.ecells es).toArray
theorem erow_lit (w : World) (es : List E6.Ev) (hs : ∀ e ∈ es, e.sa = none ∧ e.ls = []) : E6.ERow (w.alloc (.cells (evsC es) 36)) (some ⟨w.heap.size, 0, none⟩) es.length es := by
  have hh : (w.alloc (.cells (evsC es) 36)).heap[w.heap.size]? = some (.cells (evsC es) 36 (0, 0)) := heap_new _ _
  refine ⟨rfl, .inr ⟨w.heap.size, 0, rfl, fun i e he => ?_⟩⟩
  have hc : ∀ t (ht : t < 5), (w.alloc (.cells (evsC es) 36)).cell? ⟨w.heap.size, 0 + i * 5 + t, none⟩ = (E6.ecell e)[t]? := by
    intro t ht
    rw [cell_of_row _ _ _ _ 36 (0, 0) hh, Nat.zero_add]
    unfold evsC
    rw [List.getElem?_toArray]
    exact E6.ecells_get he ht
  obtain ⟨h1, h2⟩ := hs e (List.mem_of_getElem? he)
  refine ⟨hc 0 (by omega), hc 1 (by omega), hc 2 (by omega), hc 3 (by omega), hc 4 (by omega), ?_⟩
  show E6.SRow _ e.sa e.ls.length e.ls
  rw [h2]
  exact ⟨rfl, .inl rfl⟩
set_option maxRecDepth 8000 in
theorem awake_any (w : World) (hK : E6.Kr w) : Calls Tryz.prog 8 #[] w fun e w' => e = .returned (.bool true) ∧ Below w.heap.size w w' := by
  have hok : ∀ e ∈ [evF, evW, evJ], e.ok := by
    intro e he
    simp at he
    rcases he with rfl | rfl | rfl
    all_goals exact ⟨⟨by decide, by decide⟩, ⟨by decide, by decide⟩, by decide, fun s hs => (by cases hs), by decide, fun _ => ⟨rfl, rfl⟩⟩
  have hok2 : ∀ e ∈ [evA, evA], e.ok := by
    intro e he
    simp at he
    rcases he with rfl
    all_goals exact ⟨⟨by decide, by decide⟩, ⟨by decide, by decide⟩, by decide, fun s hs => (by cases hs), by decide, fun _ => ⟨rfl, rfl⟩⟩
  have hsz := hK.size
  obtain ⟨W1, hW1⟩ : ∃ W1, W1 = w.alloc (.cells (evsC [evF, evW, evJ]) 36) := ⟨_, rfl⟩
  have hb1 : Below w.heap.size w W1 := by rw [hW1]; exact below_alloc1 w _
  have hr1 : E6.ERow W1 (some ⟨w.heap.size, 0, none⟩) 3 [evF, evW, evJ] := by
    rw [hW1]; exact erow_lit w _ (fun e he => by simp at he; rcases he with rfl | rfl | rfl <;> exact ⟨rfl, rfl⟩)
  have HR1 := hide (Run_any (some ⟨w.heap.size, 0, none⟩) 3 3 [evF, evW, evJ] W1 (hK.below hb1 (by omega)) hr1 hok (by decide))
  rw [runV_one] at HR1
  have HB1 := hide hb1
  have HW1 := hide hW1
  have HK := hide hK
  have HO2 := hide hok2
  clear hok hok2 hW1 hb1 hr1 hK
  have HR1' := HR1
  rw [HW1.out] at HR1'
  go_enter Tryz.func8, Tryz.ntmps8
  go_wp2_with fail
  refine HR1'.out.mono ?_
  rintro e w2 ⟨rfl, hb2⟩
  rw [← HW1.out] at hb2
  have HB2 := hide (Below.on HB1.out hb2)
  obtain ⟨W3, hW3⟩ : ∃ W3, W3 = w2.alloc (.cells (evsC [evA, evA]) 36) := ⟨_, rfl⟩
  have hb3 : Below w2.heap.size w2 W3 := by rw [hW3]; exact below_alloc1 w2 _
  have hr3 : E6.ERow W3 (some ⟨w2.heap.size, 0, none⟩) 2 [evA, evA] := by
    rw [hW3]; exact erow_lit w2 _ (fun e he => by simp at he; rcases he with rfl <;> exact ⟨rfl, rfl⟩)
  have hb30 := Below.on HB2.out hb3
  have HR3 := hide (Run_any (some ⟨w2.heap.size, 0, none⟩) 2 2 [evA, evA] W3 (HK.out.below hb30 (by omega)) hr3 HO2.out (by decide))
  rw [runV_two] at HR3
  have HB3 := hide hb30
  have HW3 := hide hW3
  clear hb2 hW3 hb3 hr3 hb30 HR1 HR1' HW1
  have HR3' := HR3
  rw [HW3.out] at HR3'
  go_wp2_with fail
  refine HR3'.out.mono ?_
  rintro e w4 ⟨rfl, hb4⟩
  rw [← HW3.out] at hb4
  have HB4 := hide (Below.on HB3.out hb4)
  clear hb4 HR3 HR3' HW3
  go_wp2
  go_ret
  exact ⟨rfl, HB4.out⟩
end Go.Proofs.YtafkammiehcdjaaGreatDoor
