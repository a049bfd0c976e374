/-
  HeapMerges: the walk.
-/
import Derived.Test.YtdmlehbamdcjcaaRfN
import Derived.Test.YtdmlehbamdcjcaaSrtA
import Derived.Test.YtdmlehbamdcjcaaLwAI
namespace Go.Proofs.Ytdmlehbamdcjcaa
open Go.RowKit
theorem own_sits {w : World} {base : Nat} {s : Sl} {C : List It} (h : Own layI 27 w base (.slice s.a s.n s.c) C) : SitsI w s C := by
  obtain ⟨a, c, hv, h0, hc⟩ := own_form h
  injection hv with e1 e2 e3
  refine ⟨h.row e2.symm, fun e => ?_, by rw [e2, e3]; exact hc⟩
  rw [e2, e3]
  exact h0 (by rw [← e1]; exact e)
theorem heads_total {α : Type} {Ls : List (List α)} {s : Int} (h : heads Ls s = []) : total Ls = 0 := by
  induction Ls generalizing s with
  | nil => rfl
  | cons C Ls ih =>
    rw [heads_cons] at h
    obtain ⟨h1, h2⟩ := List.append_eq_nil_iff.mp h
    cases C with
    | nil => simp [total, ih h2]
    | cons x t => simp [heads] at h1
theorem Mrg.length {α : Type} {f : α × Int → α × Int → Bool} {cur : List (List α)} {O : List α} (h : Mrg f cur O) : O.length = total cur := by
  induction h with
  | done h => rw [heads_total h]; rfl
  | step hk _ _ ih => rw [List.length_cons, ih, total_set hk]
theorem ordI2 : Ord (fst bfI) := fst_ord fun a : It => a.k
theorem distI2 : ∀ a b : It × Int, fst bfI a b = false → fst bfI b a = false → a.2 = b.2 := fun _ _ h1 h2 => (fst_eq (fun a : It => a.k) h1 h2).2
set_option maxRecDepth 8000 in
set_option maxHeartbeats 12800000 in
theorem heapMerges (w : World) (a : Option Addr) (N c : Nat) (ss : List Sl) (Cs : List (List It)) (hr : TRow laySl w a N ss) (h0 : a = none → N = 0 ∧ c = 0) (hCl : Cs.length = N) (hS : ∀ (j : Nat) (s : Sl) (C : List It), ss[j]? = some s → Cs[j]? = some C → SitsI w s C) (hN : (N : Int) ≤ 4000000000000) (hT : (total Cs : Int) ≤ 4000000000000) :
    Calls Try.prog 3 #[.slice a N c] w fun r w' => r = .returned (.bool true) ∧ Below w.heap.size w w' := by
  obtain ⟨i0, hi, hz0, hz1, hz2⟩ := info_parts Try.infoSI
  have HSS : Hid (ss.length = N) := hide hr.len
  have HCL : Hid _ := hide hCl
  have HSI : Hid _ := hide hS
  have HR : Hid _ := hide hr
  have HA0 : Hid _ := hide h0
  have HTT : Hid _ := hide hT
  clear hCl hS hr h0 hT
  go_enter Try.func3, Try.ntmps3
  go_wp2_with fail
  go_loopw [3, 4] (fun so si wr => ∃ (k : Nat) (us : List Sl), si = .int .i64 k ∧ k ≤ N ∧ us.length = k ∧ Own laySl 23 wr w.heap.size so us ∧ (∀ (j : Nat) (s : Sl) (C : List It), us[j]? = some s → Cs[j]? = some C → Own layI 27 wr w.heap.size (.slice s.a s.n s.c) C) ∧ Below w.heap.size w wr) (fun _ si _ => N - (intOf si).toNat)
  case atStart => exact ⟨0, [], rfl, Nat.zero_le _, rfl, Own.nil _ _ _ _, fun j s C h => by simp at h, Below.refl _ _⟩
  case round =>
    obtain ⟨k, us, rfl, hkN, hul, ho, hus, hb⟩ := hrel
    have HO : Hid _ := hide ho
    have HUL : Hid _ := hide hul
    have HUS : Hid _ := hide hus
    have HB : Hid _ := hide hb
    obtain ⟨av, cv, hvv, hnil, hcap⟩ := own_form ho
    rw [hul] at hvv
    subst hvv
    clear ho hul hus hb hnil hcap
    by_cases hlt : k < N
    · have hltI : (k : Int) < (N : Int) := by omega
      obtain ⟨s, hs⟩ : ∃ s, ss[k]? = some s := ⟨_, List.getElem?_eq_getElem (by rw [HSS.out]; exact hlt)⟩
      obtain ⟨C, hC⟩ : ∃ C, Cs[k]? = some C := ⟨_, List.getElem?_eq_getElem (by rw [HCL.out]; exact hlt)⟩
      obtain ⟨lb, lo, rfl, _, hcL⟩ := (HR.out.below HB.out).at (by omega)
      have x0 := hcL k s hs 0 _ rfl
      simp only [laySl, Nat.mul_one, Nat.add_zero] at x0
      have hsit := (HSI.out k s C hs hC).below HB.out
      obtain ⟨sa, sn, sc⟩ := s
      have hCn : C.length = sn := hsit.row.len
      have TW := twin_any wr sa sn sc C hsit.row hsit.nil (by have h1 := len_total hC; have h2 := HTT.out; omega)
      have HC : Hid _ := hide hC
      clear hs hC hcL hsit hCn
      go_wp2_with fail
      refine TW.mono ?_
      rintro r w2 ⟨v2, rfl, o2, b2⟩
      obtain ⟨a2, c2, hv2, _, _⟩ := own_form o2
      obtain ⟨n2, hn2⟩ : ∃ n2, n2 = C.length := ⟨_, rfl⟩
      rw [← hn2] at hv2
      subst hv2
      have O2 : Hid _ := hide (o2.mono HB.out.size)
      have HO2 : Hid _ := hide (HO.out.below b2)
      have HU2 : Hid (∀ (j : Nat) (s : Sl) (C : List It), us[j]? = some s → Cs[j]? = some C → Own layI 27 w2 w.heap.size (.slice s.a s.n s.c) C) := hide (fun j s C h1 h2 => (HUS.out j s C h1 h2).below b2)
      have B2 : Hid _ := hide (HB.out.trans (b2.mono HB.out.size))
      clear TW o2 b2 x0 hn2
      go_wp2_with (at_builtin; refine append_lay laySl _ 22 23 i0 _ 24 Try.underlying22 hi hz0 hz1 hz2 rfl rfl (.tmp 14) (.tmp 20) rfl w.heap.size _ _ rfl (HO2.out.below (below_alloc1 _ _)) _ _ _ [(⟨a2, n2, c2⟩ : Sl)] rfl (TRow.one (heap_new _ _)) (fun e => by cases e) (by rw [HUL.out]; unfold maxLen; omega) (by rw [HUL.out]; omega) (by simp; have := B2.out.size; omega) ?_; intro v3 w3 hown3 hgr3 hl3)
      have bg := But.of_grown (S := fun b => (Value.slice av k cv).ownBlock = some b) hgr3 (fun _ e9 => e9)
      have keep : ∀ (v : Value) (C : List It), Own layI 27 w2 w.heap.size v C → Own layI 27 w3 w.heap.size v C := fun v C h => (h.below (below_alloc1 _ _)).but bg (fun g' hg' e9 => by
        obtain ⟨cc, hcc⟩ := own_at HO2.out _ e9
        obtain ⟨cd, hcd⟩ := own_at h _ hg'
        exact ty_neN hcc hcd (by decide) rfl)
      refine ⟨⟨k + 1, us ++ [(⟨a2, n2, c2⟩ : Sl)], by go_num, by omega, by rw [List.length_append, HUL.out]; rfl, hown3, fun j s D h1 h2 => ?_, (B2.out.alloc B2.out.size _).grown hgr3 (by simp; have := B2.out.size; omega) (fun g hg => (HO2.out.lt g hg).1)⟩, by simp [intOf]; omega⟩
      by_cases hj : j < k
      · rw [List.getElem?_append_left (by rw [HUL.out]; exact hj)] at h1
        exact keep _ _ (HU2.out j s D h1 h2)
      · have hjk : j = k := by
          have := get_lt h1
          rw [List.length_append, HUL.out, List.length_singleton] at this
          omega
        subst hjk
        rw [List.getElem?_append_right (by rw [HUL.out]; exact Nat.le_refl _), HUL.out, Nat.sub_self] at h1
        have e5 : s = ⟨a2, n2, c2⟩ := by simpa using h1.symm
        rw [HC.out] at h2
        rw [e5, ← Option.some.inj h2]
        exact keep _ _ O2.out
    · have hkN' : k = N := by omega
      have HUN : Hid (k = N) := hide hkN'
      have HCK : Hid (Cs.length = k) := hide (by rw [HCL.out]; exact hkN'.symm)
      have hltI : ¬ (k : Int) < (N : Int) := by omega
      clear hkN'
      have MG := mergeI wr a N c ss Cs (HR.out.below HB.out) HA0.out HCL.out (fun j s C h1 h2 => (HSI.out j s C h1 h2).below HB.out) hN HTT.out
      go_wp2_with fail
      refine MG.mono ?_
      rintro r w2 ⟨v2, O2, rfl, o2, m2, b2⟩
      have OM2 : Hid _ := hide o2
      have M2 : Hid _ := hide m2
      have B2 : Hid _ := hide (HB.out.trans (b2.mono HB.out.size))
      have HO2 : Hid _ := hide (HO.out.below b2)
      have HU2 : Hid (∀ (j : Nat) (s : Sl) (C : List It), us[j]? = some s → Cs[j]? = some C → Own layI 27 w2 w.heap.size (.slice s.a s.n s.c) C) := hide (fun j s C h1 h2 => (HUS.out j s C h1 h2).below b2)
      have RM := rmerge_any w2 av k cv us Cs (HO2.out.row HUL.out) HCK.out (fun j s C h1 h2 => own_sits (HU2.out j s C h1 h2)) (by omega) HTT.out
      clear MG o2 m2 b2
      go_wp2_with fail
      refine RM.mono ?_
      rintro r w3 ⟨v3, O3, rfl, o3, m3, b3⟩
      have hOO : O3 = O2 := m3.uniq ordI2 distI2 M2.out
      subst hOO
      have OM3 : Hid _ := hide o3
      have OM2b : Hid _ := hide (OM2.out.below b3)
      have HO3 : Hid _ := hide (HO2.out.below b3)
      have HU3 : Hid (∀ (j : Nat) (s : Sl) (C : List It), us[j]? = some s → Cs[j]? = some C → Own layI 27 w3 w.heap.size (.slice s.a s.n s.c) C) := hide (fun j s C h1 h2 => (HU2.out j s C h1 h2).below b3)
      have B3 : Hid _ := hide (B2.out.trans (b3.mono B2.out.size))
      have HLO : Hid _ := hide m3.length
      clear RM o3 m3 b3 M2
      have hkN : (k : Int) = (N : Int) := by have := HUN.out; omega
      have HKN : Hid _ := hide hkN
      obtain ⟨a2, c2, hv2, _, _⟩ := own_form OM2b.out
      obtain ⟨a3, c3, hv3, _, _⟩ := own_form OM3.out
      obtain ⟨n3, hn3⟩ : ∃ n3, n3 = O3.length := ⟨_, rfl⟩
      have hO3 : (n3 : Int) ≤ 4000000000000 := by rw [hn3]; have h1 := HLO.out; have h2 := HTT.out; omega
      rw [← hn3] at hv2 hv3
      subst hv2 hv3
      have HN3 : Hid _ := hide hn3
      clear hn3 hkN
      go_wp2_with fail
      go_loopw [7] (fun si wr => ∃ j : Nat, si = .int .i64 j ∧ j ≤ N ∧ Below w3.heap.size w3 wr) (fun si _ => N - (intOf si).toNat)
      case atStart => exact ⟨0, rfl, Nat.zero_le _, Below.refl _ _⟩
      case round =>
        obtain ⟨j, rfl, hjN, hb9⟩ := hrel
        have HB9 : Hid _ := hide hb9
        clear hb9
        by_cases hjl : j < N
        · have hjI : (j : Int) < (N : Int) := by omega
          have hjK : (j : Int) < (k : Int) := by have := HKN.out; omega
          obtain ⟨s, hs⟩ : ∃ s, ss[j]? = some s := ⟨_, List.getElem?_eq_getElem (by rw [HSS.out]; exact hjl)⟩
          obtain ⟨C, hC⟩ : ∃ C, Cs[j]? = some C := ⟨_, List.getElem?_eq_getElem (by rw [HCL.out]; exact hjl)⟩
          obtain ⟨u, hu⟩ : ∃ u, us[j]? = some u := ⟨_, List.getElem?_eq_getElem (by rw [HUL.out]; omega)⟩
          obtain ⟨lb, lo, rfl, _, hcL⟩ := ((HR.out.below B3.out).below HB9.out).at (by omega)
          obtain ⟨gb, go, rfl, _, hcO⟩ := ((HO3.out.row HUL.out).below HB9.out).at (by omega)
          have hsA := (HSI.out j s C hs hC).below (B3.out.trans (HB9.out.mono B3.out.size))
          have hsB := own_sits ((HU3.out j u C hu hC).below HB9.out)
          have x0 := hcL j s hs 0 _ rfl
          have y0 := hcO j u hu 0 _ rfl
          obtain ⟨sa, sn, sc⟩ := s
          obtain ⟨ua, un, uc⟩ := u
          have e1 : C.length = sn := hsA.row.len
          have e2 : C.length = un := hsB.row.len
          have e3 : un = sn := by omega
          subst e3
          have hsn : (un : Int) ≤ 4000000000000 := by have h1 := len_total hC; have h2 := HTT.out; omega
          simp only [laySl, Nat.mul_one, Nat.add_zero] at x0 y0
          rename World => wk
          have HS : Hid (∀ W, Below wk.heap.size wk W → W.cell? ⟨lb, lo + j, none⟩ = some (.slice sa un sc) ∧ W.cell? ⟨gb, go + j, none⟩ = some (.slice ua un uc)) := hide (fun W hW => ⟨(hW.cell (p := ⟨lb, lo + j, none⟩) (World.block_lt_of_cell? _ _ x0)).trans x0, (hW.cell (p := ⟨gb, go + j, none⟩) (World.block_lt_of_cell? _ _ y0)).trans y0⟩)
          have SM : Hid _ := hide (sameI sa ua un sc uc C wk.drew (hsA.row.below (Below.refl _ _).drew) (hsB.row.below (Below.refl _ _).drew) (by omega))
          clear hcL hcO hsA hsB e1 e2 hs hC hu
          go_wp2_with fail
          go_region_held3 (fun X => X.cell? ⟨lb, lo + j, none⟩ = some (.slice sa un sc) ∧ X.cell? ⟨gb, go + j, none⟩ = some (.slice ua un uc)) (first | exact HS.out _ hB2 | exact HS.out _ (Below.refl _ _) | exact HS.out _ (below_drewN (Below.refl _ _) _)) (first
            | (go_at_call 12; go_must (
               refine SM.out.mono ?_
               rintro e1 W1 ⟨rfl, hB1⟩
               have hB2 : Below wk.heap.size wk W1 := (Below.refl _ _).drew.trans hB1)))
          have HW1 : Hid _ := hide hB2
          clear hB1 hB2 x0 y0
          go_wp2_with fail
          exact ⟨⟨j + 1, by go_num, by omega, HB9.out.trans (HW1.out.mono HB9.out.size)⟩, by simp [intOf]; omega⟩
        · have hjI : ¬ (j : Int) < (N : Int) := by omega
          rename World => wk
          have SM := sameI a2 a3 n3 c2 c3 O3 wk ((OM2b.out.below HB9.out).row HN3.out.symm) ((OM3.out.below HB9.out).row HN3.out.symm) (by omega)
          go_wp2_with fail
          refine SM.mono ?_
          rintro e1 W1 ⟨rfl, hB1⟩
          have BE : Hid _ := hide (B3.out.trans ((HB9.out.trans (hB1.mono HB9.out.size)).mono B3.out.size))
          clear SM hB1
          go_wp2_with fail
          go_ret
          exact ⟨rfl, BE.out⟩
end Go.Proofs.Ytdmlehbamdcjcaa
