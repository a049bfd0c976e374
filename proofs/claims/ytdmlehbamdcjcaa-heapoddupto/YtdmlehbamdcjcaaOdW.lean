/-
  HeapOdd: the walk.
-/
import Derived.Test.YtdmlehbamdcjcaaRwM
import Derived.Test.YtdmlehbamdcjcaaOdA
import Derived.Test.YtdmlehbamdcjcaaHpSO
import Derived.Test.YtdmlehbamdcjcaaHpLO
import Derived.Test.YtdmlehbamdcjcaaAliv
namespace Go.Proofs.Ytdmlehbamdcjcaa
open Go.RowKit
theorem mrg_perm {α : Type} {f : α × Int → α × Int → Bool} {cur : List (List α)} {O : List α} (h : Mrg f cur O) : O.Perm cur.flatten := by
  induction h with
  | done h =>
    have h1 := heads_total h
    rw [total_flat] at h1
    rw [List.eq_nil_of_length_eq_zero h1]
  | step hk _ _ ih => exact (ih.cons _).trans (flat_set hk).symm
theorem pops_all {α : Type} {f : α → α → Bool} {E D E' : List α} (h : Pops f E D E') (hl : D.length = E.length) : D.Perm E := by
  have h1 := h.perm
  have h2 : E' = [] := by
    have := h1.length_eq
    rw [List.length_append] at this
    exact List.eq_nil_of_length_eq_zero (by omega)
  rw [h2, List.append_nil] at h1
  exact h1.symm
/-- Sort, of things without an order. -/
theorem sort_odd (w : World) (a : Option Addr) (N c : Nat) (L : List Od) (hr : TRow layO w a N L) (hl : (N : Int) ≤ 4300000000000) :
    Calls Try.prog 37 #[.slice a N c] w fun r w' => ∃ g G, r = .returned (.slice (some ⟨g, 0, none⟩) N N) ∧ TRow layO w' (some ⟨g, 0, none⟩) N G ∧ G.Perm L ∧ Below w.heap.size w w' := by
  refine (sortO w a N c L hr hl).mono ?_
  rintro r w' ⟨g, E, D, E', rfl, hg, O, hD, hp, hh, hpp, hb⟩
  have h1 : D.Perm E := pops_all hpp (by rw [hD, hp.length_eq, tg_len, hr.len])
  refine ⟨g, D.map Prod.fst, rfl, O.row (by rw [List.length_map, hD]), ?_, hb⟩
  have h2 := (h1.trans hp).map Prod.fst
  rw [tg_fst] at h2
  exact h2
theorem sorted_odd (w : World) (base p : Nat) (v : Value) (n : Int) (E : List (Od × Int)) (h : HqO w base p v n E) (hl : (E.length : Int) ≤ 4300000000000) :
    Calls Try.prog 36 #[.pointer (some ⟨p, 0, none⟩)] w fun r w' => ∃ g G, r = .returned (.slice (some ⟨g, 0, none⟩) E.length E.length) ∧ TRow layO w' (some ⟨g, 0, none⟩) E.length G ∧ G.Perm (E.map Prod.fst) ∧ Below w.heap.size w w' := by
  refine (sortedO w base p v n E h hl).mono ?_
  rintro r w' ⟨g, D, E', rfl, hg, O, hD, hpp, hb⟩
  exact ⟨g, D.map Prod.fst, rfl, O.row (by rw [List.length_map, hD]), (pops_all hpp hD).map Prod.fst, hb⟩
theorem row_two {w : World} {B : Nat} {e : TypeId} {x y : Sl} {fr : Nat × Nat} (h : w.heap[B]? = some (.cells #[.slice x.a x.n x.c, .slice y.a y.n y.c] e fr)) : TRow laySl w (some ⟨B, 0, none⟩) 2 [x, y] := by
  refine ⟨rfl, .inr ⟨B, 0, rfl, fun i u hi t v hv => ?_⟩⟩
  have ht := get_lt hv
  have ht0 : t = 0 := by simpa [laySl] using ht
  subst ht0
  have hi2 : i < 2 := by simpa using get_lt hi
  have hv' : v = .slice u.a u.n u.c := by simpa [laySl] using hv.symm
  subst hv'
  simp only [laySl, Nat.mul_one, Nat.zero_add, Nat.add_zero]
  rcases Nat.lt_or_ge i 1 with h1 | h1
  · obtain rfl : i = 0 := by omega
    simp at hi
    subst hi
    exact cell_at h rfl
  · obtain rfl : i = 1 := by omega
    simp at hi
    subst hi
    exact cell_at h rfl
set_option maxRecDepth 8000 in
set_option maxHeartbeats 12800000 in
theorem heapOdd (w : World) (a : Option Addr) (N c : Nat) (K : List Int) (sa n : Int) (hr : TRow layN w a N K) (hN : (N : Int) ≤ 1048576) (hn0 : -9223372036854775808 ≤ n) (hn1 : n ≤ 9223372036854775807) :
    Calls Try.prog 8 #[.slice a N c, .int .i64 sa, .int .i64 n] w fun r w' => r = .returned (.bool true) ∧ Below w.heap.size w w' := by
  have HR : Hid _ := hide hr
  clear hr
  go_enter Try.func8, Try.ntmps8
  go_wp2_with fail
  refine (alive_any _).mono ?_
  rintro e0 w1 ⟨rfl, hb1⟩
  have HB1 : Hid _ := hide hb1
  have OD := odds_any w1 a N c K sa (HR.out.below hb1) (by omega)
  clear hb1
  go_wp2_with fail
  refine OD.mono ?_
  rintro e1 w2 ⟨v2, rfl, o2, b2⟩
  obtain ⟨L, hL⟩ : ∃ L, L = odI K sa := ⟨_, rfl⟩
  rw [← hL] at o2
  have hLn : L.length = N := by rw [hL, odI_len]; exact HR.out.len
  have HTG : Hid (∀ (i : Nat) (x : Od), L[i]? = some x → x.t = i) := hide (fun i x h => by rw [hL] at h; exact odI_tag h)
  obtain ⟨al, cl, hv2, hl0, hlc⟩ := own_form o2
  rw [hLn] at hv2 hl0 hlc
  subst hv2
  have HL : Hid _ := hide (o2.row hLn)
  have HFM : Hid ((al = none ∧ N = 0 ∧ cl = 0) ∨ ∃ lg, al = some ⟨lg, 0, none⟩) := hide (by
    rcases o2.2 with ⟨h1, _⟩ | ⟨g, cap, cur, h1, _⟩
    · injection h1 with h1 h2 h3
      exact .inl ⟨h1, h2, h3⟩
    · injection h1 with h1 h2 h3
      exact .inr ⟨g, h1⟩)
  have HLN : Hid _ := hide hLn
  have HL0 : Hid _ := hide hl0
  have HLE : Hid _ := hide hL
  have HB2 : Hid _ := hide (HB1.out.trans (b2.mono HB1.out.size))
  clear OD o2 b2 hLn hl0 hL
  go_wp2_with fail
  refine (newO _).mono ?_
  rintro e3 w3 ⟨rfl, hq3, hb3⟩
  have HQ3 : Hid _ := hide hq3
  have HB3 : Hid _ := hide hb3
  clear hq3 hb3
  go_wp2_with fail
  go_loopw [10] (fun si wr => ∃ (i : Nat) (v : Value) (E : List (Od × Int)), si = .int .i64 i ∧ i ≤ N ∧ HqO wr w2.heap.size w2.heap.size v i E ∧ E.length = i ∧ (E.map Prod.fst).Perm (L.take i) ∧ Below w2.heap.size w2 wr) (fun si _ => N - (intOf si).toNat)
  case atStart => exact ⟨0, _, [], rfl, Nat.zero_le _, HQ3.out, rfl, by simp, HB3.out⟩
  case round =>
    obtain ⟨i, v, E, rfl, hiN, hq, hEl, hpm, hb⟩ := hrel
    rename World => wi
    have HQ : Hid _ := hide hq
    have HEL : Hid _ := hide hEl
    have HPM : Hid _ := hide hpm
    have HB : Hid _ := hide hb
    clear hq hEl hpm hb
    by_cases hlt : i < N
    · have hltI : (i : Int) < (N : Int) := by omega
      obtain ⟨x, hx⟩ : ∃ x, L[i]? = some x := ⟨_, List.getElem?_eq_getElem (by rw [HLN.out]; exact hlt)⟩
      obtain ⟨tb, tf, rfl, _, hcT⟩ := (HL.out.below HB.out).at (by omega)
      have z0 := hcT i x hx 0 _ rfl
      have z1 := hcT i x hx 1 _ rfl
      have z2 := hcT i x hx 2 _ rfl
      have HX : Hid _ := hide hx
      have PU := pushO wi w2.heap.size w2.heap.size v i E x HQ.out HB.out.size (by omega) (by omega) (by rw [HEL.out]; omega)
      obtain ⟨xk, xs, xt⟩ := x
      simp only [layO, Nat.add_zero] at z0 z1 z2
      clear hx hcT
      go_wp2_with fail
      refine PU.mono ?_
      rintro e4 w4 ⟨rfl, g4, c4, E4, hq4, hp4, _, hb4, _⟩
      have B4 : Hid (Below w2.heap.size w2 w4) := hide (HB.out.trans (hb4.below HB.out.size (fun k hk => by
        rcases hk with hk | hk
        · omega
        · exact (HQ.out.own.lt k hk).1)))
      have HQ4 : Hid _ := hide hq4
      have HP4 : Hid _ := hide hp4
      clear PU hq4 hp4 hb4 z0 z1 z2
      go_wp2_with fail
      refine ⟨⟨i + 1, _, E4, by go_num, by omega, by simpa using HQ4.out, ?_, ?_, B4.out⟩, by simp [intOf]; omega⟩
      · rw [HP4.out.length_eq, List.length_append, HEL.out]; rfl
      · rw [take_snoc HX.out]
        refine (HP4.out.map Prod.fst).trans ?_
        rw [List.map_append]
        exact HPM.out.append (.refl _)
    · have hltI : ¬ (i : Int) < (N : Int) := by omega
      have hEN : E.length = N := by have := HEL.out; omega
      have hPL : (E.map Prod.fst).Perm L := by
        have := HPM.out
        rw [List.take_of_length_le (by rw [HLN.out]; omega)] at this
        exact this
      have HEN : Hid _ := hide hEN
      have HPL : Hid _ := hide hPL
      clear hEN hPL HEL HPM
      go_upto_region 14 with fail
      go_cut [48] (fun s1 wx => s1 = .bool (decide (n < 0 ∨ (N : Int) < n)) ∧ wx = wi)
      case first =>
        by_cases hneg : n < 0
        · have e1 : decide (n < 0) = true := decide_eq_true hneg
          go_wp2_with fail
          go_meet
          exact ⟨by simp [hneg], rfl⟩
        · have e1 : decide (n < 0) = false := decide_eq_false hneg
          go_wp2_with fail
          go_meet
          exact ⟨congrArg Value.bool (decide_eq_decide.2 ⟨.inr, fun h => h.resolve_left (by omega)⟩), rfl⟩
      case rest =>
      obtain ⟨rfl, rfl⟩ := hcut
      obtain ⟨bq, hbq⟩ : ∃ bq, bq = decide (n < 0 ∨ (N : Int) < n) := ⟨_, rfl⟩
      rw [← hbq]
      have HBQ : Hid _ := hide hbq
      clear hbq
      go_upto_if 48 with fail
      rename World => wj
      go_cut [11] (fun s1 wx => ∃ k : Nat, s1 = .int .i64 k ∧ k ≤ N ∧ wx = wj)
      case first =>
        cases bq with
        | true =>
          go_wp2_with fail
          go_meet
          exact ⟨N, rfl, Nat.le_refl _, rfl⟩
        | false =>
          have h9 := of_decide_eq_false HBQ.out.symm
          go_wp2_with fail
          go_meet
          exact ⟨n.toNat, by rw [Int.toNat_of_nonneg (by omega)], by omega, rfl⟩
      case rest =>
      obtain ⟨k, rfl, hkN, rfl⟩ := hcut
      clear HBQ
      have SO := sorted_odd wc.drew w2.heap.size w2.heap.size v i E (HQ.out.below (Below.refl _ _).drew) (by rw [HEN.out]; omega)
      rw [HEN.out] at SO
      have HSO : Hid _ := hide SO
      have HLW : Hid (∀ W, Below wc.heap.size wc W → TRow layO W al N L) := hide (fun W h => (HL.out.below HB.out).below h)
      have HRW : Hid (∀ W, Below wc.heap.size wc W → TRow layN W a N K) := hide (fun W h => ((HR.out.below HB2.out).below HB.out).below h)
      have HMP : Hid (∀ O, Mrg (fst bfO) [L.take k, L.drop k] O → O.Perm L ∧ O.length = N) := hide (fun O m => by
        have h1 := mrg_perm m
        simp at h1
        exact ⟨h1, h1.length_eq.trans HLN.out⟩)
      have HTO : Hid ((total [L.take k, L.drop k] : Int) ≤ 4000000000000) := hide (by
        simp [total, HLN.out]
        omega)
      go_upto_region 16 with fail
      go_cut [83] (fun s1 wx => s1 = .bool false ∧ Below wc.heap.size wc wx)
      case first J K' hJ hK =>
        have SO := HSO
        have hkNI : (k : Int) ≤ (N : Int) := by omega
        have hkcI : (k : Int) ≤ (cl : Int) := by omega
        have hNcI : (N : Int) ≤ (cl : Int) := by omega
        by_cases hck : cl = k
        · subst hck
          have HST : Hid (∀ W, Below wc.heap.size wc W → ∀ (j : Nat) (s : Sl) (C : List Od), [(⟨al, cl, cl⟩ : Sl), (⟨al, 0, 0⟩ : Sl)][j]? = some s → [L.take cl, L.drop cl][j]? = some C → SitsO W s C) := hide (fun W h j s C h1 h2 => by
            have hrow := HLW.out W h
            rcases j with _ | _ | j
            · simp at h1 h2
              subst h1 h2
              exact ⟨hrow.cut cl hkN, fun e => ⟨(HL0.out e).2, (HL0.out e).2⟩, Nat.le_refl _⟩
            · simp at h1 h2
              subst h1 h2
              exact ⟨⟨by rw [List.length_drop, HLN.out]; show N - cl = 0; omega, .inl rfl⟩, fun e => ⟨rfl, rfl⟩, Nat.le_refl _⟩
            · simp at h1)
          go_region_held3 (fun _ => True) (trivial) (first
            | (go_at_call 36; go_must (
                refine SO.out.mono ?_
                rintro e1 W1 ⟨g1, G1, rfl, r1, p1, b1⟩
                have h1 : Below wc.heap.size wc W1 := (Below.refl _ _).drew.trans b1))
            | (go_at_call 35; go_must (first
                | (refine (those_any _ al a8 N cl c8 L L (HLW.out _ h8) r8 (thos_perm (.refl _) HTG.out) (by omega)).mono ?_
                   rintro e9 W9 ⟨rfl, b9⟩
                   have h9 : Below wc.heap.size wc W9 := h8.trans (b9.mono h8.size))
                | (refine (those_any _ a6 al N c6 cl O6 L r6 (HLW.out _ h6) (thos_perm p6 HTG.out) (by omega)).mono ?_
                   rintro e7 W7 ⟨rfl, b7⟩
                   have h7 : Below wc.heap.size wc W7 := h6.trans (b7.mono h6.size))
                | (refine (those_any _ (some ⟨g3, 0, none⟩) al N N cl G3 L r3 (HLW.out _ h3) (thos_perm p3 HTG.out) (by omega)).mono ?_
                   rintro e4 W4 ⟨rfl, b4⟩
                   have h4 : Below wc.heap.size wc W4 := h3.trans (b4.mono h3.size))
                | (refine (those_any _ (some ⟨g1, 0, none⟩) al N N cl G1 L r1 (HLW.out _ h1) (thos_perm (p1.trans HPL.out) HTG.out) (by omega)).mono ?_
                   rintro e2 W2 ⟨rfl, b2⟩
                   have h2 : Below wc.heap.size wc W2 := h1.trans (b2.mono h1.size))))
            | (go_at_call 37; go_must (
                refine (sort_odd _ al N cl L (HLW.out _ h2) (by omega)).mono ?_
                rintro e3 W3 ⟨g3, G3, rfl, r3, p3, b3⟩
                have h3 : Below wc.heap.size wc W3 := h2.trans (b3.mono h2.size)))
            | (go_at_call 38; go_must (
                refine (mergeO _ (some ⟨W4.heap.size, 0, none⟩) 2 2 [(⟨al, cl, cl⟩ : Sl), (⟨al, 0, 0⟩ : Sl)] [L.take cl, L.drop cl] (row_two (heap_new _ _)) (fun e => by cases e) rfl (HST.out _ (h4.alloc h4.size _)) (by omega) HTO.out).mono ?_
                rintro e6 W6 ⟨v6, O6, rfl, o6, m6, b6⟩
                have h6 : Below wc.heap.size wc W6 := (h4.alloc h4.size _).trans (b6.mono (by simp; have := h4.size; omega))
                obtain ⟨p6, l6⟩ := HMP.out O6 m6
                obtain ⟨a6, c6, hv6, -, -⟩ := own_form o6
                rw [l6] at hv6
                subst hv6
                have r6 := o6.row l6))
            | (go_at_call 32; go_must (
                refine (odds_any _ a N c K sa (HRW.out _ h7) (by omega)).mono ?_
                rintro e8 W8 ⟨v8, rfl, o8, b8⟩
                have h8 : Below wc.heap.size wc W8 := h7.trans (b8.mono h7.size)
                rw [← HLE.out] at o8
                obtain ⟨a8, c8, hv8, -, -⟩ := own_form o8
                rw [HLN.out] at hv8
                subst hv8
                have r8 := o8.row HLN.out)))
          refine hK _ _ (Met.intro (hJ _ _ ?_))
          (repeat apply Exists.intro)
          exact ⟨⟨rfl, h9⟩, rfl⟩
        · obtain ⟨lg, ha⟩ : ∃ lg, al = some ⟨lg, 0, none⟩ := by
            rcases HFM.out with ⟨_, h0, hc0⟩ | h
            · omega
            · exact h
          subst ha
          have HST : Hid (∀ W, Below wc.heap.size wc W → ∀ (j : Nat) (s : Sl) (C : List Od), [(⟨some ⟨lg, 0, none⟩, k, cl⟩ : Sl), (⟨some ⟨lg, k * 3, none⟩, N - k, cl - k⟩ : Sl)][j]? = some s → [L.take k, L.drop k][j]? = some C → SitsO W s C) := hide (fun W h j s C h1 h2 => by
            have hrow := HLW.out W h
            rcases j with _ | _ | j
            · simp at h1 h2
              subst h1 h2
              exact ⟨hrow.cut k hkN, fun e => (by cases e), by show k ≤ cl; omega⟩
            · simp at h1 h2
              subst h1 h2
              exact ⟨by simpa [layO] using hrow.drop k hkN, fun e => (by cases e), by show N - k ≤ cl - k; omega⟩
            · simp at h1)
          go_region_held3 (fun _ => True) (trivial) (first
            | (go_at_call 36; go_must (
                refine SO.out.mono ?_
                rintro e1 W1 ⟨g1, G1, rfl, r1, p1, b1⟩
                have h1 : Below wc.heap.size wc W1 := (Below.refl _ _).drew.trans b1))
            | (go_at_call 35; go_must (first
                | (refine (those_any _ (some ⟨lg, 0, none⟩) a8 N cl c8 L L (HLW.out _ h8) r8 (thos_perm (.refl _) HTG.out) (by omega)).mono ?_
                   rintro e9 W9 ⟨rfl, b9⟩
                   have h9 : Below wc.heap.size wc W9 := h8.trans (b9.mono h8.size))
                | (refine (those_any _ a6 (some ⟨lg, 0, none⟩) N c6 cl O6 L r6 (HLW.out _ h6) (thos_perm p6 HTG.out) (by omega)).mono ?_
                   rintro e7 W7 ⟨rfl, b7⟩
                   have h7 : Below wc.heap.size wc W7 := h6.trans (b7.mono h6.size))
                | (refine (those_any _ (some ⟨g3, 0, none⟩) (some ⟨lg, 0, none⟩) N N cl G3 L r3 (HLW.out _ h3) (thos_perm p3 HTG.out) (by omega)).mono ?_
                   rintro e4 W4 ⟨rfl, b4⟩
                   have h4 : Below wc.heap.size wc W4 := h3.trans (b4.mono h3.size))
                | (refine (those_any _ (some ⟨g1, 0, none⟩) (some ⟨lg, 0, none⟩) N N cl G1 L r1 (HLW.out _ h1) (thos_perm (p1.trans HPL.out) HTG.out) (by omega)).mono ?_
                   rintro e2 W2 ⟨rfl, b2⟩
                   have h2 : Below wc.heap.size wc W2 := h1.trans (b2.mono h1.size))))
            | (go_at_call 37; go_must (
                refine (sort_odd _ (some ⟨lg, 0, none⟩) N cl L (HLW.out _ h2) (by omega)).mono ?_
                rintro e3 W3 ⟨g3, G3, rfl, r3, p3, b3⟩
                have h3 : Below wc.heap.size wc W3 := h2.trans (b3.mono h2.size)))
            | (go_at_call 38; go_must (
                refine (mergeO _ (some ⟨W4.heap.size, 0, none⟩) 2 2 [(⟨some ⟨lg, 0, none⟩, k, cl⟩ : Sl), (⟨some ⟨lg, k * 3, none⟩, N - k, cl - k⟩ : Sl)] [L.take k, L.drop k] (row_two (heap_new _ _)) (fun e => by cases e) rfl (HST.out _ (h4.alloc h4.size _)) (by omega) HTO.out).mono ?_
                rintro e6 W6 ⟨v6, O6, rfl, o6, m6, b6⟩
                have h6 : Below wc.heap.size wc W6 := (h4.alloc h4.size _).trans (b6.mono (by simp; have := h4.size; omega))
                obtain ⟨p6, l6⟩ := HMP.out O6 m6
                obtain ⟨a6, c6, hv6, -, -⟩ := own_form o6
                rw [l6] at hv6
                subst hv6
                have r6 := o6.row l6))
            | (go_at_call 32; go_must (
                refine (odds_any _ a N c K sa (HRW.out _ h7) (by omega)).mono ?_
                rintro e8 W8 ⟨v8, rfl, o8, b8⟩
                have h8 : Below wc.heap.size wc W8 := h7.trans (b8.mono h7.size)
                rw [← HLE.out] at o8
                obtain ⟨a8, c8, hv8, -, -⟩ := own_form o8
                rw [HLN.out] at hv8
                subst hv8
                have r8 := o8.row HLN.out)))
          refine hK _ _ (Met.intro (hJ _ _ ?_))
          (repeat apply Exists.intro)
          exact ⟨⟨rfl, h9⟩, rfl⟩
      case rest =>
      obtain ⟨rfl, hb5⟩ := hcut
      rename World => w5
      have HQ5 : Hid _ := hide (HQ.out.below hb5)
      have HB5 : Hid _ := hide (HB.out.trans (hb5.mono HB.out.size))
      obtain ⟨i0, hi, hz0, hz1, hz2⟩ := info_parts Try.infoTO
      clear hb5 HQ HB SO HSO HLW HRW HMP HTO
      go_wp2_with fail
      go_loopw [12, 13] (fun so si wr => ∃ (j : Nat) (v : Value) (D E : List (Od × Int)), si = .int .i64 j ∧ j ≤ N ∧ HqO wr w2.heap.size w2.heap.size v i E ∧ Own layO 65 wr w2.heap.size so (D.map Prod.fst) ∧ D.length = j ∧ ((D ++ E).map Prod.fst).Perm L ∧ Below w2.heap.size w2 wr) (fun _ si _ => N - (intOf si).toNat)
      case atStart => exact ⟨0, v, [], E, rfl, Nat.zero_le _, HQ5.out, Own.nil _ _ _ _, rfl, by simpa using HPL.out, HB5.out⟩
      case round =>
        obtain ⟨j, v', D, F, rfl, hjN, hq, ho, hDl, hpm, hb⟩ := hrel
        rename World => wj
        have hFl : D.length + F.length = N := by
          have h1 := hpm.length_eq
          rw [List.length_map, List.length_append, HLN.out] at h1
          exact h1
        have HQ : Hid _ := hide hq
        have HO : Hid _ := hide ho
        have HDL : Hid _ := hide hDl
        have HPM : Hid _ := hide hpm
        have HB : Hid _ := hide hb
        by_cases hlt : j < N
        · have hltI : (j : Int) < (N : Int) := by omega
          obtain ⟨M, hM⟩ : ∃ M, F.length = M + 1 := ⟨F.length - 1, by omega⟩
          obtain ⟨g, cg, hv, _, _, _⟩ := hq.own.frm (by omega)
          rw [hM] at hv
          subst hv
          obtain ⟨e, he⟩ : ∃ e, F[0]? = some e := ⟨_, List.getElem?_eq_getElem (by omega)⟩
          have hMI : (M : Int) + 1 ≤ 1048576 := by omega
          have PO := popO wj w2.heap.size w2.heap.size g cg M i F e hq hM he (by omega)
          have HE : Hid _ := hide he
          obtain ⟨⟨y0, y1, y2⟩, yu⟩ := e
          clear hq ho hDl hpm hb hFl hM he
          go_wp2_with fail
          refine PO.mono ?_
          rintro e6 w6 ⟨rfl, F6, hq6, hp6, _, hb6⟩
          have o6 : Own layO 65 w6 w2.heap.size u12 (D.map Prod.fst) := HO.out.but hb6 (fun q hq e9 => by
            obtain ⟨cc, hcc⟩ := own_at HO.out _ hq
            rcases e9 with e9 | e9
            · rw [e9] at hcc
              exact ty_neN hcc HQ.out.hp (by decide) rfl
            · obtain ⟨cd, hcd⟩ := own_at HQ.out.own g rfl
              rw [e9] at hcc
              exact ty_neN hcc hcd (by decide) rfl)
          have B6 : Hid (Below w2.heap.size w2 w6) := hide (HB.out.trans (hb6.below HB.out.size (fun q hq => by
            rcases hq with hq | hq
            · omega
            · exact (HQ.out.own.lt q (by rw [hq]; rfl)).1)))
          have O6 : Hid _ := hide o6
          have HQ6 : Hid _ := hide hq6
          have HP6 : Hid _ := hide hp6
          have HDM : Hid ((D.map Prod.fst).length = j) := hide (by rw [List.length_map]; exact HDL.out)
          clear PO o6 hq6 hp6 hb6
          go_wp2_with (at_builtin; refine append_lay layO _ 60 65 i0 _ 24 Try.underlying60 hi hz0 hz1 hz2 rfl rfl (.tmp 97) (.tmp 99) rfl w2.heap.size _ _ rfl (O6.out.below (below_alloc2 _ _ _)) _ _ _ [(⟨y0, y1, y2⟩ : Od)] rfl (TRow.one (heap_new2 _ _ _)) (fun e => by cases e) (by rw [HDM.out]; unfold maxLen; omega) (by rw [HDM.out]; omega) (by simp; have := B6.out.size; omega) ?_; intro v7 w7 hown7 hgr7 hl7)
          have bw := below_alloc2 w6 (.cells #[.int .i64 y0, .int .i64 y1, .int .i64 y2] 65 (0, 0)) (.cells #[.int .i64 y0, .int .i64 y1, .int .i64 y2] 65 (0, 0))
          have bg := But.of_grown (S := fun b => u12.ownBlock = some b) hgr7 (fun _ e9 => e9)
          have q7 := (HQ6.out.below bw).but bg (fun e9 => by
            obtain ⟨cc, hcc⟩ := own_at O6.out _ e9
            exact ty_neN hcc HQ6.out.hp (by decide) rfl) (fun q hq e9 => by
            obtain ⟨cc, hcc⟩ := own_at O6.out _ e9
            obtain ⟨cd, hcd⟩ := own_at HQ6.out.own _ hq
            exact ty_neN hcc hcd (by decide) rfl)
          refine ⟨⟨j + 1, _, D ++ [((⟨y0, y1, y2⟩ : Od), yu)], F6, by go_num, by omega, q7, by rw [List.map_append]; exact hown7, by rw [List.length_append, HDL.out]; rfl, ?_, ?_⟩, by simp [intOf]; omega⟩
          · refine List.Perm.trans (List.Perm.map _ ?_) HPM.out
            rw [List.append_assoc]
            exact List.Perm.append_left _ ((HP6.out.cons _).trans (cutTop_perm HE.out).symm)
          · exact (B6.out.trans (bw.mono B6.out.size)).grown hgr7 (by have h1 := B6.out.size; have h2 := bw.size; omega) (fun q hq => (O6.out.lt q hq).1)
        · have hltI : ¬ (j : Int) < (N : Int) := by omega
          have hF : F = [] := List.eq_nil_of_length_eq_zero (by omega)
          subst hF
          have hDM : (D.map Prod.fst).length = N := by rw [List.length_map]; omega
          obtain ⟨ao, co, hvo, _, _⟩ := own_form ho
          rw [hDM] at hvo
          subst hvo
          have PO := pop_emptyO hq
          have HDM : Hid _ := hide hDM
          clear hq ho hDl hpm hb hFl hDM
          go_wp2_with fail
          refine PO.mono ?_
          rintro e6 w6 ⟨rfl, b6⟩
          have TH : Hid (∀ W, Below w6.heap.size w6 W → Calls Try.prog 35 #[.slice ao N co, .slice al N cl] W fun r w' => r = .returned (.bool true) ∧ Below W.heap.size W w') := hide (fun W hW => those_any W ao al N co cl (D.map Prod.fst) L (((HO.out.row HDM.out).below b6).below hW) (((HL.out.below HB.out).below b6).below hW) (thos_perm (by have h1 := HPM.out; rw [List.append_nil] at h1; exact h1) HTG.out) (by omega))
          have B6 : Hid _ := hide (HB.out.trans (b6.mono HB.out.size))
          clear PO b6
          go_wp2_with fail
          refine (TH.out _ (below_alloc1 _ _)).mono ?_
          rintro e7 w7 ⟨rfl, b7⟩
          have B7 : Hid (Below w2.heap.size w2 w7) := hide ((B6.out.trans ((below_alloc1 w6 _).mono B6.out.size)).trans (b7.mono (by simp; have := B6.out.size; omega)))
          clear b7
          go_wp2_with fail
          go_ret
          exact ⟨rfl, HB2.out.trans (B7.out.mono HB2.out.size)⟩
end Go.Proofs.Ytdmlehbamdcjcaa
