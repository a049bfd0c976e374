/-
  Slices: places, taken, Take; what is refused.
-/
import Derived.Test.YtchanbiioegegaaSlD
namespace Go.Proofs.Ytchanbiioegegaa
open Go.RowKit Go.Maps
set_option linter.unusedVariables false
set_option maxRecDepth 8000 in
theorem prefix_bad (a : Option Addr) (n c : Nat) (k : Int) (w : World) (hk : k < 0 ∨ (n : Int) < k) :
    Calls Try.prog 5 #[.slice a n c, .int .i64 k] w fun r w' => r = .returned (.tuple #[.slice none 0 0, .int .i64 220]) ∧ w' = w := by
  by_cases h1 : k < 0
  · have d1 : decide (k < 0) = true := decide_eq_true h1
    clear hk
    go_enter Try.func5, Try.ntmps5
    go_wp2
    go_ret2
    exact ⟨rfl, rfl⟩
  · have d1 : decide (k < 0) = false := decide_eq_false h1
    have h2 : (n : Int) < k := by omega
    have d2 : decide ((n : Int) < k) = true := decide_eq_true h2
    clear hk
    go_enter Try.func5, Try.ntmps5
    go_wp2
    go_ret2
    exact ⟨rfl, rfl⟩
theorem made_ints (w : World) (n : Nat) (hn : n * 8 ≤ 140737488355328) : ∃ w', (Instr.makeSlice 29 (.int .i64 0) (.int .i64 (n : Int))).run Try.prog w = .ok (.slice (some ⟨w.heap.size, 0, none⟩) 0 n) w' ∧ Own sI 3 w' w.heap.size (.slice (some ⟨w.heap.size, 0, none⟩) 0 n) [] ∧ w.grownBy w' none := by
  obtain ⟨i0, hi, hz0, hz1, hz2⟩ := info_parts sInfoI
  exact run_make_own (P := Try.prog) w w.heap.size 29 3 i0 _ 1 Try.underlying29 hi hz0 hz1 .i64 .i64 n (by rw [hz2]; omega) (by unfold maxLen; omega) (Nat.le_refl _)
/-- A list of numbers of one's own. -/
structure Li (w0 wr : World) (v : Value) (P : List Int) : Prop where
  own : Own sI 3 wr w0.heap.size v P
  bel : Below w0.heap.size w0 wr
theorem Li.on {w0 wr w' : World} {v : Value} {P : List Int} (h : Li w0 wr v P) (hb : Below wr.heap.size wr w') : Li w0 w' v P := ⟨h.own.below hb, h.bel.trans (hb.mono h.bel.size)⟩
theorem Li.push {w0 wr w' : World} {v v' : Value} {P Q : List Int} (h : Li w0 wr v P) (ho : Own sI 3 w' w0.heap.size v' Q) (hg : wr.grownBy w' v.ownBlock) : Li w0 w' v' Q :=
  ⟨ho, h.bel.grown hg h.bel.size (fun k hk => (h.own.lt k hk).1)⟩
theorem Li.nil (w : World) : Li w w (.slice none 0 0) [] := ⟨Own.nil _ _ _ _, Below.refl _ _⟩
set_option maxRecDepth 8000 in
set_option maxHeartbeats 2000000 in
theorem places_any (a : Option Addr) (n c : Nat) (ks : List Bool) (w : World) (hb : TRow sB w a n ks) (hn : n * 56 ≤ 140737488355328) :
    Calls Try.prog 15 #[.slice a n c] w fun r w' => ∃ v, r = .returned v ∧ Li w w' v (intP (plc ks n)) := by
  have HB := hide hb
  have HN := hide hn
  have HL := hide hb.len
  have hnM : (n : Int) ≤ 9223372036854775806 := by omega
  have HMk := hide (fun X m (h : m * 8 ≤ 140737488355328) => made_ints X m h)
  obtain ⟨i0, hi0, hz0, hz1, hz2⟩ := info_parts sInfoI
  clear hb hn
  go_enter Try.func15, Try.ntmps15
  go_wp2
  go_loopw [3, 11] (fun s3 s11 wr => ∃ i k : Nat, i ≤ n ∧ s11 = .int .i64 i ∧ s3 = .int .i64 k ∧ Hid (k = (plc ks i).length) ∧ k ≤ i ∧ wr = w) (fun _ s _ => n - (intOf s).toNat)
  case atStart => exact ⟨0, 0, Nat.zero_le _, rfl, rfl, hide rfl, Nat.le_refl _, rfl⟩
  case round =>
    obtain ⟨i, k, hi, rfl, rfl, HK, hki, hwr⟩ := hrel
    rw [hwr]
    clear hwr
    by_cases hlt : i < n
    · have hiI : (i : Int) < n := by omega
      have hi0' : (0 : Int) ≤ i := by omega
      have hkI : (k : Int) ≤ i := by omega
      obtain ⟨x, hx⟩ : ∃ x, ks[i]? = some x := ⟨_, List.getElem?_eq_getElem (by rw [HL.out]; exact hlt)⟩
      obtain ⟨b1, o1, e1, d1⟩ := sB_cell HB.out hx
      subst e1
      cases x with
      | false =>
        have HK2 : Hid (k = (plc ks (i + 1)).length) := hide (by rw [plc_f hx]; exact HK.out)
        clear hx
        go_wp2
        exact ⟨⟨i + 1, k, by omega, by go_num, rfl, HK2, by omega, trivial⟩, by simp [intOf]; omega⟩
      | true =>
        have HK2 : Hid (k + 1 = (plc ks (i + 1)).length) := hide (by rw [plc_t hx, List.length_append, HK.out]; rfl)
        clear hx
        go_wp2
        exact ⟨⟨i + 1, k + 1, by omega, by go_num, by go_num, HK2, by omega, trivial⟩, by simp [intOf]; omega⟩
    · have h9 : i = n := by omega
      subst h9
      have hiI : ¬ (i : Int) < i := by omega
      obtain ⟨w1, hmk, hown, hgr⟩ := HMk.out w k (by have := HN.out; omega)
      have HLi : Hid (Li w w1 (.slice (some ⟨w.heap.size, 0, none⟩) 0 k) (intP (plc ks 0))) := hide ⟨hown, ⟨hgr.os, hgr.tape, hgr.output, hgr.size, fun k hk => hgr.block k hk (by simp)⟩⟩
      have hk0 : (0 : Int) ≤ k := by omega
      have hkI : (k : Int) ≤ i := by omega
      clear hown hgr HMk HK hlt
      go_wp2
      rename World => Wk
      go_loopw [6, 23] (fun s6 s23 wr => ∃ j : Nat, j ≤ i ∧ s23 = .int .i64 j ∧ Hid (Li w wr s6 (intP (plc ks j)))) (fun _ s _ => i - (intOf s).toNat)
      case atStart => exact ⟨0, Nat.zero_le _, rfl, HLi⟩
      case round =>
        obtain ⟨j, hj, rfl, HJ⟩ := hrel
        clear HLi hmk
        by_cases hlj : j < i
        · have hjI : (j : Int) < i := by omega
          have hj0 : (0 : Int) ≤ j := by omega
          obtain ⟨x, hx⟩ : ∃ x, ks[j]? = some x := ⟨_, List.getElem?_eq_getElem (by rw [HL.out]; exact hlj)⟩
          obtain ⟨b1, o1, e1, d1⟩ := sB_cell (HB.out.below HJ.out.bel) hx
          subst e1
          cases x with
          | false =>
            have HJ2 : Hid (intP (plc ks (j + 1)) = intP (plc ks j)) := hide (by rw [plc_f hx])
            clear hx
            go_wp2
            exact ⟨⟨j + 1, by omega, by go_num, hide (by rw [HJ2.out]; exact HJ.out)⟩, by simp [intOf]; omega⟩
          | true =>
            have HJ2 : Hid (intP (plc ks (j + 1)) = intP (plc ks j) ++ [(j : Int)]) := hide (by rw [plc_t hx, intP_snoc])
            have HJ3 := hide (HJ.out.on (below_alloc1 wr (.cells #[.int .i64 (j : Int)] 3)))
            have HT := hide (TRow.one (y := sI) (w := wr.alloc (.cells #[.int .i64 (j : Int)] 3)) (B := wr.heap.size) (x := (j : Int)) (heap_new wr (.cells #[.int .i64 (j : Int)] 3)))
            have HLn : Hid ((intP (plc ks j)).length ≤ j) := hide (by rw [intP_len]; exact plc_le ks j)
            clear hx
            generalize intP (plc ks j) = PP at HJ HJ2 HJ3 HLn
            go_wp2_with (at_builtin; refine append_lay sI _ 29 3 i0 _ 8 Try.underlying29 hi0 hz0 hz1 hz2 rfl rfl _ _ rfl w.heap.size _ PP rfl HJ3.out.own _ 1 1 [(j : Int)] rfl HT.out (fun e => by cases e) ?b1 ?b2 HJ3.out.bel.size ?_)
            case b1 => unfold maxLen; have := HLn.out; have := HN.out; omega
            case b2 => have := HLn.out; have := HN.out; omega
            intro v' w' o2 g2 l2
            have HJ4 : Hid (Li w w' v' (intP (plc ks (j + 1)))) := hide (by rw [HJ2.out]; exact HJ3.out.push o2 g2)
            clear o2 g2 l2
            go_wp2
            exact ⟨⟨j + 1, by omega, by go_num, HJ4⟩, by simp [intOf]; omega⟩
        · have h9 : j = i := by omega
          subst h9
          have hjI : ¬ (j : Int) < j := by omega
          go_wp2
          go_ret
          exact ⟨_, rfl, HJ.out⟩
set_option maxRecDepth 8000 in
set_option maxHeartbeats 2000000 in
theorem taken_any (a : Option Addr) (n c : Nat) (es : List E6.Ev) (a2 : Option Addr) (m c2 : Nat) (P : List Nat) (w : World) (hr : E6.ERow w a n es) (hok : ∀ e ∈ es, e.ok) (hn : n * 56 ≤ 140737488355328) (hp : TRow sI w a2 m (intP P)) (hP : ∀ p ∈ P, p < n) (hm : m ≤ n) :
    Calls Try.prog 16 #[.slice a n c, .slice a2 m c2] w fun r w' => ∃ fs v, r = .returned v ∧ E6.Tw w w' (pkE es P) m fs v := by
  have HR := hide hr
  have HO := hide hok
  have HN := hide hn
  have HP := hide hp
  have HPn := hide hP
  have HPl : Hid (P.length = m) := hide (by have := hp.len; rw [intP_len] at this; exact this)
  have hmM : (m : Int) ≤ 9223372036854775806 := by omega
  obtain ⟨i0, hi0, hz0, hz1, hz2⟩ := info_parts E6.Try.infoEvent
  clear hr hok hn hp hP
  go_enter Try.func16, Try.ntmps16
  go_wp2_with (at_make; refine wpList_make_full _ rfl _ _ 22 rfl w.heap.size 38 i0 (.agg #[.int .i64 0, .int .i64 0, .int .u64 0, .int .u64 0, .slice none 0 0]) 5 Try.underlying22 hi0 hz0 hz1 _ _ _ _ m rfl rfl rfl rfl ?b2 ?b3 (Nat.le_refl _) ?_)
  case b2 => rw [hz2]; have := HN.out; omega
  case b3 => unfold maxLen; have := HN.out; omega
  intro w2 hown2 hgr2
  have HM := hide (Mk.start (w0 := w) (L := pkE es P) (made_nE m) hown2 ⟨hgr2.os, hgr2.tape, hgr2.output, hgr2.size, fun k hk => hgr2.block k hk (by simp)⟩)
  generalize w.heap.size = b at HM ⊢
  clear hown2 hgr2 hi0 hz0 hz1 hz2
  go_wp2
  go_loopw [13] (fun s wr => ∃ j : Nat, j ≤ m ∧ s = .int .i64 j ∧ Hid (∃ fs, Mk w wr (pkE es P) m j b fs)) (fun s _ => m - (intOf s).toNat)
  case atStart => exact ⟨0, Nat.zero_le _, rfl, hide ⟨_, HM.out⟩⟩
  case round =>
    obtain ⟨j, hj, rfl, HJ⟩ := hrel
    clear HM
    obtain ⟨fs, hM⟩ := HJ.out
    have HM := hide hM
    clear hM HJ
    by_cases hlt : j < m
    · have hjI : (j : Int) < m := by omega
      have hj0 : (0 : Int) ≤ j := by omega
      obtain ⟨p, hp⟩ : ∃ p, P[j]? = some p := ⟨_, List.getElem?_eq_getElem (by rw [HPl.out]; exact hlt)⟩
      have hpn := HPn.out p (List.mem_of_getElem? hp)
      have hpI : (p : Int) < n := by omega
      have hp0 : (0 : Int) ≤ p := by omega
      obtain ⟨b1, o1, e1, d1⟩ := sI_cell (HP.out.below HM.out.bel) (intP_at hp)
      subst e1
      obtain ⟨b0, off, e, ha, hej, c0, c1, c2, c3, c4, hs⟩ := (HR.out.bel HM.out.bel).at (i := p) hpn
      have hme := HO.out e (List.mem_of_getElem? hej)
      have HC := hide (own_any e wr hs (by have := hme.len; omega) hme.nil)
      have HE := hide (pkE_at hp hej)
      subst ha
      clear hs hme hej hp hpn
      go_wp2_with fail
      refine HC.out.mono ?_
      rintro r w3 ⟨sa, sc, rfl, ho, hcap, hnil, hb3⟩
      have HM3 := hide (HM.out.on hb3)
      have HF : Hid (Ok1 w w3 e ⟨e.g, e.k, e.o, e.a, sa, sc, e.ls⟩) := hide ⟨⟨rfl, rfl, rfl, rfl, rfl⟩, hcap, hnil, own_mono ho HM.out.bel.size⟩
      obtain ⟨x, x0, x1, x2, x3, x4, z0, z1, z2, z3, z4⟩ := HM3.out.cells (by omega)
      have HM4 := hide (HM3.out.set (by omega) HE.out HF.out)
      clear ho hcap hnil hb3 HC c0 c1 c2 c3 c4
      go_wp2
      exact ⟨⟨j + 1, by omega, by go_num, hide ⟨_, HM4.out⟩⟩, by simp [intOf]; omega⟩
    · have h9 : j = m := by omega
      subst h9
      have hjI : ¬ (j : Int) < j := by omega
      have HT := hide HM.out.tw
      go_wp2
      go_ret
      exact ⟨fs, _, rfl, HT.out⟩
end Go.Proofs.Ytchanbiioegegaa
