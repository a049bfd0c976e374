/-
  EventParts, a cut out of range.
-/
import Derived.Test.YtifbehkdhalfcaaDoorParA
namespace Go.Proofs.YtifbehkdhalfcaaDoor
open Go.RowKit Go.Maps Go.Shelf
set_option maxRecDepth 8000 in
set_option maxHeartbeats 16000000 in
theorem parts_hi (ad : Addr) (n c : Nat) (es : List Ev) (ka : Option Addr) (kn kc : Nat) (ks : List Bool) (cut : Int) (w : World) (h : Kr w) (hr : ERow w (some ad) n es) (hok : ∀ e ∈ es, e.ok) (hn : n * 56 ≤ 140737488355328) (hc : n ≤ c) (hk : BoRow w ka kn ks) (_hkn : (kn : Int) ≤ 9223372036854775806) (hcut : (n : Int) < cut) :
    Calls Tryd.prog 4 #[.slice (some ad) n c, .slice ka kn kc, .int .i64 cut] w fun r w' => r = .returned (.bool true) ∧ Below w.heap.size w w' := by
  have hnI : (n : Int) ≤ 9223372036854775806 := by omega
  have HAl : Hid _ := hide (alive_any w h)
  have HK : Hid _ := hide h
  have HR : Hid _ := hide hr
  have HO : Hid _ := hide hok
  have HN : Hid _ := hide hn
  have HBo : Hid _ := hide hk
  have hCN : n ≤ n := Nat.le_refl _
  have d1 : decide (cut < 0) = false := by simp; omega
  have d2 : decide ((n : Int) < cut) = true := by simp; omega
  clear hcut
  have hcI : (n : Int) ≤ c := by omega
  have HLen : Hid (es.length = n) := hide hr.len
  clear h hr hok hn hk
  go_enter Tryd.func4, Tryd.ntmps4
  go_wp2_with fail
  refine HAl.out.mono ?_
  rintro r w1 ⟨rfl, hb1⟩
  have HB1 : Hid _ := hide hb1
  have HQ1 : Hid _ := hide (bounds_any (some ad) n c es w1 (HK.out.below hb1 (by have := HK.out.size; omega)) (HR.out.bel hb1) HO.out hnI)
  clear HAl hb1
  go_wp2_with fail
  refine HQ1.out.mono ?_
  rintro r w2 ⟨rfl, hb2⟩
  have HB2 : Hid _ := hide (HB1.out.trans (hb2.mono HB1.out.size))
  clear hb2 HQ1 HB1
  have HQ2 : Hid _ := hide (bounds_any (some ad) n c (es.take n) w2 (HK.out.below HB2.out (by have := HK.out.size; omega)) ((HR.out.bel HB2.out).take hCN) (fun e he => HO.out e (List.mem_of_mem_take he)) (by omega))
  go_wp2_with fail
  refine HQ2.out.mono ?_
  rintro r w3 ⟨rfl, hb3⟩
  have HB3 : Hid _ := hide (HB2.out.trans (hb3.mono HB2.out.size))
  clear hb3 HQ2 HB2
  by_cases hE : (bounds es).2 = 0
  · have hv := (bounds_ok hE).1
    have hv2 := bounds_sub (List.take_sublist n es) hE
    have HE : Hid _ := hide hE
    have HCk : Hid (∀ e ∈ es, e.chk = 0) := hide (bnd_chk 0 [] [] (bounds_ok hE).2.2)
    rw [hv, hv2]
    dsimp only
    clear hv hv2 hE
    go_wp2
    go_loopw [12, 13] (fun s i wr => ∃ (j m : Nat) (fs : List Ev) (ua : Option Addr) (uc : Nat), j ≤ n ∧ i = .int .i64 j ∧ s = .slice ua m uc ∧ Cho w w3 wr es j m fs (.slice ua m uc)) (fun _ i _ => n - (intOf i).toNat)
    case atStart => exact ⟨0, 0, [], none, 0, Nat.zero_le _, rfl, rfl, rfl, List.nil_sublist _, World.ownsRow_nil _ _ _ _, Below.refl _ _⟩
    case round =>
      obtain ⟨j, m, fs, ua, uc, hj, rfl, rfl, hcho⟩ := hrel
      have HC : Hid _ := hide hcho
      have HBr : Hid _ := hide (HB3.out.trans (hcho.bel.mono HB3.out.size))
      clear hcho
      by_cases hlt : j < n
      · have hjI : (j : Int) < n := by omega
        obtain ⟨b, off, e, rfl', hej, c0, c1, c2, c3, c4, hs⟩ := (HR.out.bel HBr.out).at hlt
        obtain ⟨b', off', e', hba', hej', q0, q1, q2, q3, q4, hs0⟩ := HR.out.at hlt
        cases rfl'
        cases hba'
        rw [hej] at hej'
        cases hej'
        have hmem := List.mem_of_getElem? hej
        have hlen : (e.ls.length : Int) ≤ 9223372036854775806 := by have := (HO.out e hmem).len; omega
        have hCk := check_any e.g e.k e.o e.a e.sa e.ls.length e.sc e.ls wr (HK.out.below HBr.out (by have := HK.out.size; omega)) (SRow.bel hs0 HBr.out) hlen
        rw [show chk e.g e.k e.o e.a e.ls = 0 from HCk.out e hmem] at hCk
        have HCC : Hid _ := hide hCk
        have HEj : Hid _ := hide hej
        have HQc : Hid _ := hide (⟨q0, q1, q2, q3, q4⟩ : _ ∧ _ ∧ _ ∧ _ ∧ _)
        have hmj : Hid (m ≤ j) := hide (HC.out.lem (by rw [HLen.out]; exact hj))
        clear hej hs hs0 hmem hlen hCk q0 q1 q2 q3 q4
        go_wp2_with fail
        refine HCC.out.mono ?_
        rintro r w5 ⟨rfl, hb5⟩
        have HB5 : Hid _ := hide (HBr.out.trans (hb5.mono HBr.out.size))
        have HW5 : Hid _ := hide hb5
        clear hb5 HCC c0 c1 c2 c3 c4
        obtain ⟨r0, r1, r2, r3, r4⟩ := HQc.out
        have c0 := cell_bel r0 HB5.out
        have c1 := cell_bel r1 HB5.out
        have c2 := cell_bel r2 HB5.out
        have c3 := cell_bel r3 HB5.out
        have c4 := cell_bel r4 HB5.out
        clear r0 r1 r2 r3 r4 HQc
        by_cases hjk : j < kn
        · have hjkI : decide ((j : Int) < kn) = true := by simp; omega
          have hjkI' : (j : Int) < kn := by omega
          obtain ⟨kb, koff, rfl', hkc⟩ := (HBo.out.bel HB5.out).at hjk
          subst rfl'
          generalize ks.getD j false = kv at hkc
          cases kv
          · go_wp2
            exact ⟨⟨j + 1, m, fs, ua, uc, by omega, by go_num, rfl, HC.out.skip HW5.out⟩, by simp [intOf]; omega⟩
          · have hm56 : Hid ((m + 1) * 56 ≤ 140737488355328) := hide (by have := HN.out; have := hmj.out; omega)
            have HCs : Hid _ := hide (own_but (S := fun _ => False) HC.out.own (But.of_below HW5.out) (fun _ _ e => e))
            have HSz : Hid (w3.heap.size ≤ w5.heap.size) := hide (Nat.le_trans HC.out.bel.size HW5.out.size)
            go_wp2_with (first
              | (at_builtin; refine append_ev _ rfl _ _ rfl w3.heap.size (.slice ua m uc) m fs rfl (HCs.out.alloc _) w5.heap.size e rfl EvB.new hm56.out (Nat.le_trans HSz.out (by simp)) ?_
                 intro a2 c2' w6 o6 g6 _
                 have HC6 : Hid _ := hide (HC.out.more HEj.out (HW5.out.trans ((below_new w5 _).mono HW5.out.size)) o6 g6)
                 clear o6 g6)
              | go_in)
            exact ⟨⟨j + 1, m + 1, _, a2, c2', by omega, by go_num, rfl, HC6.out⟩, by simp [intOf]; omega⟩
        · have hjkI : decide ((j : Int) < kn) = false := by simp; omega
          go_wp2
          exact ⟨⟨j + 1, m, fs, ua, uc, by omega, by go_num, rfl, HC.out.skip HW5.out⟩, by simp [intOf]; omega⟩
      · have hsub : fs.Sublist es := HC.out.sub.trans (List.take_sublist _ _)
        have hmn : m ≤ n := by have := HC.out.lem (by rw [HLen.out]; exact hj); omega
        have hB := bounds_any ua m uc fs wr (HK.out.below HBr.out (by have := HK.out.size; omega)) (own_erow HC.out.own HC.out.len (fun f hf => by
          obtain ⟨i, hi, e0⟩ := List.getElem_of_mem (hsub.subset hf)
          obtain ⟨_, _, e', _, he', _, _, _, _, _, hat⟩ := (HR.out.bel HBr.out).at (i := i) (by rw [HLen.out] at hi; exact hi)
          rw [List.getElem?_eq_getElem hi, e0] at he'
          cases he'
          exact hat)) (fun f hf => HO.out f (hsub.subset hf)) (by omega)
        rw [bounds_sub hsub HE.out] at hB
        have HBn : Hid (Calls Tryd.prog 10 #[.slice ua m uc] wr fun r w' => r = .returned (.tuple #[.int .i64 (-1), .int .i64 0]) ∧ Below wr.heap.size wr w') := hide hB
        clear hsub hmn hB
        go_wp2_with fail
        refine HBn.out.mono ?_
        rintro r w6 ⟨rfl, hb6⟩
        have HB6 : Hid _ := hide (HBr.out.trans (hb6.mono HBr.out.size))
        clear hb6
        go_wp2
        go_ret
        exact ⟨rfl, HB6.out⟩
  · have hne : ((bounds es).2 == 0) = false := by rw [beq_eq_false_iff_ne]; exact hE
    by_cases hlarge : n ≤ 1048576
    · obtain ⟨m, hm1, hm2, hm3, hm4, hm5⟩ := bounds_fault (by rw [HLen.out]; exact hlarge) hE
      have hlI : (n : Int) ≤ 1048576 := by omega
      rw [HLen.out] at hm1
      have hB := bounds_any (some ad) m c (es.take m) w3 (HK.out.below HB3.out (by have := HK.out.size; omega)) ((HR.out.bel HB3.out).take (by omega)) (fun e he => HO.out e (List.mem_of_mem_take he)) (by omega)
      rw [hm3] at hB
      have HBn : Hid (Calls Tryd.prog 10 #[.slice (some ad) m c] w3 fun r w' => r = .returned (.tuple #[.int .i64 (-1), .int .i64 0]) ∧ Below w3.heap.size w3 w') := hide hB
      have m1 : (m : Int) < n := by omega
      have m2 : decide ((m : Int) < 0) = false := by simp
      have m3 : decide ((n : Int) ≤ m) = false := by simp; omega
      by_cases hCm : m < n
      · have hCI : (m : Int) < (n : Nat) := by omega
        have hCd : decide ((m : Int) < (n : Nat)) = true := by simp; omega
        rw [hm4 n hCm, hm2]
        generalize (bounds es).2 = E at hne ⊢
        have g1 : ((m : Int) == (m : Int)) = true := by simp
        have g2 : (E == E) = true := by simp
        clear hm1 hm2 hm3 hm4 hm5 hE hB hlarge
        go_wp2_with fail
        refine HBn.out.mono ?_
        rintro r w6 ⟨rfl, hb6⟩
        have HB6 : Hid _ := hide (HB3.out.trans (hb6.mono HB3.out.size))
        clear hb6
        go_wp2
        go_ret
        exact ⟨rfl, HB6.out⟩
      · exact absurd hm1 hCm
    · have hv : bounds es = (1048576, 3) := by unfold bounds; rw [if_neg (by rw [HLen.out]; exact hlarge)]
      have hlI : (1048576 : Int) < n := by omega
      rw [hv]
      dsimp only
      clear hne hE
      go_wp2
      go_ret
      exact ⟨rfl, HB3.out⟩
end Go.Proofs.YtifbehkdhalfcaaDoor
