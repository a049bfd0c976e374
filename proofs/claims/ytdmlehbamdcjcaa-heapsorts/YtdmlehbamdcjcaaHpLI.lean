/-
  The first few of a list; a list in its order.
-/
import Derived.Test.YtdmlehbamdcjcaaHpHI
import Derived.Lib.MinMax
namespace Go.Proofs.Ytdmlehbamdcjcaa
open Go.RowKit
set_option maxRecDepth 8000 in
set_option maxHeartbeats 3200000 in
theorem leastI (w : World) (a : Option Addr) (N c : Nat) (L : List It) (q : Int) (hr : TRow layI w a N L) (hl : (N : Int) ≤ 8796093022208) (hq0 : -9223372036854775808 ≤ q) (hq1 : q ≤ 9223372036854775807) :
    Calls Try.prog 27 #[.slice a N c, .int .i64 q] w fun r w' => ∃ g k E D E', r = .returned (.slice (some ⟨g, 0, none⟩) k k) ∧ w.heap.size ≤ g ∧ k = min (max q 0).toNat N ∧ Own layI 27 w' w.heap.size (.slice (some ⟨g, 0, none⟩) k k) (D.map Prod.fst) ∧ D.length = k ∧ E.Perm (tg L 0) ∧ (Ord (fst bfI) → Hp (fst bfI) E) ∧ Pops (fst bfI) E D E' ∧ Below w.heap.size w w' := by
  have HR : Hid _ := hide hr
  have HLN : Hid _ := hide hr.len
  clear hr
  go_enter Try.func27, Try.ntmps27
  go_wp2_with fail
  refine (newI _).mono ?_
  rintro r w1 ⟨rfl, hq1', hb1⟩
  have HQ1 : Hid _ := hide hq1'
  have HB1 : Hid _ := hide hb1
  clear hq1' hb1
  go_wp2_with fail
  go_loopw [11] (fun si wr => ∃ (j : Nat) (E1 : List (It × Int)) (v1 : Value), si = .int .i64 j ∧ j ≤ N ∧ HqI wr w.heap.size w.heap.size v1 j E1 ∧ E1.Perm (tg (L.take j) 0) ∧ (Ord (fst bfI) → Hp (fst bfI) E1) ∧ Below w.heap.size w wr) (fun si _ => N - (intOf si).toNat)
  case atStart =>
    exact ⟨0, [], _, rfl, Nat.zero_le _, HQ1.out, List.Perm.refl _, fun _ i x y _ hx => by simp at hx, HB1.out⟩
  case round =>
    obtain ⟨j, E1, v1, rfl, hj, hq, hpm, hh, hb⟩ := hrel
    have HQ : Hid _ := hide hq
    have HP : Hid _ := hide hpm
    have HH : Hid _ := hide hh
    have HB : Hid _ := hide hb
    clear hq hpm hh hb
    by_cases hlt : j < N
    · obtain ⟨b, off, rfl, hbl, hc⟩ := HR.out.at (by omega)
      obtain ⟨x, hx⟩ : ∃ x, L[j]? = some x := ⟨_, List.getElem?_eq_getElem (by rw [HLN.out]; exact hlt)⟩
      have x0 := (HB.out.cell (p := ⟨b, off + j * 2, none⟩) hbl).trans (hc j x hx 0 _ rfl); have x1 := (HB.out.cell (p := ⟨b, off + j * 2 + 1, none⟩) hbl).trans (hc j x hx 1 _ rfl)
      have HX : Hid _ := hide hx
      clear hx hc
      obtain ⟨a0, a1⟩ := x
      obtain ⟨w2, hw2⟩ : ∃ w2, w2 = wr.alloc (.cells #[.int .i64 a0, .int .i64 a1] 27) := ⟨_, rfl⟩
      have b2 : Below wr.heap.size wr w2 := by rw [hw2]; exact below_alloc1 _ _
      have HW2 : Hid _ := hide hw2
      have hE1 : E1.length = j := by rw [HP.out.length_eq, tg_len, List.length_take, HLN.out]; omega
      have hs := HB.out.size
      have hs2 := b2.size
      have PU := pushI w2 w.heap.size w.heap.size v1 j E1 ⟨a0, a1⟩ (HQ.out.below b2) (by omega) (by omega) (by omega) (by omega)
      have HB2 : Hid _ := hide (Below.on HB.out b2)
      clear hw2 b2
      go_wp2_with fail
      rw [← HW2.out]
      refine PU.mono ?_
      rintro r w3 ⟨rfl, g, c3, E3, hq3, hp3, hh3, hb3, hg3⟩
      have HQ3 : Hid _ := hide hq3
      have HP3 : Hid _ := hide hp3
      have HH3 : Hid _ := hide hh3
      have HB3 : Hid (Below w.heap.size w w3) := hide (HB2.out.trans (hb3.below (by omega) (fun k hk => by
        rcases (hk : k = w.heap.size ∨ v1.ownBlock = some k) with e | e
        · omega
        · exact (HQ.out.own.lt k e).1)))
      clear hq3 hp3 hh3 hb3 PU x0 x1
      go_wp2_with fail
      refine ⟨⟨j + 1, E3, _, by go_num, by omega, by have h9 := HQ3.out; exact h9, HP3.out.trans ?_, fun o => HH3.out o (HH.out o), HB3.out⟩, by simp [intOf]; omega⟩
      have hlj : j < L.length := by rw [HLN.out]; exact hlt
      have e9 : L.take (j + 1) = L.take j ++ [(⟨a0, a1⟩ : It)] := by
        rw [List.take_succ_eq_append_getElem hlj]
        have h8 := HX.out
        rw [List.getElem?_eq_getElem hlj] at h8
        rw [Option.some.inj h8]
      rw [e9, tg_snoc, List.length_take, Nat.min_eq_left (by omega), Int.zero_add]
      exact HP.out.append_right _
    · have hjN : j = N := by omega
      subst hjN
      have hE1 : E1.length = j := by rw [HP.out.length_eq, tg_len, List.length_take, HLN.out]; omega
      have hs := HB.out.size
      obtain ⟨k, hk⟩ : ∃ k : Nat, k = min (max q 0).toNat j := ⟨_, rfl⟩
      have TF := takeFirstI wr w.heap.size w.heap.size v1 j E1 k HQ.out (by omega) (by omega)
      have hkI : min (max q 0) (j : Int) = (k : Int) := by omega
      have HK : Hid _ := hide hk
      have HE1 : Hid _ := hide hE1
      clear hk hE1
      go_wp2_with fail
      (try rw [hkI])
      refine TF.mono ?_
      rintro r w3 ⟨D, E', v3, rfl, O3, hD, _, hpops, hb3, _⟩
      go_wp2
      go_ret
      refine ⟨wr.heap.size, k, E1, D, E', rfl, by omega, HK.out, O3.mono (by omega), hD, ?_, HH.out, hpops, HB.out.trans (hb3.below (by omega) (fun k hk => ?_))⟩
      · have h9 := HP.out
        rw [List.take_of_length_le (by rw [HLN.out]; exact Nat.le_refl _)] at h9
        exact h9
      · rcases (hk : k = w.heap.size ∨ v1.ownBlock = some k) with e | e
        · omega
        · exact (HQ.out.own.lt k e).1
theorem sortI (w : World) (a : Option Addr) (N c : Nat) (L : List It) (hr : TRow layI w a N L) (hl : (N : Int) ≤ 8796093022208) :
    Calls Try.prog 25 #[.slice a N c] w fun r w' => ∃ g E D E', r = .returned (.slice (some ⟨g, 0, none⟩) N N) ∧ w.heap.size ≤ g ∧ Own layI 27 w' w.heap.size (.slice (some ⟨g, 0, none⟩) N N) (D.map Prod.fst) ∧ D.length = N ∧ E.Perm (tg L 0) ∧ (Ord (fst bfI) → Hp (fst bfI) E) ∧ Pops (fst bfI) E D E' ∧ Below w.heap.size w w' := by
  have LE := leastI w a N c L N hr hl (by omega) (by omega)
  clear hr
  go_enter Try.func25, Try.ntmps25
  go_wp2_with fail
  refine LE.mono ?_
  rintro r w' ⟨g, k, E, D, E', rfl, hg, hk, O, hD, hp, hh, hpp, hb⟩
  have hkN : k = N := by omega
  clear hk
  subst hkN
  go_wp2
  go_ret
  exact ⟨g, E, D, E', rfl, hg, O, hD, hp, hh, hpp, hb⟩
end Go.Proofs.Ytdmlehbamdcjcaa
