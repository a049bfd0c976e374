/-
  EventTable.
-/
import Derived.Test.YtifbehkdhalfcaaDoorAliA
namespace Go.Proofs.YtifbehkdhalfcaaDoor
open Go.RowKit Go.Maps Go.Shelf
def knl (m : Nat) : List ByteArray := (List.range m).map fun i => kname (i + 1)
theorem knl_succ (m : Nat) : knl (m + 1) = knl m ++ [kname (m + 1)] := by unfold knl; rw [List.range_succ]; simp
theorem knl_len (m : Nat) : (knl m).length = m := by simp [knl]
theorem knl_get {m i : Nat} (h : i < m) : (knl m).getD i ByteArray.empty = kname (i + 1) := by
  unfold knl; rw [List.getD_eq_getElem?_getD]; simp [h]
theorem kname_len (k : Nat) (h1 : 1 ≤ k) (h2 : k < 23) : 3 ≤ ((kname k).size : Int) ∧ ((kname k).size : Int) ≤ 8 := by
  have : ∀ k : Fin 23, 1 ≤ k.1 → 3 ≤ ((kname k.1).size : Int) ∧ ((kname k.1).size : Int) ≤ 8 := by decide
  exact this ⟨k, h2⟩ h1
theorem kname_kind (k : Nat) (h1 : 1 ≤ k) (h2 : k < 23) : kfind (kname k) 1 22 = ((k : Int), 0) := by
  have : ∀ k : Fin 23, 1 ≤ k.1 → kfindD (kname k.1) 1 22 = ((k.1 : Int), 0) := by decide
  rw [kfind_eq]
  exact this ⟨k, h2⟩ h1
theorem kname_ne (i k : Nat) (h0 : 1 ≤ i) (h1 : i < k) (h2 : k < 23) : ((kname i).toList == (kname k).toList) = false := by
  have : ∀ i k : Fin 23, 1 ≤ i.1 → i.1 < k.1 → ((kname i.1).data.toList == (kname k.1).data.toList) = false := by decide
  rw [ByteArray.toList_eq, ByteArray.toList_eq]
  exact this ⟨i, by omega⟩ ⟨k, h2⟩ h0 h1
set_option maxRecDepth 8000 in
set_option maxHeartbeats 4000000 in
theorem table_any (kind : Int) (w : World) (h : Kr w) : Calls Tryd.prog 6 #[.int .i64 kind] w fun r w' => r = .returned (.bool true) ∧ Below w.heap.size w w' := by
  have HAl : Hid _ := hide (alive_any w h)
  have HK : Hid _ := hide h
  clear h
  go_enter Tryd.func6, Tryd.ntmps6
  go_wp2_with fail
  refine HAl.out.mono ?_
  rintro r w1 ⟨rfl, hb1⟩
  have HB1 : Hid _ := hide hb1
  have HK1 : Hid _ := hide (HK.out.below hb1 (by have := HK.out.size; omega))
  clear hb1 HAl HK
  go_wp2
  go_loopw [4, 5] (fun s k wr => ∃ (m : Nat) (a : Option Addr) (c : Nat), m ≤ 22 ∧ k = .int .i64 ((m : Int) + 1) ∧ s = .slice a m c ∧ wr.ownsRow w1.heap.size 9 1 (.slice a m c) m ((knl m).map Value.string) ∧ Below w1.heap.size w1 wr) (fun _ k _ => (23 - intOf k).toNat)
  case atStart => exact ⟨0, none, 0, by omega, rfl, rfl, World.ownsRow_nil _ _ _ _, Below.refl _ _⟩
  case round =>
    obtain ⟨m, a, c, hm, rfl, rfl, hown, hbel⟩ := hrel
    have HO : Hid _ := hide hown
    have HB : Hid _ := hide hbel
    have HK2 : Hid _ := hide (HK1.out.below hbel (by have := HK1.out.size; omega))
    clear hown hbel
    by_cases hlt : m < 22
    · have hmI : (m : Int) < 22 := by omega
      obtain ⟨t, ht⟩ : ∃ t, t = kname (m + 1) := ⟨_, rfl⟩
      have hNm := name_any ((m : Int) + 1) wr HK2.out.toKn
      have hKd := kind_any (kname (m + 1)) wr HK2.out.toKn
      rw [kname_kind (m + 1) (by omega) (by omega)] at hKd
      have eN : nameV ((m : Int) + 1) = .tuple #[.string (kname (m + 1)), .int .i64 0] := by
        unfold nameV; rw [if_pos (by omega), show ((m : Int) + 1).toNat = m + 1 by omega]
      rw [eN] at hNm
      obtain ⟨l1, l2⟩ := kname_len (m + 1) (by omega) (by omega)
      rw [← ht] at hNm hKd l1 l2
      have HNm : Hid _ := hide hNm
      have HKd : Hid (Calls Tryd.prog 18 #[.string t] wr fun e w' => e = .returned (.tuple #[.int .i64 ((m : Int) + 1), .int .i64 0]) ∧ w' = wr) := hide hKd
      have HT : Hid _ := hide ht
      have hself : (((m : Int) + 1) != ((m : Int) + 1)) = false := by simp
      clear hNm hKd eN ht
      go_wp2_with fail
      refine HNm.out.mono ?_
      rintro r w' ⟨rfl, rfl⟩
      clear HNm
      go_wp2_with fail
      refine HKd.out.mono ?_
      rintro r w' ⟨rfl, rfl⟩
      clear HKd
      go_wp2
      clear hself l1 l2
      go_loopw [10] (fun i wq => ∃ q : Nat, q ≤ m ∧ i = .int .i64 q ∧ wq = w') (fun i _ => m - (intOf i).toNat)
      case atStart => exact ⟨0, Nat.zero_le _, rfl, rfl⟩
      case round =>
        obtain ⟨q, hq, rfl, rfl⟩ := hrel
        by_cases hql : q < m
        · have hqI : (q : Int) < m := by omega
          obtain ⟨b, off, rfl, hc⟩ := (SRow.of_own HO.out).at hql
          rw [knl_get hql] at hc
          have hne : ((kname (q + 1)).toList == t.toList) = false := by rw [HT.out]; exact kname_ne _ _ (by omega) (by omega) (by omega)
          generalize kname (q + 1) = z at hc hne
          go_wp2
          exact ⟨⟨q + 1, by omega, by go_num, by trivial⟩, by simp [intOf]; omega⟩
        · have hqm : q = m := by omega
          subst hqm
          go_wp2_with (first
            | (at_builtin; refine append_str _ rfl _ _ rfl w1.heap.size (.slice a q c) (knl q) rfl (by rw [knl_len]; exact HO.out.alloc _) wr.heap.size t rfl (cell_new _ _ _) (by rw [knl_len]; omega) (Nat.le_trans HB.out.size (by simp)) ?_
               intro a2 c2 w2 o2 g2 hloc
               rw [knl_len] at o2
               have k2 : Hid (But (fun k => (Value.slice a q c).ownBlock = some k) wr w2) := hide (((But.refl _ wr).alloc _).grown g2 (fun k _ e => e))
               have O2 : Hid _ := hide o2
               clear o2 g2 hloc)
            | go_in)
          refine ⟨⟨q + 1, a2, c2, by omega, by go_num, by rw [knl_len], by rw [knl_succ, ← HT.out]; exact O2.out, HB.out.trans (k2.out.below HB.out.size (fun k hk => (HO.out.lt k hk).1))⟩, by simp [intOf]; omega⟩
    · have hm22 : m = 22 := by omega
      subst hm22
      have HBw : Hid _ := hide (HB1.out.trans (HB.out.mono HB1.out.size))
      have HNm : Hid _ := hide (name_any kind wr HK2.out.toKn)
      have HKw : Hid _ := hide HK2.out
      by_cases hk : 1 ≤ kind ∧ kind ≤ 22
      · have eN : nameV kind = .tuple #[.string (kname kind.toNat), .int .i64 0] := by unfold nameV; rw [if_pos hk]
        rw [eN] at HNm
        have k1 : decide (kind < 1) = false := by simp; omega
        have k2 : decide (22 < kind) = false := by simp; omega
        clear eN hk
        go_wp2_with fail
        refine HNm.out.mono ?_
        rintro r w' ⟨rfl, rfl⟩
        go_wp2
        go_ret
        exact ⟨rfl, HBw.out⟩
      · have eN : nameV kind = .tuple #[.string ByteArray.empty, .int .i64 60] := by unfold nameV; rw [if_neg hk]
        rw [eN] at HNm
        have hS := sync_any kind wr
        rw [show syncB kind = false by unfold syncB; rw [decide_eq_false_iff_not]; omega] at hS
        have hC := check_any 0 kind 0 0 none 0 0 [] wr HKw.out ⟨rfl, .inl rfl⟩ (by omega)
        rw [show chk 0 kind 0 0 [] = 60 by unfold chk; rw [if_neg hk]] at hC
        have HS : Hid _ := hide hS
        have HC : Hid _ := hide hC
        have hem : ((ByteArray.empty).toList == (⟨#[]⟩ : ByteArray).toList) = true := by rw [ByteArray.toList_eq, ByteArray.toList_eq]; decide
        clear eN hS hC
        by_cases k1 : kind < 1
        · clear hk
          go_wp2_with fail
          refine HNm.out.mono ?_
          rintro r w' ⟨rfl, rfl⟩
          go_wp2_with fail
          refine HS.out.mono ?_
          rintro r w' ⟨rfl, rfl⟩
          go_wp2_with fail
          refine HC.out.mono ?_
          rintro r w3 ⟨rfl, hb3⟩
          have HB3 : Hid _ := hide (HBw.out.trans (hb3.mono HBw.out.size))
          clear hb3
          go_wp2
          go_ret
          exact ⟨rfl, HB3.out⟩
        · have k1' : decide (kind < 1) = false := decide_eq_false k1
          have k2 : decide (22 < kind) = true := by simp; omega
          clear hk k1
          go_wp2_with fail
          refine HNm.out.mono ?_
          rintro r w' ⟨rfl, rfl⟩
          go_wp2_with fail
          refine HS.out.mono ?_
          rintro r w' ⟨rfl, rfl⟩
          go_wp2_with fail
          refine HC.out.mono ?_
          rintro r w3 ⟨rfl, hb3⟩
          have HB3 : Hid _ := hide (HBw.out.trans (hb3.mono HBw.out.size))
          clear hb3
          go_wp2
          go_ret
          exact ⟨rfl, HB3.out⟩
end Go.Proofs.YtifbehkdhalfcaaDoor
