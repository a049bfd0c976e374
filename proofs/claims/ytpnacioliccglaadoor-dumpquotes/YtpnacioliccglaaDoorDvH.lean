/-
  strconv.unquote: raw texts.
-/
import Derived.Test.YtpnacioliccglaaDoorDvG
namespace Go.Proofs.YtpnacioliccglaaDoor
open Go.RowKit Go.Maps Go.Shelf
set_option linter.unusedVariables false
theorem Below.to {w a b : World} (h : Below w.heap.size w a) (k : Below w.heap.size a b) : Below w.heap.size w b := h.trans k
set_option maxRecDepth 100000 in
set_option maxHeartbeats 4000000 in
theorem uq_raw (z : ByteArray) (w : World) (hs : z.size ≤ 1073741824) (h1 : 1 < z.size) (hb : bA z 0 = 96) (o : Nat) (ho : Lib.indexByte (z.extract 1 z.size).data.toList 96 = (o : Int)) :
    Calls Tryd.prog 69 #[.string z, .bool true] w fun e w' => uqO z e ∧ Below w.heap.size w w' := by
  have h00 : 1 < z.size := h1
  have hI : ¬ ((z.size : Nat) : Int) < 2 := by omega
  have h01 : 0 < z.size := by omega
  have hI1 : (1 : Int) ≤ ((z.size : Nat) : Int) := by omega
  have hb0 : ((z[0].toNat : Nat) : Int) = 96 := (bA_int h01).trans (by rw [hb]; rfl)
  have HI := hide (scIndex_any (z.extract 1 z.size) 96 w)
  rw [show (96 : Int).toNat.toUInt8 = 96 by decide, ho] at HI
  obtain ⟨hol, hoc, _⟩ := idx_at ho
  rw [ext_len _ _ _ (Nat.le_refl _)] at hol
  obtain ⟨n, hn⟩ : ∃ n, n = o + 2 := ⟨_, rfl⟩
  have hnI : (o : Int) + 2 = (n : Int) := by omega
  have hnz : (n : Int) ≤ ((z.size : Nat) : Int) := by omega
  have ho0 : ¬ (o : Int) < 0 := by omega
  have hn1 : (1 : Int) ≤ (n : Int) - 1 := by omega
  have HC := hide (scContains_any (z.extract 0 n) 13 w)
  rw [show (13 : Int).toNat.toUInt8 = 13 by decide] at HC
  have HNZ : Hid (n ≤ z.size) := hide (by omega)
  have HSz : Hid (∀ a b, (z.extract a b).size ≤ 4 * z.size) := hide (fun a b => by simp; omega)
  rcases idx_cases (z.extract 0 n).data.toList 13 with hc | ⟨k, hc⟩
  · rw [hc] at HC
    clear hn hb ho hoc hc hol
    obtain ⟨n1, hn1e⟩ : ∃ m : Nat, m + 1 = n := ⟨n - 1, by omega⟩
    have hn1I : (n : Int) - 1 = (n1 : Int) := by omega
    have hn1z : (n1 : Int) ≤ ((z.size : Nat) : Int) := by omega
    have hn11 : (1 : Int) ≤ (n1 : Int) := by omega
    clear hn1
    go_enter Tryd.func69, Tryd.ntmps69
    go_wp2_with fail
    refine HI.out.mono ?_
    rintro e w2 ⟨rfl, rfl⟩
    go_wp2_with fail
    refine HC.out.mono ?_
    rintro e w3 ⟨rfl, rfl⟩
    go_wp2
    go_quiet (fail)
    go_wp2
    (try simp only [Exit.inBlock, Exit.then])
    refine bodyPost_ret (results3 rfl _ _ _) rfl ?_
    exact ⟨⟨_, _, rfl, HSz.out _ _⟩, below_drewN (Below.refl _ _) _⟩
  · rw [hc] at HC
    have hn3 : 3 ≤ n := by
      obtain ⟨hk, hk1, _⟩ := idx_at hc
      rw [ext_list, List.drop_zero] at hk1
      rw [ext_len _ _ _ (by omega)] at hk
      rw [List.getElem?_take, if_pos (by omega)] at hk1
      rw [ext_list, List.getElem?_drop, List.getElem?_take, if_pos (by omega)] at hoc
      obtain ⟨_, e1⟩ := list_at hk1
      obtain ⟨_, e2⟩ := list_at hoc
      by_cases c : o = 0
      · subst c
        have hk01 : k = 0 ∨ k = 1 := by omega
        rcases hk01 with rfl | rfl
        · rw [hb] at e1; exact absurd e1 (by decide)
        · rw [show 1 + 0 = 1 from rfl, e1] at e2; exact absurd e2 (by decide)
      · omega
    obtain ⟨n3, hn3e⟩ : ∃ m : Nat, m + 3 = n := ⟨n - 3, by omega⟩
    have hn3I : (n : Int) - 1 - 1 - 1 = (n3 : Int) := by omega
    obtain ⟨n1, hn1e⟩ : ∃ m : Nat, m + 1 = n := ⟨n - 1, by omega⟩
    have hn1I : (n : Int) - 1 = (n1 : Int) := by omega
    have hn1z : (n1 : Int) ≤ ((z.size : Nat) : Int) := by omega
    have HN1 : Hid (n1 < z.size ∧ z.size ≤ 1073741824) := hide (by omega)
    have HN3 : Hid (n3 ≤ 1073741824) := hide (by omega)
    obtain ⟨i0, hi0, hz0, hz1, hz2⟩ := info_parts u8Info
    clear hn hb ho hoc hc hol hn1
    go_enter Tryd.func69, Tryd.ntmps69
    go_wp2_with fail
    refine HI.out.mono ?_
    rintro e w2 ⟨rfl, rfl⟩
    go_wp2_with fail
    refine HC.out.mono ?_
    rintro e w3 ⟨rfl, rfl⟩
    go_wp2_with (at_make; refine wpList_make_own _ rfl _ _ 41 rfl w3.heap.size 5 i0 (.int .u8 0) 1 Tryd.underlying41 hi0 hz0 hz1 _ _ _ n3 rfl rfl (by omega) ?b2 ?b3 (Nat.le_refl _) ?_)
    case b2 => rw [hz2]; have := HN3.out; omega
    case b3 => unfold maxLen; have := HN3.out; omega
    intro w4 o4 g4
    have HO4 : Hid (Ou w4 w3.heap.size (.slice (some ⟨w3.heap.size, 0, none⟩) 0 n3) []) := hide (ou_of o4 rfl rfl)
    have HB4 : Hid (Below w3.heap.size w3 w4) := hide ((Below.refl _ _).grown g4 (Nat.le_refl _) (fun k h => by cases h))
    clear o4 g4
    go_wp2
    go_loopw [9, 10] (fun v i wr => ∃ (k : Nat) (xs : List UInt8), 1 ≤ k ∧ k ≤ n1 ∧ i = .int .i64 k ∧ Hid (Ou wr w3.heap.size v xs ∧ xs.length ≤ k ∧ Below w3.heap.size w3 wr)) (fun _ i _ => n1 - (intOf i).toNat)
    case atStart => exact ⟨1, [], by omega, by omega, rfl, hide ⟨HO4.out, by simp, HB4.out⟩⟩
    case round =>
      obtain ⟨k, xs, hk1, hk, rfl, HJ⟩ := hrel
      by_cases hlt : k < n1
      · have hkI : (k : Int) < n1 := by omega
        have hkz : k < z.size := by have := HN1.out; omega
        obtain ⟨b, hbb⟩ : ∃ b, bA z k = b := ⟨_, rfl⟩
        have hb256 : b < 256 := by rw [← hbb]; exact bA_lt _ _
        have hbk : ((z[k].toNat : Nat) : Int) = (b : Int) := (bA_int hkz).trans (by rw [hbb])
        clear hbb
        by_cases h13 : b = 13
        · have he : ((b : Int) == 13) = true := by rw [beq_iff_eq]; omega
          go_wp2
          exact ⟨⟨k + 1, xs, by omega, by omega, by go_num, hide ⟨HJ.out.1, by have := HJ.out.2.1; omega, HJ.out.2.2⟩⟩, by simp [intOf]; omega⟩
        · have he : ((b : Int) == 13) = false := by rw [beq_eq_false_iff_ne]; omega
          have HM := hide (u8M hb256)
          have HLx : Hid (xs.length + 1 ≤ 140737488355328) := hide (by have := HJ.out.2.1; have := HN1.out; omega)
          go_wp2_with (at_builtin; go_must (refine append_u _ rfl _ _ rfl w3.heap.size _ xs rfl (ou_fr HJ.out.1) wr.heap.size 1 1 _ [UInt8.ofNat b] rfl (heap_new _ _) HM.out rfl HLx.out (by rw [World.size_alloc]; exact Nat.le_succ_of_le HJ.out.2.2.size) ?_); intro v5 w5 o5 f5; have HO5 := hide o5; have HB5 := hide (HJ.out.2.2.trans (((below_alloc1 wr _).mono HJ.out.2.2.size).trans f5.bel)); clear o5 f5)
          exact ⟨⟨k + 1, xs ++ [UInt8.ofNat b], by omega, by omega, by go_num, hide ⟨HO5.out, by have := HJ.out.2.1; rw [List.length_append, List.length_singleton]; omega, HB5.out⟩⟩, by simp [intOf]; omega⟩
      · have hkI : ¬ (k : Int) < n1 := by omega
        have hcv := conv_own HJ.out.1
        have HX : Hid (xs.length ≤ 4 * z.size) := hide (by have := HJ.out.2.1; have := HN1.out; omega)
        have HB9 := hide HJ.out.2.2
        clear HJ
        go_wp2
        go_quiet (fail)
        go_wp2
        (try simp only [Exit.inBlock, Exit.then])
        refine bodyPost_ret (results3 rfl _ _ _) rfl ?_
        exact ⟨⟨_, _, rfl, by (show xs.toArray.size ≤ _); rw [List.size_toArray]; exact HX.out⟩, below_drewN HB9.out _⟩
end Go.Proofs.YtpnacioliccglaaDoor
