/-
  Numbers as they are written.
-/
import Derived.Test.YtbflkdbimgakpaaDoorDuG
import Derived.Lib.ItoaMem
import Derived.Lib.AppendIntMem
namespace Go.Proofs.YtbflkdbimgakpaaDoor
open Go.RowKit Go.Maps Go.Shelf Go.Sort
set_option linter.unusedVariables false
theorem bc_len (L : List UInt8) : (Lib.byteCells L).length = L.length := by unfold Lib.byteCells; rw [List.length_map]
theorem dec_len20 {u : Nat} (h : u < 18446744073709551616) : (Lib.decDigits u).length ≤ 20 := by
  rw [Lib.decDigits_length]
  by_cases h1 : 1 ≤ u
  · have := Lib.numDigits_eq u h1 h; split at this <;> omega
  · have e : u = 0 := by omega
    rw [e, Lib.nDigits_small (by omega)]
    omega
theorem itoa_len {z : Int} (h0 : -9223372036854775808 ≤ z) (h1 : z ≤ 9223372036854775807) : (Lib.itoa z).length ≤ 21 := by
  unfold Lib.itoa
  split
  · have := dec_len20 (u := z.natAbs) (by omega)
    rw [List.length_cons]; omega
  · have := dec_len20 (u := z.toNat) (by omega)
    omega
theorem au10_any (B : Nat) (v : Value) (L : List UInt8) (u : Nat) (w : World) (hK : Dk w) (hu : u < 18446744073709551616) (hown : Ou w B v L) (hb : L.length + 20 ≤ 140737488355328) (hB : B ≤ w.heap.size) :
    Calls Tryd.prog 37 #[v, .int .u64 (u : Int), .int .i64 10] w fun e w' => ∃ v', e = .returned v' ∧ Ou w' B v' (L ++ Lib.decDigits u) ∧ Fr B w w' := by
  have H := hide (Tryd.internal_strconv_AppendUint_10 B L.length u hu v _ w (ou_row hown) hB hb hK.tab)
  clear hK hown hb hB hu
  go_enter Tryd.func37, Tryd.ntmps37
  go_wp2_with fail
  refine H.out.mono ?_
  rintro e w1 ⟨v1, rfl, o1, b1, k1⟩
  have HO := hide (ou_of o1 (by rw [List.length_append]) (bc_app _ _))
  have HF : Hid (Fr B w w1) := hide ⟨b1, k1⟩
  clear o1 b1 k1 H
  go_wp2
  go_ret
  exact ⟨_, rfl, HO.out, HF.out⟩
theorem ai10_any (B : Nat) (v : Value) (L : List UInt8) (z : Int) (w : World) (hK : Dk w) (h0 : -9223372036854775808 ≤ z) (h1 : z ≤ 9223372036854775807) (hown : Ou w B v L) (hb : L.length + 21 ≤ 140737488355328) (hB : B ≤ w.heap.size) (hB11 : 11 ≤ B) :
    Calls Tryd.prog 36 #[v, .int .i64 z, .int .i64 10] w fun e w' => ∃ v', e = .returned v' ∧ Ou w' B v' (L ++ Lib.itoa z) ∧ Fr B w w' := by
  refine (Tryd.strconv_AppendInt_10 B L.length z h0 h1 v _ w (ou_row hown) hB hb (hK.tabB hB11)).mono ?_
  rintro e w1 ⟨v1, rfl, o1, b1, k1⟩
  exact ⟨v1, rfl, ou_of o1 (by rw [List.length_append]) (bc_app _ _), b1, k1⟩
theorem it10_any (z : Int) (w : World) (hK : Dk w) (h0 : -9223372036854775808 ≤ z) (h1 : z ≤ 9223372036854775807) :
    Calls Tryd.prog 42 #[.int .i64 z] w fun e w' => e = .returned (.string ⟨(Lib.itoa z).toArray⟩) ∧ Below w.heap.size w w' := by
  refine (Tryd.strconv_Itoa z h0 h1 w hK.tab).mono ?_
  rintro e w1 ⟨rfl, k, os, rfl⟩
  exact ⟨rfl, Lib.below_grow w.heap.size w (Nat.le_refl _) k os⟩
set_option maxRecDepth 8000 in
theorem iau16 (B : Nat) (v : Value) (L : List UInt8) (u : Nat) (w : World) (hK : Dk w) (hu : u < 18446744073709551616) (hown : Ou w B v L) (hb : L.length + 16 ≤ 140737488355328) (hB : B ≤ w.heap.size) :
    Calls Tryd.prog 63 #[v, .int .u64 (u : Int), .int .i64 16] w fun e w' => ∃ v', e = .returned v' ∧ Ou w' B v' (L ++ hexD u) ∧ Fr B w w' := by
  have H := hide (bits_any B v L u true w hK hu hown hb hB)
  clear hK hown hb hB hu
  go_enter Tryd.func63, Tryd.ntmps63
  go_wp2_with fail
  refine H.out.mono ?_
  rintro e w1 ⟨h1, _, f1⟩
  obtain ⟨v1, x1, rfl, o1⟩ := h1 (by first | rfl | trivial)
  have HO := hide o1
  have HF := hide f1
  clear o1 f1 H
  go_wp2
  go_ret
  exact ⟨_, rfl, HO.out, HF.out⟩
theorem au16_any (B : Nat) (v : Value) (L : List UInt8) (u : Nat) (w : World) (hK : Dk w) (hu : u < 18446744073709551616) (hown : Ou w B v L) (hb : L.length + 16 ≤ 140737488355328) (hB : B ≤ w.heap.size) :
    Calls Tryd.prog 37 #[v, .int .u64 (u : Int), .int .i64 16] w fun e w' => ∃ v', e = .returned v' ∧ Ou w' B v' (L ++ hexD u) ∧ Fr B w w' := by
  have H := hide (iau16 B v L u w hK hu hown hb hB)
  clear hK hown hb hB hu
  go_enter Tryd.func37, Tryd.ntmps37
  go_wp2_with fail
  refine H.out.mono ?_
  rintro e w1 ⟨v1, rfl, o1, f1⟩
  have HO := hide o1
  have HF := hide f1
  clear o1 f1 H
  go_wp2
  go_ret
  exact ⟨_, rfl, HO.out, HF.out⟩
set_option maxRecDepth 8000 in
theorem ifu16 (u : Nat) (w : World) (hK : Dk w) (hu : u < 18446744073709551616) :
    Calls Tryd.prog 66 #[.int .u64 (u : Int), .int .i64 16] w fun e w' => e = .returned (.string ⟨(hexD u).toArray⟩) ∧ Below w.heap.size w w' := by
  have H := hide (bits_any w.heap.size (.slice none 0 0) [] u false w hK hu (Own.nil _ _ _ _) (by simp) (Nat.le_refl _))
  clear hK hu
  go_enter Tryd.func66, Tryd.ntmps66
  go_wp2_with fail
  refine H.out.mono ?_
  rintro e w1 ⟨_, h1, f1⟩
  obtain ⟨x1, rfl⟩ := h1 (by first | rfl | trivial)
  have HF := hide f1.bel
  clear f1 H
  go_wp2
  go_ret
  exact ⟨rfl, HF.out⟩
theorem arr24 : Tryd.prog.arrayLen 135 = 24 := by kernel_rfl
abbrev Z24 : Array Value := #[.int .u8 0, .int .u8 0, .int .u8 0, .int .u8 0, .int .u8 0, .int .u8 0, .int .u8 0, .int .u8 0, .int .u8 0, .int .u8 0, .int .u8 0, .int .u8 0, .int .u8 0, .int .u8 0, .int .u8 0, .int .u8 0, .int .u8 0, .int .u8 0, .int .u8 0, .int .u8 0, .int .u8 0, .int .u8 0, .int .u8 0, .int .u8 0]
theorem zer24 : Lib.zeros24 = Z24 := by kernel_rfl
set_option maxRecDepth 8000 in
theorem ifu10 (u : Nat) (w : World) (hK : Dk w) (hu : u < 18446744073709551616) :
    Calls Tryd.prog 66 #[.int .u64 (u : Int), .int .i64 10] w fun e w' => e = .returned (.string ⟨(Lib.decDigits u).toArray⟩) ∧ Below w.heap.size w w' := by
  have hu0 : (0 : Int) ≤ u := by omega
  by_cases h : u < 100
  · have hI : (u : Int) < 100 := by omega
    have H := hide (fun X => Tryd.internal_strconv_small u h X)
    clear hK hu h
    go_enter Tryd.func66, Tryd.ntmps66
    go_wp2_with fail
    refine (H.out _).mono ?_
    rintro e w1 ⟨rfl, rfl⟩
    go_wp2
    go_ret
    exact ⟨rfl, Below.refl _ _⟩
  · have iu : (100 : Int) ≤ (u : Int) := by omega
    have hu1 : 1 ≤ u := by omega
    have hnd20 : Lib.nDigits u ≤ 20 := by have := Lib.numDigits_eq u hu1 hu; split at this <;> omega
    have hsl : ∀ W, (Instr.sliceAt 135 (.pointer (some ⟨w.heap.size, 0, none⟩)) none (some (.int .i64 (Lib.nDigits u : Int))) none).run Tryd.prog W = .ok (.slice (some ⟨w.heap.size, 0, none⟩) (Lib.nDigits u) 24) W := fun W => by
      rw [run_sliceAt_array_h W 135 ⟨w.heap.size, 0, none⟩ (by simp [Program.arrayLen, Program.elem, Tryd.underlying135]) .i64 (Lib.nDigits u : Int) (by omega) (by rw [arr24]; omega), arr24]
      go_simp
    have hH0 := Lib.holds_zero0 w 135 (Lib.nDigits u) (by omega)
    rw [zer24] at hH0
    have hfmt := Tryd.internal_strconv_formatBase10 w.heap.size 0 24 u (Array.replicate (Lib.nDigits u) 0) (w.alloc (.cells Z24 135)) hH0 (by rw [Array.size_replicate]; exact Lib.lt_pow_nDigits u) hu (by rw [Array.size_replicate]; omega)
    rw [Array.size_replicate] at hfmt
    have HH0 := Lib.hid hH0
    have HND := hide (Tryd.internal_strconv_numDigits u hu1 hu (w.alloc (.cells Z24 135)) (Lib.tabIs_alloc hK.tab _))
    have HFm := hide hfmt
    clear hH0 hfmt hK h hu hu1
    go_enter Tryd.func66, Tryd.ntmps66
    go_wp2_with fail
    refine HND.out.mono ?_
    rintro e w1 ⟨rfl, hw1⟩
    rw [hw1]
    clear hw1 w1 HND
    go_wp2_with fail
    refine HFm.out.mono ?_
    rintro e w1 ⟨rfl, k, v', dk, hw1, hF⟩
    have hcv := run_convert_bytes_back (P := Tryd.prog) w1 41 9 5 ⟨w.heap.size, 0, none⟩ 24 (Lib.decDigits u) Tryd.underlying41 Tryd.underlying5 Tryd.underlying9 (fun j hj => by
      rw [hw1, Lib.row_is_numeral hF j hj, Lib.add_plain, World.cell?_drewN]
      exact cell?_putRow (fun (b : UInt8) => Value.int .u8 (b.toNat : Int)) _ w.heap.size 0 _ dk HH0.out (by rw [hF.size, Array.size_replicate]) j (by rw [hF.size]; rw [Lib.decDigits_length] at hj; exact hj))
    rw [Lib.decDigits_length] at hcv
    have HBl : Hid (Below w.heap.size w w1) := hide (by
      obtain ⟨os, eo⟩ := Lib.fin_at w (.cells Z24 135) dk k 0
      rw [hw1, eo]
      exact Lib.below_grow w.heap.size w (Nat.le_refl _) k os)
    clear hw1 hF HH0 HFm
    go_wp2
    go_ret
    exact ⟨rfl, HBl.out⟩
theorem fu_any (u b : Nat) (S : List UInt8) (w : World) (h : Calls Tryd.prog 66 #[.int .u64 (u : Int), .int .i64 (b : Int)] w fun e w' => e = .returned (.string ⟨S.toArray⟩) ∧ Below w.heap.size w w') :
    Calls Tryd.prog 43 #[.int .u64 (u : Int), .int .i64 (b : Int)] w fun e w' => e = .returned (.string ⟨S.toArray⟩) ∧ Below w.heap.size w w' := by
  have H := hide h
  clear h
  go_enter Tryd.func43, Tryd.ntmps43
  go_wp2_with fail
  refine H.out.mono ?_
  rintro e w1 ⟨rfl, b1⟩
  have HB := hide b1
  clear b1 H
  go_wp2
  go_ret
  exact ⟨rfl, HB.out⟩
end Go.Proofs.YtbflkdbimgakpaaDoor
