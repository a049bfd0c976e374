import Derived.Test.YtpnacioliccglaaDoorZt09
import Derived.Test.YtpnacioliccglaaDoorZt05
import Derived.Lib.VarintBits
import Derived.Lib.ItoaMem
import Derived.Lib.AppendIntMem
set_option maxRecDepth 8000
set_option maxHeartbeats 8000000
set_option linter.unusedVariables false
/-
  Name, Kind, Sync.
-/
namespace Go.Proofs.YtpnacioliccglaaDoor.E6
open Go.RowKit Go.Maps Go.Shelf
def nameV (k : Int) : Value := if 1 ≤ k ∧ k ≤ 22 then .tuple #[.string (kname k.toNat), .int .i64 0] else .tuple #[.string ByteArray.empty, .int .i64 60]
theorem name_any (k : Int) (w : World) (h : Kn w) : Calls Tryd.prog 35 #[.int .i64 k] w fun e w' => e = .returned (nameV k) ∧ w' = w := by
  have HK : Hid _ := hide (kn_any k w)
  by_cases hk : 1 ≤ k ∧ k ≤ 22
  · have e : decide (1 ≤ k ∧ k ≤ 22) = true := decide_eq_true hk
    have HN : Hid (nameV k = .tuple #[.string (kname k.toNat), .int .i64 0]) := hide (by rw [nameV, if_pos hk])
    rw [e] at HK
    obtain ⟨m, rfl⟩ : ∃ m : Nat, k = m := ⟨k.toNat, by omega⟩
    have hm : (m : Int) < 23 := by omega
    have hc := h.name m (by omega)
    generalize nameV m = V at HN ⊢
    clear h hk e
    go_enter Tryd.func35, Tryd.ntmps35
    go_wp2_with fail
    refine HK.out.mono ?_
    rintro e w' ⟨rfl, rfl⟩
    go_wp2
    go_ret2
    exact ⟨by rw [HN.out]; rfl, rfl⟩
  · have e : decide (1 ≤ k ∧ k ≤ 22) = false := decide_eq_false hk
    have HN : Hid (nameV k = .tuple #[.string ByteArray.empty, .int .i64 60]) := hide (by rw [nameV, if_neg hk])
    rw [e] at HK
    generalize nameV k = V at HN ⊢
    clear h hk e
    go_enter Tryd.func35, Tryd.ntmps35
    go_wp2_with fail
    refine HK.out.mono ?_
    rintro e w' ⟨rfl, rfl⟩
    go_wp2
    go_ret2
    exact ⟨by rw [HN.out]; rfl, rfl⟩
end Go.Proofs.YtpnacioliccglaaDoor.E6
/-
  Numbers to the base 16.
-/
namespace Go.Proofs.YtpnacioliccglaaDoor
open Go.RowKit Go.Maps Go.Shelf
set_option linter.unusedVariables false
/-- What is laid in the tables. -/
structure Dk (w : World) : Prop where
  kr : E6.Kr w
  big : 11 ≤ w.heap.size
  tab : Lib.TabIs Tryd.prog w "internal/strconv.uint64pow10" .u64 Lib.pow10Tab
  deb : w.cell? ⟨10, 15, none⟩ = some (.int .u8 4)
theorem gPow : Tryd.prog.globalNamed "internal/strconv.uint64pow10" = some 5 := by kernel_rfl
theorem tab_below {B : Nat} {w w' : World} (h : Lib.TabIs Tryd.prog w "internal/strconv.uint64pow10" .u64 Lib.pow10Tab) (hb : Below B w w') (hB : 5 < B) : Lib.TabIs Tryd.prog w' "internal/strconv.uint64pow10" .u64 Lib.pow10Tab := by
  unfold Lib.TabIs World.var? at *
  simp only [gPow, Option.bind_some] at h ⊢
  rw [hb.block 5 hB]
  exact h
theorem Dk.below {B : Nat} {w w' : World} (h : Dk w) (hb : Below B w w') (hB : 11 ≤ B) : Dk w' :=
  ⟨h.kr.below hb (by omega), Nat.le_trans h.big hb.size, tab_below h.tab hb (by omega), (hb.cell (p := ⟨10, 15, none⟩) (by show 10 < B; omega)).trans h.deb⟩
theorem Dk.tabB {B : Nat} {w : World} (h : Dk w) (hB : 11 ≤ B) : Lib.TabBelow Tryd.prog B w "internal/strconv.uint64pow10" .u64 Lib.pow10Tab := fun w' hb => tab_below h.tab hb (by omega)
/-- A number's digits to the base 16. -/
def hexD (u : Nat) : List UInt8 := if h : u < 16 then [dgt u] else hexD (u / 16) ++ [dgt (u % 16)]
termination_by u
decreasing_by omega
theorem hexD_small {u : Nat} (h : u < 16) : hexD u = [dgt u] := by rw [hexD, dif_pos h]
theorem hexD_big {u : Nat} (h : ¬ u < 16) : hexD u = hexD (u / 16) ++ [dgt (u % 16)] := by rw [hexD, dif_neg h]
theorem hexD_len : ∀ (k u : Nat), u < 16 ^ (k + 1) → (hexD u).length ≤ k + 1
  | 0, u, h => by rw [hexD_small (by simpa using h)]; simp
  | k + 1, u, h => by
    by_cases h1 : u < 16
    · rw [hexD_small h1]; simp
    · rw [hexD_big h1, List.length_append, List.length_singleton]
      have := hexD_len k (u / 16) (by rw [Nat.div_lt_iff_lt_mul (by omega)]; rw [Nat.pow_succ] at h; exact h)
      omega
theorem hexD_16 {u : Nat} (h : u < 18446744073709551616) : (hexD u).length ≤ 16 := hexD_len 15 u (by simpa using h)
set_option maxRecDepth 8000 in
theorem pow2_16 (w : World) : Calls Tryd.prog 114 #[.int .i64 16] w fun e w' => e = .returned (.bool true) ∧ w' = w := by
  go_enter Tryd.func114, Tryd.ntmps114
  go_wp2
  go_ret
  exact ⟨rfl, rfl⟩
set_option maxRecDepth 8000 in
theorem trz64_16 (w : World) (h : w.cell? ⟨10, 15, none⟩ = some (.int .u8 4)) : Calls Tryd.prog 123 #[.int .u64 16] w fun e w' => e = .returned (.int .i64 4) ∧ w' = w := by
  have hn1 : IntKind.u64.wrap (-16) = 18446744073709551600 := by decide
  have hn2 : bits BinOp.and .u64 16 18446744073709551600 = 16 := by decide +kernel
  have hn3 : IntKind.u64.wrap 4573923408821661840 = 4573923408821661840 := by decide
  go_enter Tryd.func123, Tryd.ntmps123
  go_wp2
  go_ret
  exact ⟨rfl, rfl⟩
set_option maxRecDepth 8000 in
theorem trz_16 (w : World) (h : w.cell? ⟨10, 15, none⟩ = some (.int .u8 4)) : Calls Tryd.prog 115 #[.int .u64 16] w fun e w' => e = .returned (.int .i64 4) ∧ w' = w := by
  have H := hide (trz64_16 w h)
  clear h
  go_enter Tryd.func115, Tryd.ntmps115
  go_wp2_with fail
  refine H.out.mono ?_
  rintro x w1 ⟨rfl, rfl⟩
  go_wp2
  go_ret
  exact ⟨rfl, rfl⟩
theorem and15u (x : Nat) (h : x < 18446744073709551616) : bits BinOp.and .u64 (x : Int) 15 = ((x % 16 : Nat) : Int) := by
  have h1 := bits_mask .u64 64 (by decide) wraps_u64 4 (by decide) (x : Int) (by omega) (by omega)
  have e : ((2 : Int) ^ 4 - 1) = 15 := by decide
  rw [show ((x % 16 : Nat) : Int) = (x : Int) % 16 by omega]
  exact h1
theorem d36_at : ∀ n : Fin 16, (⟨#[48, 49, 50, 51, 52, 53, 54, 55, 56, 57, 97, 98, 99, 100, 101, 102, 103, 104, 105, 106, 107, 108, 109, 110, 111, 112, 113, 114, 115, 116, 117, 118, 119, 120, 121, 122]⟩ : ByteArray)[n.val]'(Nat.lt_trans n.isLt (by decide)) = dgt n.val := by decide
theorem d36_get {n : Nat} (h : n < 16) (h2 : n < (⟨#[48, 49, 50, 51, 52, 53, 54, 55, 56, 57, 97, 98, 99, 100, 101, 102, 103, 104, 105, 106, 107, 108, 109, 110, 111, 112, 113, 114, 115, 116, 117, 118, 119, 120, 121, 122]⟩ : ByteArray).size) : (⟨#[48, 49, 50, 51, 52, 53, 54, 55, 56, 57, 97, 98, 99, 100, 101, 102, 103, 104, 105, 106, 107, 108, 109, 110, 111, 112, 113, 114, 115, 116, 117, 118, 119, 120, 121, 122]⟩ : ByteArray)[n]'h2 = dgt n := d36_at ⟨n, h⟩
/-- The array of digits, as it lies. -/
def AR (w : World) (k : Nat) (A : List UInt8) : Prop := w.heap[k]? = some (.cells (Lib.byteCells A).toArray 174 (0, 0)) ∧ A.length = 65
theorem zero65 : Tryd.zeroCells174 = (Lib.byteCells (List.replicate 65 0)).toArray := by kernel_rfl
theorem AR.cell {w : World} {k i : Nat} {A : List UInt8} (h : AR w k A) (hi : i < 65) : (∃ u, w.cell? ⟨k, i, none⟩ = some u) ∧ w.frozen? ⟨k, i, none⟩ = false ∧ k < w.heap.size := by
  have hl : i < (Lib.byteCells A).toArray.size := by simp [Lib.byteCells, h.2]; exact hi
  refine ⟨⟨_, cell_at h.1 (Array.getElem?_eq_getElem hl)⟩, frz h.1 i, (Array.getElem?_eq_some_iff.1 h.1).1⟩
theorem AR.set {w : World} {k i : Nat} {A : List UInt8} (h : AR w k A) (d : UInt8) : AR (w.setCell ⟨k, i, none⟩ (.int .u8 (d.toNat : Int))) k (A.set i d) := by
  refine ⟨?_, by rw [List.length_set]; exact h.2⟩
  rw [heap_setCell_same w k i _ 174 _ h.1]
  congr 2
  apply Array.toList_inj.1
  simp [Lib.byteCells, List.map_set]
theorem drop_set {A : List UInt8} {i : Nat} {d : UInt8} (h : i < A.length) : (A.set i d).drop i = d :: A.drop (i + 1) := by
  rw [List.drop_eq_getElem_cons (by rw [List.length_set]; exact h), List.getElem_set_self]
  congr 1
  rw [List.drop_set_of_lt (by omega)]
theorem arr65 : Tryd.prog.arrayLen 174 = 65 := by kernel_rfl
theorem elm65 : Tryd.prog.elem 174 = 5 := by kernel_rfl
theorem sl65 (k j : Nat) (hj : j < 65) (W : World) : (Instr.sliceAt 174 (.pointer (some ⟨k, 0, none⟩)) (some (.int .i64 (j : Int))) none none).run Tryd.prog W = .ok (.slice (some ⟨k, j, none⟩) (65 - j) (65 - j)) W := by
  rw [run_sliceAt_array_l W 174 ⟨k, 0, none⟩ (by simp [Program.arrayLen, Program.elem, Tryd.underlying174]) .i64 (j : Int) (by omega) (by rw [arr65]; omega), arr65, elm65]
  have hne : ¬ 65 = j := by omega
  go_simp
/-- What the digits are, as they lie at the end. -/
theorem AR.fin {W : World} {k j : Nat} {A U : List UInt8} (h : AR W k A) (hj : j < 65) (hU : U = A.drop j) : TRow layU W (some ⟨k, j, none⟩) (65 - j) U ∧ (convert 41 9 (.slice (some ⟨k, j, none⟩) (65 - j) (65 - j))).run Tryd.prog W = .ok (.string ⟨U.toArray⟩) W := by
  have hl : U.length = 65 - j := by rw [hU, List.length_drop, h.2]
  have hc : ∀ (i : Nat) (y : UInt8), U[i]? = some y → W.cell? ⟨k, j + i, none⟩ = some (.int .u8 (y.toNat : Int)) := fun i y hy => by
    rw [hU, List.getElem?_drop] at hy
    refine cell_at h.1 ?_
    rw [List.getElem?_toArray]
    unfold Lib.byteCells
    rw [List.getElem?_map, hy]
    rfl
  refine ⟨⟨hl, .inr ⟨k, j, rfl, fun i y hy t u hu => ?_⟩⟩, ?_⟩
  · have ht : t = 0 := by have := (List.getElem?_eq_some_iff.1 hu).1; simpa [layU] using this
    subst ht
    have hu' : u = .int .u8 (y.toNat : Int) := by simpa [layU] using hu.symm
    rw [hu', show j + i * layU.z + 0 = j + i from by show j + i * 1 + 0 = _; omega]
    exact hc i y hy
  · rw [← hl]
    exact run_convert_bytes_back W 41 9 5 ⟨k, j, none⟩ U.length U Tryd.underlying41 Tryd.underlying5 Tryd.underlying9 (fun i hi => by
      rw [add_at]
      exact hc i _ (List.getElem?_eq_getElem hi))
set_option maxRecDepth 8000 in
set_option maxHeartbeats 4000000 in
theorem bits_any (B : Nat) (v : Value) (L : List UInt8) (u : Nat) (ap : Bool) (w : World) (hK : Dk w) (hu : u < 18446744073709551616) (hown : Ou w B v L) (hb : L.length + 16 ≤ 140737488355328) (hB : B ≤ w.heap.size) :
    Calls Tryd.prog 90 #[v, .int .u64 (u : Int), .int .i64 16, .bool false, .bool ap] w fun e w' => (ap = true → ∃ v' x, e = .returned (.tuple #[v', x]) ∧ Ou w' B v' (L ++ hexD u)) ∧ (ap = false → ∃ x, e = .returned (.tuple #[x, .string ⟨(hexD u).toArray⟩])) ∧ Fr B w w' := by
  have HP := hide (fun X => pow2_16 X)
  have HT := hide (fun X (h : Below w.heap.size w X) => trz_16 X ((hK.below h hK.big).deb))
  have HO := hide hown
  have HB := hide hb
  have HBd := hide hB
  have H16 := hide (hexD_16 hu)
  have hu0 : (0 : Int) ≤ u := by omega
  have hu1 : (u : Int) ≤ 18446744073709551615 := by omega
  have hal : Tryd.prog.arrayLen 174 = 65 := by kernel_rfl
  have hA0 : AR (w.alloc (.cells Tryd.zeroCells174 174)) w.heap.size (List.replicate 65 0) := ⟨by rw [zero65]; exact heap_new _ _, by simp⟩
  have HA0 := hide hA0
  have HT1 := hide (HT.out _ (below_alloc1 w (.cells Tryd.zeroCells174 174)))
  obtain ⟨U, hU⟩ : ∃ U, hexD u = U := ⟨_, rfl⟩
  rw [hU] at H16 ⊢
  have HU := hide hU
  clear hK hown hb hB hU hA0 HT
  go_enter Tryd.func90, Tryd.ntmps90
  go_wp2_with fail
  refine (HP.out _).mono ?_
  rintro x w1 ⟨rfl, hw1⟩
  rw [hw1]
  clear hw1 w1
  go_wp2_with fail
  refine HT1.out.mono ?_
  rintro x w1 ⟨rfl, hw1⟩
  rw [hw1]
  clear hw1 w1 HT1 HP
  go_wp2
  go_loopw [1, 13] (fun s1 s13 wr => ∃ (x i : Nat) (A : List UInt8), s1 = .int .u64 x ∧ s13 = .int .i64 i ∧ x < 18446744073709551616 ∧ i ≤ 65 ∧ Hid (AR wr w.heap.size A ∧ U = hexD x ++ A.drop i ∧ Below w.heap.size w wr)) (fun s1 _ _ => (intOf s1).toNat)
  case atStart => exact ⟨u, 65, List.replicate 65 0, rfl, rfl, by omega, Nat.le_refl _, hide ⟨HA0.out, by rw [HU.out]; simp, below_alloc1 _ _⟩⟩
  case round =>
    obtain ⟨x, i, A, rfl, rfl, hx, hi, HJ⟩ := hrel
    obtain ⟨q1, q2, q3⟩ := HJ.out
    have hi50 : 50 ≤ i := by
      have h1 := H16.out
      rw [q2, List.length_append, List.length_drop, q1.2] at h1
      have h2 : 1 ≤ (hexD x).length := by
        by_cases h : x < 16
        · rw [hexD_small h]; simp
        · rw [hexD_big h]; simp
      omega
    have hiI : (50 : Int) ≤ i := by omega
    have hiI2 : (i : Int) ≤ 65 := by omega
    have hw1 : IntKind.i64.wrap ((i : Int) - 1) = (i : Int) - 1 := by rw [IntKind.wrap_i64]; omega
    obtain ⟨j, rfl⟩ : ∃ j, i = j + 1 := ⟨i - 1, by omega⟩
    obtain ⟨⟨z, k1⟩, k2, k3⟩ := q1.cell (i := j) (by omega)
    have hw3 : IntKind.i64.wrap (((j + 1 : Nat) : Int) - 1) = j := by rw [IntKind.wrap_i64]; omega
    have hj0 : (0 : Int) ≤ j := by omega
    have hj1 : (j : Int) < 65 := by omega
    have hsz : w.heap.size < wr.heap.size := k3
    by_cases h16 : x < 16
    · have hxI : ¬ (16 : Int) ≤ x := by omega
      have hx0 : (0 : Int) ≤ x := by omega
      have hx1 : (x : Int) < 16 := by omega
      have hp36 : x < (⟨#[48, 49, 50, 51, 52, 53, 54, 55, 56, 57, 97, 98, 99, 100, 101, 102, 103, 104, 105, 106, 107, 108, 109, 110, 111, 112, 113, 114, 115, 116, 117, 118, 119, 120, 121, 122]⟩ : ByteArray).size := Nat.lt_trans h16 (by decide)
      have hsl := sl65 w.heap.size j (by omega)
      have HJ2 : Hid (∀ d, d = dgt x → Ou (wr.setCell ⟨w.heap.size, j, none⟩ (.int .u8 (d.toNat : Int))) B v L ∧ TRow layU (wr.setCell ⟨w.heap.size, j, none⟩ (.int .u8 (d.toNat : Int))) (some ⟨w.heap.size, j, none⟩) (65 - j) U ∧ (convert 41 9 (.slice (some ⟨w.heap.size, j, none⟩) (65 - j) (65 - j))).run Tryd.prog (wr.setCell ⟨w.heap.size, j, none⟩ (.int .u8 (d.toNat : Int))) = .ok (.string ⟨U.toArray⟩) (wr.setCell ⟨w.heap.size, j, none⟩ (.int .u8 (d.toNat : Int))) ∧ Fr B w (wr.setCell ⟨w.heap.size, j, none⟩ (.int .u8 (d.toNat : Int)))) := hide (fun d hd => by
        have hb := q3.setCell (p := ⟨w.heap.size, j, none⟩) (Nat.le_refl _) (.int .u8 (d.toNat : Int))
        have hf := (q1.set (i := j) d).fin (j := j) (U := U) (by omega) (by rw [q2, hexD_small h16, drop_set (by rw [q1.2]; omega), hd]; rfl)
        exact ⟨HO.out.below hb, hf.1, hf.2, Fr.of_bel HBd.out hb⟩)
      have HD := hide (@d36_get x h16 hp36)
      have hUl : Hid (U.length = 65 - j) := hide (by rw [q2, hexD_small h16, List.length_append, List.length_drop, q1.2, List.length_singleton]; omega)
      clear HJ q2 q3 q1 hw1 HU
      cases ap with
      | false =>
        have hcv := (HJ2.out _ HD.out).2.2.1
        have HF := hide ((HJ2.out _ HD.out).2.2.2)
        go_wp2
        go_ret2
        exact ⟨⟨_, rfl⟩, HF.out⟩
      | true =>
        obtain ⟨i0, hi0, hz0, hz1, hz2⟩ := info_parts u8Info
        have HX := hide (HJ2.out _ HD.out)
        have HSz := hide (Nat.le_trans HBd.out HX.out.2.2.2.size)
        go_wp2_with (at_builtin; go_loud (refine append_lay layU _ 41 5 i0 _ 1 Tryd.underlying41 hi0 hz0 hz1 hz2 rfl rfl _ _ rfl B _ L rfl HX.out.1 (some ⟨w.heap.size, j, none⟩) (65 - j) (65 - j) U rfl HX.out.2.1 (fun e => by cases e) (by unfold maxLen; have := HB.out; have := H16.out; have := hUl.out; omega) (by have := HB.out; have := H16.out; have := hUl.out; omega) (Nat.le_trans HBd.out HX.out.2.2.2.size) ?_); intro v3 w3 o3 g3 l3; have HO3 := hide o3; have HF3 := hide (HX.out.2.2.2.trans (Fr.grown HX.out.1 (Nat.le_trans HBd.out HX.out.2.2.2.size) g3)); clear o3 g3 l3)
        go_ret2
        exact ⟨⟨_, ⟨_, rfl⟩, HO3.out⟩, HF3.out⟩
    · have hxI : (16 : Int) ≤ x := by omega
      obtain ⟨r, hr⟩ : ∃ r, r = x % 16 := ⟨_, rfl⟩
      obtain ⟨y, hy⟩ : ∃ y, y = x / 16 := ⟨_, rfl⟩
      have hw2 : bits BinOp.and .u64 (x : Int) 15 = (r : Int) := by rw [hr]; exact and15u x hx
      have hw4 : (x : Int) / 16 = (y : Int) := by omega
      have hr0 : (0 : Int) ≤ r := by omega
      have hr1 : (r : Int) < 16 := by omega
      have hrN : r < 16 := by omega
      have hyx : y < x := by omega
      have HJ2 : Hid (∀ d, d = dgt r → AR (wr.setCell ⟨w.heap.size, j, none⟩ (.int .u8 (d.toNat : Int))) w.heap.size (A.set j d) ∧ U = hexD y ++ (A.set j d).drop j ∧ Below w.heap.size w (wr.setCell ⟨w.heap.size, j, none⟩ (.int .u8 (d.toNat : Int)))) := hide (fun d hd => ⟨q1.set d, by rw [q2, hexD_big h16, drop_set (by rw [q1.2]; omega), hd, hy, hr, List.append_assoc]; rfl, q3.setCell (p := ⟨w.heap.size, j, none⟩) (Nat.le_refl _) _⟩)
      have HR := hide (@d36_get r hrN)
      clear HJ q2 q3 q1 hw1 hr hy h16
      go_wp2
      exact ⟨⟨y, j, _, rfl, by first | rfl | go_num, by omega, by omega, hide (HJ2.out _ (HR.out _))⟩, by simp [intOf]; omega⟩
end Go.Proofs.YtpnacioliccglaaDoor
/-
  Numbers as they are written.
-/
namespace Go.Proofs.YtpnacioliccglaaDoor
open Go.RowKit Go.Maps Go.Shelf Go.Sort
set_option linter.unusedVariables false
theorem bc_len (L : List UInt8) : (Lib.byteCells L).length = L.length := by unfold Lib.byteCells; rw [List.length_map]
theorem dec_len20 {u : Nat} (h : u < 18446744073709551616) : (Lib.decDigits u).length ≤ 20 := by
  rw [Lib.decDigits_length]
  by_cases h1 : 1 ≤ u
  · have := Lib.numDigits_eq u h1 h; split at this <;> omega
  · have e : u = 0 := by omega
    rw [e, Lib.nDigits_small (by omega)]
    omega
theorem itoa_len {z : Int} (h0 : -9223372036854775808 ≤ z) (h1 : z ≤ 9223372036854775807) : (Lib.itoa z).length ≤ 21 := by
  unfold Lib.itoa
  split
  · have := dec_len20 (u := z.natAbs) (by omega)
    rw [List.length_cons]; omega
  · have := dec_len20 (u := z.toNat) (by omega)
    omega
theorem au10_any (B : Nat) (v : Value) (L : List UInt8) (u : Nat) (w : World) (hK : Dk w) (hu : u < 18446744073709551616) (hown : Ou w B v L) (hb : L.length + 20 ≤ 140737488355328) (hB : B ≤ w.heap.size) :
    Calls Tryd.prog 37 #[v, .int .u64 (u : Int), .int .i64 10] w fun e w' => ∃ v', e = .returned v' ∧ Ou w' B v' (L ++ Lib.decDigits u) ∧ Fr B w w' := by
  have H := hide (Tryd.internal_strconv_AppendUint_10 B L.length u hu v _ w (ou_row hown) hB hb hK.tab)
  clear hK hown hb hB hu
  go_enter Tryd.func37, Tryd.ntmps37
  go_wp2_with fail
  refine H.out.mono ?_
  rintro e w1 ⟨v1, rfl, o1, b1, k1⟩
  have HO := hide (ou_of o1 (by rw [List.length_append]) (bc_app _ _))
  have HF : Hid (Fr B w w1) := hide ⟨b1, k1⟩
  clear o1 b1 k1 H
  go_wp2
  go_ret
  exact ⟨_, rfl, HO.out, HF.out⟩
theorem ai10_any (B : Nat) (v : Value) (L : List UInt8) (z : Int) (w : World) (hK : Dk w) (h0 : -9223372036854775808 ≤ z) (h1 : z ≤ 9223372036854775807) (hown : Ou w B v L) (hb : L.length + 21 ≤ 140737488355328) (hB : B ≤ w.heap.size) (hB11 : 11 ≤ B) :
    Calls Tryd.prog 36 #[v, .int .i64 z, .int .i64 10] w fun e w' => ∃ v', e = .returned v' ∧ Ou w' B v' (L ++ Lib.itoa z) ∧ Fr B w w' := by
  refine (Tryd.strconv_AppendInt_10 B L.length z h0 h1 v _ w (ou_row hown) hB hb (hK.tabB hB11)).mono ?_
  rintro e w1 ⟨v1, rfl, o1, b1, k1⟩
  exact ⟨v1, rfl, ou_of o1 (by rw [List.length_append]) (bc_app _ _), b1, k1⟩
theorem it10_any (z : Int) (w : World) (hK : Dk w) (h0 : -9223372036854775808 ≤ z) (h1 : z ≤ 9223372036854775807) :
    Calls Tryd.prog 42 #[.int .i64 z] w fun e w' => e = .returned (.string ⟨(Lib.itoa z).toArray⟩) ∧ Below w.heap.size w w' := by
  refine (Tryd.strconv_Itoa z h0 h1 w hK.tab).mono ?_
  rintro e w1 ⟨rfl, k, os, rfl⟩
  exact ⟨rfl, Lib.below_grow w.heap.size w (Nat.le_refl _) k os⟩
set_option maxRecDepth 8000 in
theorem iau16 (B : Nat) (v : Value) (L : List UInt8) (u : Nat) (w : World) (hK : Dk w) (hu : u < 18446744073709551616) (hown : Ou w B v L) (hb : L.length + 16 ≤ 140737488355328) (hB : B ≤ w.heap.size) :
    Calls Tryd.prog 63 #[v, .int .u64 (u : Int), .int .i64 16] w fun e w' => ∃ v', e = .returned v' ∧ Ou w' B v' (L ++ hexD u) ∧ Fr B w w' := by
  have H := hide (bits_any B v L u true w hK hu hown hb hB)
  clear hK hown hb hB hu
  go_enter Tryd.func63, Tryd.ntmps63
  go_wp2_with fail
  refine H.out.mono ?_
  rintro e w1 ⟨h1, _, f1⟩
  obtain ⟨v1, x1, rfl, o1⟩ := h1 (by first | rfl | trivial)
  have HO := hide o1
  have HF := hide f1
  clear o1 f1 H
  go_wp2
  go_ret
  exact ⟨_, rfl, HO.out, HF.out⟩
theorem au16_any (B : Nat) (v : Value) (L : List UInt8) (u : Nat) (w : World) (hK : Dk w) (hu : u < 18446744073709551616) (hown : Ou w B v L) (hb : L.length + 16 ≤ 140737488355328) (hB : B ≤ w.heap.size) :
    Calls Tryd.prog 37 #[v, .int .u64 (u : Int), .int .i64 16] w fun e w' => ∃ v', e = .returned v' ∧ Ou w' B v' (L ++ hexD u) ∧ Fr B w w' := by
  have H := hide (iau16 B v L u w hK hu hown hb hB)
  clear hK hown hb hB hu
  go_enter Tryd.func37, Tryd.ntmps37
  go_wp2_with fail
  refine H.out.mono ?_
  rintro e w1 ⟨v1, rfl, o1, f1⟩
  have HO := hide o1
  have HF := hide f1
  clear o1 f1 H
  go_wp2
  go_ret
  exact ⟨_, rfl, HO.out, HF.out⟩
set_option maxRecDepth 8000 in
theorem ifu16 (u : Nat) (w : World) (hK : Dk w) (hu : u < 18446744073709551616) :
    Calls Tryd.prog 66 #[.int .u64 (u : Int), .int .i64 16] w fun e w' => e = .returned (.string ⟨(hexD u).toArray⟩) ∧ Below w.heap.size w w' := by
  have H := hide (bits_any w.heap.size (.slice none 0 0) [] u false w hK hu (Own.nil _ _ _ _) (by simp) (Nat.le_refl _))
  clear hK hu
  go_enter Tryd.func66, Tryd.ntmps66
  go_wp2_with fail
  refine H.out.mono ?_
  rintro e w1 ⟨_, h1, f1⟩
  obtain ⟨x1, rfl⟩ := h1 (by first | rfl | trivial)
  have HF := hide f1.bel
  clear f1 H
  go_wp2
  go_ret
  exact ⟨rfl, HF.out⟩
theorem arr24 : Tryd.prog.arrayLen 135 = 24 := by kernel_rfl
abbrev Z24 : Array Value := #[.int .u8 0, .int .u8 0, .int .u8 0, .int .u8 0, .int .u8 0, .int .u8 0, .int .u8 0, .int .u8 0, .int .u8 0, .int .u8 0, .int .u8 0, .int .u8 0, .int .u8 0, .int .u8 0, .int .u8 0, .int .u8 0, .int .u8 0, .int .u8 0, .int .u8 0, .int .u8 0, .int .u8 0, .int .u8 0, .int .u8 0, .int .u8 0]
theorem zer24 : Lib.zeros24 = Z24 := by kernel_rfl
set_option maxRecDepth 8000 in
theorem ifu10 (u : Nat) (w : World) (hK : Dk w) (hu : u < 18446744073709551616) :
    Calls Tryd.prog 66 #[.int .u64 (u : Int), .int .i64 10] w fun e w' => e = .returned (.string ⟨(Lib.decDigits u).toArray⟩) ∧ Below w.heap.size w w' := by
  have hu0 : (0 : Int) ≤ u := by omega
  by_cases h : u < 100
  · have hI : (u : Int) < 100 := by omega
    have H := hide (fun X => Tryd.internal_strconv_small u h X)
    clear hK hu h
    go_enter Tryd.func66, Tryd.ntmps66
    go_wp2_with fail
    refine (H.out _).mono ?_
    rintro e w1 ⟨rfl, rfl⟩
    go_wp2
    go_ret
    exact ⟨rfl, Below.refl _ _⟩
  · have iu : (100 : Int) ≤ (u : Int) := by omega
    have hu1 : 1 ≤ u := by omega
    have hnd20 : Lib.nDigits u ≤ 20 := by have := Lib.numDigits_eq u hu1 hu; split at this <;> omega
    have hsl : ∀ W, (Instr.sliceAt 135 (.pointer (some ⟨w.heap.size, 0, none⟩)) none (some (.int .i64 (Lib.nDigits u : Int))) none).run Tryd.prog W = .ok (.slice (some ⟨w.heap.size, 0, none⟩) (Lib.nDigits u) 24) W := fun W => by
      rw [run_sliceAt_array_h W 135 ⟨w.heap.size, 0, none⟩ (by simp [Program.arrayLen, Program.elem, Tryd.underlying135]) .i64 (Lib.nDigits u : Int) (by omega) (by rw [arr24]; omega), arr24]
      go_simp
    have hH0 := Lib.holds_zero0 w 135 (Lib.nDigits u) (by omega)
    rw [zer24] at hH0
    have hfmt := Tryd.internal_strconv_formatBase10 w.heap.size 0 24 u (Array.replicate (Lib.nDigits u) 0) (w.alloc (.cells Z24 135)) hH0 (by rw [Array.size_replicate]; exact Lib.lt_pow_nDigits u) hu (by rw [Array.size_replicate]; omega)
    rw [Array.size_replicate] at hfmt
    have HH0 := Lib.hid hH0
    have HND := hide (Tryd.internal_strconv_numDigits u hu1 hu (w.alloc (.cells Z24 135)) (Lib.tabIs_alloc hK.tab _))
    have HFm := hide hfmt
    clear hH0 hfmt hK h hu hu1
    go_enter Tryd.func66, Tryd.ntmps66
    go_wp2_with fail
    refine HND.out.mono ?_
    rintro e w1 ⟨rfl, hw1⟩
    rw [hw1]
    clear hw1 w1 HND
    go_wp2_with fail
    refine HFm.out.mono ?_
    rintro e w1 ⟨rfl, k, v', dk, hw1, hF⟩
    have hcv := run_convert_bytes_back (P := Tryd.prog) w1 41 9 5 ⟨w.heap.size, 0, none⟩ 24 (Lib.decDigits u) Tryd.underlying41 Tryd.underlying5 Tryd.underlying9 (fun j hj => by
      rw [hw1, Lib.row_is_numeral hF j hj, Lib.add_plain, World.cell?_drewN]
      exact cell?_putRow (fun (b : UInt8) => Value.int .u8 (b.toNat : Int)) _ w.heap.size 0 _ dk HH0.out (by rw [hF.size, Array.size_replicate]) j (by rw [hF.size]; rw [Lib.decDigits_length] at hj; exact hj))
    rw [Lib.decDigits_length] at hcv
    have HBl : Hid (Below w.heap.size w w1) := hide (by
      obtain ⟨os, eo⟩ := Lib.fin_at w (.cells Z24 135) dk k 0
      rw [hw1, eo]
      exact Lib.below_grow w.heap.size w (Nat.le_refl _) k os)
    clear hw1 hF HH0 HFm
    go_wp2
    go_ret
    exact ⟨rfl, HBl.out⟩
theorem fu_any (u b : Nat) (S : List UInt8) (w : World) (h : Calls Tryd.prog 66 #[.int .u64 (u : Int), .int .i64 (b : Int)] w fun e w' => e = .returned (.string ⟨S.toArray⟩) ∧ Below w.heap.size w w') :
    Calls Tryd.prog 43 #[.int .u64 (u : Int), .int .i64 (b : Int)] w fun e w' => e = .returned (.string ⟨S.toArray⟩) ∧ Below w.heap.size w w' := by
  have H := hide h
  clear h
  go_enter Tryd.func43, Tryd.ntmps43
  go_wp2_with fail
  refine H.out.mono ?_
  rintro e w1 ⟨rfl, b1⟩
  have HB := hide b1
  clear b1 H
  go_wp2
  go_ret
  exact ⟨rfl, HB.out⟩
end Go.Proofs.YtpnacioliccglaaDoor
