/-
  An event's line: the program's.
-/
import Derived.Test.YtbflkdbimgakpaaDoorDuH
import Derived.Test.YtbflkdbimgakpaaDoorEvtS
import Derived.Test.YtbflkdbimgakpaaDoorEvtW
namespace Go.Proofs.YtbflkdbimgakpaaDoor
open Go.RowKit Go.Maps Go.Shelf
set_option linter.unusedVariables false
/-- The first frames as words, each with a blank ahead. -/
def stkL (ls : List ByteArray) : Nat → List UInt8
  | 0 => []
  | j + 1 => stkL ls j ++ [32] ++ wrd (ls.getD j ByteArray.empty)
/-- What stands ahead of the frames. -/
def linH (g : Int) (k o a : Nat) : List UInt8 := Lib.itoa g ++ [32] ++ (E6.kname k).data.toList ++ [32, 48, 120] ++ hexD o ++ [32] ++ Lib.decDigits a
/-- An event's line. -/
def linE (g : Int) (k o a : Nat) (ls : List ByteArray) : List UInt8 := linH g k o a ++ stkL ls ls.length
theorem stkL_len {ls : List ByteArray} (h : ∀ s ∈ ls, s.size ≤ 65536) : ∀ j, j ≤ ls.length → (stkL ls j).length ≤ 262147 * j
  | 0, _ => by simp [stkL]
  | j + 1, hj => by
    have h1 := stkL_len h j (by omega)
    have hm : ls.getD j ByteArray.empty ∈ ls := by
      rw [List.getD_eq_getElem?_getD, List.getElem?_eq_getElem (by omega)]
      exact List.getElem_mem _
    have h2 := wrd_len (ls.getD j ByteArray.empty)
    have h3 := h _ hm
    rw [stkL, List.length_append, List.length_append, List.length_singleton]
    omega
theorem kname_len : ∀ k, k < 23 → (E6.kname k).size ≤ 8 := by decide
set_option maxRecDepth 8000 in
set_option maxHeartbeats 8000000 in
theorem aline_any (B : Nat) (v : Value) (L : List UInt8) (g : Int) (k o a : Nat) (sa : Option Addr) (n sc : Nat) (ls : List ByteArray) (w : World) (hK : Dk w) (hB11 : 11 ≤ B)
    (hg0 : 0 ≤ g) (hg1 : g < 65536) (hk0 : 1 ≤ k) (hk1 : k ≤ 22) (ho : o < 18446744073709551616) (ha : a < 18446744073709551616) (hn : n ≤ 16) (hls : ls.length = n) (hsz : ∀ s ∈ ls, s.size ≤ 65536)
    (hS : ∀ X, Below B w X → E6.SRow X sa n ls) (hown : Ou w B v L) (hb : L.length + 5000000 ≤ 140737488355328) (hB : B ≤ w.heap.size) :
    Calls Tryd.prog 19 #[v, .agg #[.int .i64 g, .int .i64 (k : Int), .int .u64 (o : Int), .int .u64 (a : Int), .slice sa n sc]] w fun e w' => ∃ v', e = .returned v' ∧ Ou w' B v' (L ++ linE g k o a ls) ∧ Fr B w w' := by
  obtain ⟨W, hW⟩ : ∃ W, W = w.alloc (.cells #[.int .i64 g, .int .i64 (k : Int), .int .u64 (o : Int), .int .u64 (a : Int), .slice sa n sc] 25) := ⟨_, rfl⟩
  have hFW : Fr B w W := by rw [hW]; exact (Fr.refl B w).alloc hB _
  have hbx : W.heap[w.heap.size]? = some (.cells #[.int .i64 g, .int .i64 (k : Int), .int .u64 (o : Int), .int .u64 (a : Int), .slice sa n sc] 25 (0, 0)) := by rw [hW]; exact heap_new _ _
  have hO : Ou W B v L := by rw [hW]; exact ou_fr hown
  have hKW := hK.below hFW.bel hB11
  have HFW := hide hFW
  have HBx := hide hbx
  have HB0 := hide (Nat.le_trans hB hFW.size)
  have HKn := hide (E6.name_any (k : Int) W hKW.kr.toKn)
  have HNv : Hid (E6.nameV (k : Int) = .tuple #[.string (E6.kname k), .int .i64 0]) := hide (by rw [E6.nameV, if_pos ⟨by omega, by omega⟩]; rfl)
  rw [HNv.out] at HKn
  have HS := hide (fun X (h : Fr B W X) => hS X (hFW.bel.trans h.bel))
  have HKK := hide (fun X (h : Fr B W X) => hKW.below h.bel hB11)
  have HLs := hide hls
  have HSz := hide (stkL_len hsz)
  have HSm := hide hsz
  have HB := hide hb
  have HLn : Hid (linE g k o a ls = linH g k o a ++ stkL ls n) := hide (by unfold linE; rw [hls])
  have HA := hide (itoa_len (z := g) (by omega) (by omega))
  have HN := hide (kname_len k (by omega))
  have HH := hide (hexD_16 ho)
  have HD := hide (dec_len20 ha)
  have HH' : Hid (linH g k o a = Lib.itoa g ++ [32] ++ (E6.kname k).data.toList ++ [32, 48, 120] ++ hexD o ++ [32] ++ Lib.decDigits a) := hide rfl
  have HAi := hide (fun X (h : Fr B W X) (v : Value) (L : List UInt8) (h1 : Ou X B v L) (h2 : L.length + 21 ≤ 140737488355328) => ai10_any B v L g X (hKW.below h.bel hB11) (by omega) (by omega) h1 h2 (Nat.le_trans HB0.out h.size) hB11)
  have HAh := hide (fun X (h : Fr B W X) (v : Value) (L : List UInt8) (h1 : Ou X B v L) (h2 : L.length + 16 ≤ 140737488355328) => au16_any B v L o X (hKW.below h.bel hB11) ho h1 h2 (Nat.le_trans HB0.out h.size))
  have HAd := hide (fun X (h : Fr B W X) (v : Value) (L : List UInt8) (h1 : Ou X B v L) (h2 : L.length + 20 ≤ 140737488355328) => au10_any B v L a X (hKW.below h.bel hB11) ha h1 h2 (Nat.le_trans HB0.out h.size))
  obtain ⟨PA, hPA⟩ : ∃ P, Lib.itoa g = P := ⟨_, rfl⟩
  obtain ⟨PH, hPH⟩ : ∃ P, hexD o = P := ⟨_, rfl⟩
  obtain ⟨PD, hPD⟩ : ∃ P, Lib.decDigits a = P := ⟨_, rfl⟩
  obtain ⟨nm, hnm⟩ : ∃ m, E6.kname k = m := ⟨_, rfl⟩
  rw [hPA] at HA HH' HAi
  rw [hPH] at HH HH' HAh
  rw [hPD] at HD HH' HAd
  rw [hnm] at HN HH' HKn
  have HNl : Hid (nm.data.toList.length ≤ 8) := hide (by have h := HN.out; have e : nm.size = nm.data.toList.length := (Array.length_toList).symm; omega)
  have HO0 := hide hO
  have HF0 : Hid (Fr B W W) := hide (Fr.refl _ _)
  have hnI : (n : Int) ≤ 16 := by omega
  have HW := hide hW
  clear hPA hPH hPD hnm hFW hbx hO hKW hown hb hB hK hls hsz hS hg0 hg1 ho ha hB11 HNv HKK HN hn hk0 hk1 hW
  have c0 := cell_at HBx.out (i := 0) rfl
  have c1 := cell_at HBx.out (i := 1) rfl
  go_enter Tryd.func19, Tryd.ntmps19
  go_wp2_with fail
  rw [← HW.out]
  refine HKn.out.mono ?_
  rintro x w1 ⟨rfl, hw1⟩
  obtain rfl : W = w1 := hw1.symm
  clear hw1 HKn
  have HC := hide (HAi.out W HF0.out v L HO0.out (by have := HB.out; omega))
  clear HAi
  go_wp2_with fail
  refine HC.out.mono ?_
  rintro x w2 ⟨v2, rfl, o2, f2⟩
  have HO2 := hide o2
  have HF2 := hide f2
  clear o2 f2 HC c0 c1 HO0
  have hbx2 := HF2.out.obj HBx.out (fun c fz e => by cases e)
  have c2 := cell_at hbx2 (i := 2) rfl
  clear hbx2
  go_wp2_with (first
    | (at_builtin; refine append_s _ rfl _ _ rfl B v4 (L ++ PA ++ [32] ++ nm.data.toList) rfl HO4.out ⟨#[32, 48, 120]⟩ rfl (by show _ + _ ≤ _; have hz : (ByteArray.size ⟨#[32, 48, 120]⟩) = (ByteArray.data ⟨#[32, 48, 120]⟩).toList.length := (Array.length_toList).symm; rw [hz]; simp only [List.length_append, List.length_cons, List.length_nil]; have := HB.out; have := HA.out; have := HNl.out; have := HH.out; have := HD.out; omega) (Nat.le_trans HB0.out HF4.out.size) ?_; intro v5 w5 o3 f3; have HO5 := hide o3; have HF5 := hide (HF4.out.trans f3); clear o3 f3; have hbxZ := HF5.out.obj HBx.out (fun c fz e => by cases e); have c2 := cell_at hbxZ (i := 2) rfl; have c3 := cell_at hbxZ (i := 3) rfl; have c4 := cell_at hbxZ (i := 4) rfl; clear hbxZ)
    | (at_builtin; refine append_s _ rfl _ _ rfl B v3 (L ++ PA ++ [32]) rfl HO3.out nm rfl (by show _ + _ ≤ _; have hz : (ByteArray.size nm) = (ByteArray.data nm).toList.length := (Array.length_toList).symm; rw [hz]; simp only [List.length_append, List.length_cons, List.length_nil]; have := HB.out; have := HA.out; have := HNl.out; have := HH.out; have := HD.out; omega) (Nat.le_trans HB0.out HF3.out.size) ?_; intro v4 w4 o3 f3; have HO4 := hide o3; have HF4 := hide (HF3.out.trans f3); clear o3 f3; have hbxZ := HF4.out.obj HBx.out (fun c fz e => by cases e); have c2 := cell_at hbxZ (i := 2) rfl; have c3 := cell_at hbxZ (i := 3) rfl; have c4 := cell_at hbxZ (i := 4) rfl; clear hbxZ)
    | (at_builtin; refine append_u _ rfl _ _ rfl B v2 (L ++ PA) rfl (ou_fr HO2.out) w2.heap.size 1 1 _ [32] rfl (heap_new _ _) rfl rfl (by rw [List.length_append]; have := HB.out; have := HA.out; have := HNl.out; have := HH.out; have := HD.out; omega) (by rw [World.size_alloc]; exact Nat.le_succ_of_le (Nat.le_trans HB0.out HF2.out.size)) ?_; intro v3 w3 o3 f3; have HO3 := hide o3; have HF3 := hide (HF2.out.trans (((Fr.refl B w2).alloc (Nat.le_trans HB0.out HF2.out.size) _).trans f3)); clear o3 f3; have hbxZ := HF3.out.obj HBx.out (fun c fz e => by cases e); have c2 := cell_at hbxZ (i := 2) rfl; have c3 := cell_at hbxZ (i := 3) rfl; have c4 := cell_at hbxZ (i := 4) rfl; clear hbxZ))
  have HC := hide (HAh.out w5 HF5.out v5 (L ++ PA ++ [32] ++ nm.data.toList ++ [32, 48, 120]) HO5.out (by simp only [List.length_append, List.length_cons, List.length_nil]; have := HB.out; have := HA.out; have := HNl.out; have := HH.out; have := HD.out; omega))
  clear HAh
  refine HC.out.mono ?_
  rintro x w6 ⟨v6, rfl, o6, f6⟩
  have HO6 := hide o6
  have HF6 := hide (HF5.out.trans f6)
  clear o6 f6 HC
  go_wp2_with (at_builtin; go_must (refine append_u _ rfl _ _ rfl B v6 (L ++ PA ++ [32] ++ nm.data.toList ++ [32, 48, 120] ++ PH) rfl (ou_fr HO6.out) w6.heap.size 1 1 _ [32] rfl (heap_new _ _) rfl rfl (by simp only [List.length_append, List.length_cons, List.length_nil]; have := HB.out; have := HA.out; have := HNl.out; have := HH.out; have := HD.out; omega) (by rw [World.size_alloc]; exact Nat.le_succ_of_le (Nat.le_trans HB0.out HF6.out.size)) ?_); intro v7 w7 o3 f3; have HO7 := hide o3; have HF7 := hide (HF6.out.trans (((Fr.refl B w6).alloc (Nat.le_trans HB0.out HF6.out.size) _).trans f3)); clear o3 f3; have hbxZ := HF7.out.obj HBx.out (fun c fz e => by cases e); have c2 := cell_at hbxZ (i := 2) rfl; have c3 := cell_at hbxZ (i := 3) rfl; have c4 := cell_at hbxZ (i := 4) rfl; clear hbxZ)
  have HC := hide (HAd.out w7 HF7.out v7 (L ++ PA ++ [32] ++ nm.data.toList ++ [32, 48, 120] ++ PH ++ [32]) HO7.out (by simp only [List.length_append, List.length_cons, List.length_nil]; have := HB.out; have := HA.out; have := HNl.out; have := HH.out; have := HD.out; omega))
  clear HAd
  refine HC.out.mono ?_
  rintro x w8 ⟨v8, rfl, o8, f8⟩
  have HO8 : Hid (Ou w8 B v8 (L ++ linH g k o a)) := hide (by rw [HH'.out]; simp only [← List.append_assoc]; exact o8)
  have HF8 := hide (HF7.out.trans f8)
  have HL8 : Hid ((L ++ linH g k o a).length ≤ L.length + 70) := hide (by rw [HH'.out]; simp only [List.length_append, List.length_cons, List.length_nil]; have := HA.out; have := HNl.out; have := HH.out; have := HD.out; omega)
  clear o8 f8 HC
  have hbx8 := HF8.out.obj HBx.out (fun c fz e => by cases e)
  have c4 := cell_at hbx8 (i := 4) rfl
  clear hbx8
  go_wp2
  go_loopw [0, 41] (fun s0 s41 wr => ∃ j : Nat, j ≤ n ∧ s41 = .int .i64 j ∧ Hid (Ou wr B s0 (L ++ linH g k o a ++ stkL ls j) ∧ Fr B W wr)) (fun _ s _ => n - (intOf s).toNat)
  case atStart => exact ⟨0, Nat.zero_le _, rfl, hide ⟨by rw [stkL, List.append_nil]; exact HO8.out, HF8.out⟩⟩
  case round =>
    obtain ⟨j, hj, rfl, HJ⟩ := hrel
    by_cases hlt : j < n
    · have hjI : (j : Int) < n := by omega
      have hj0 : (0 : Int) ≤ j := by omega
      obtain ⟨b1, o1, e1, d1⟩ := (HS.out wr HJ.out.2).at hlt
      obtain ⟨S, hSg⟩ : ∃ S, ls.getD j ByteArray.empty = S := ⟨_, rfl⟩
      rw [hSg] at d1
      have HSS : Hid (S.size ≤ 65536) := hide (HSm.out S (by
        rw [← hSg, List.getD_eq_getElem?_getD, List.getElem?_eq_getElem (by rw [HLs.out]; exact hlt)]
        exact List.getElem_mem _))
      have HX : Hid (stkL ls (j + 1) = stkL ls j ++ [32] ++ wrd S) := hide (by rw [stkL, hSg])
      have HLj : Hid ((L ++ linH g k o a ++ stkL ls j).length ≤ L.length + 70 + 262147 * j) := hide (by rw [List.length_append]; have := HL8.out; have := HSz.out j (by rw [HLs.out]; exact hj); omega)
      have HBr : Hid (B ≤ wr.heap.size) := hide (Nat.le_trans HB0.out HJ.out.2.size)
      have hj16 : Hid (j ≤ 16) := hide (by omega)
      subst e1
      clear hSg
      go_wp2_with (at_builtin; go_must (refine append_u _ rfl _ _ rfl B u0 (L ++ linH g k o a ++ stkL ls j) rfl (ou_fr HJ.out.1) wr.heap.size 1 1 _ [32] rfl (heap_new _ _) rfl rfl (by have := HLj.out; have := HB.out; have := hj16.out; omega) (by rw [World.size_alloc]; exact Nat.le_succ_of_le HBr.out) ?_); intro v9 w9 o3 f3; have HO9 := hide o3; have HF9 := hide (HJ.out.2.trans (((Fr.refl B wr).alloc HBr.out _).trans f3)); clear o3 f3)
      have HC := hide (word_any B v9 (L ++ linH g k o a ++ stkL ls j ++ [32]) S w9 HO9.out (by rw [List.length_append, List.length_singleton]; have := HLj.out; have := HB.out; have := hj16.out; have := HSS.out; omega) (Nat.le_trans HB0.out HF9.out.size))
      refine HC.out.mono ?_
      rintro x w10 ⟨v10, rfl, o10, f10⟩
      have HJ2 : Hid (Ou w10 B v10 (L ++ linH g k o a ++ stkL ls (j + 1)) ∧ Fr B W w10) := hide ⟨by rw [HX.out]; simp only [← List.append_assoc]; exact o10, HF9.out.trans f10⟩
      clear o10 f10 HC
      go_wp2
      exact ⟨⟨j + 1, by omega, by go_num, HJ2⟩, by simp [intOf]; omega⟩
    · have h9 : j = n := by omega
      subst h9
      have hjI : ¬ (j : Int) < j := by omega
      go_wp2
      go_ret
      exact ⟨_, rfl, by rw [HLn.out, ← List.append_assoc]; exact HJ.out.1, HFW.out.trans HJ.out.2⟩
end Go.Proofs.YtbflkdbimgakpaaDoor
