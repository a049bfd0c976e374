import Derived.Test.YtpnacioliccglaaDoorZt10
import Derived.Test.YtpnacioliccglaaDoorZt12
import Derived.Test.YtpnacioliccglaaDoorZt09
import Derived.ProofKit
import Derived.LaidMore
import Derived.OpenShut
import Derived.Stop.Joined
set_option maxRecDepth 8000
set_option maxHeartbeats 8000000
set_option linter.unusedVariables false
/-
  An event's line: the program's.
-/
namespace Go.Proofs.YtpnacioliccglaaDoor
open Go.RowKit Go.Maps Go.Shelf
set_option linter.unusedVariables false
/-- The first frames as words, each with a blank ahead. -/
def stkL (ls : List ByteArray) : Nat → List UInt8
  | 0 => []
  | j + 1 => stkL ls j ++ [32] ++ wrd (ls.getD j ByteArray.empty)
/-- What stands ahead of the frames. -/
def linH (g : Int) (k o a : Nat) : List UInt8 := Lib.itoa g ++ [32] ++ (E6.kname k).data.toList ++ [32, 48, 120] ++ hexD o ++ [32] ++ Lib.decDigits a
/-- An event's line. -/
def linE (g : Int) (k o a : Nat) (ls : List ByteArray) : List UInt8 := linH g k o a ++ stkL ls ls.length
theorem stkL_len {ls : List ByteArray} (h : ∀ s ∈ ls, s.size ≤ 65536) : ∀ j, j ≤ ls.length → (stkL ls j).length ≤ 262147 * j
  | 0, _ => by simp [stkL]
  | j + 1, hj => by
    have h1 := stkL_len h j (by omega)
    have hm : ls.getD j ByteArray.empty ∈ ls := by
      rw [List.getD_eq_getElem?_getD, List.getElem?_eq_getElem (by omega)]
      exact List.getElem_mem _
    have h2 := wrd_len (ls.getD j ByteArray.empty)
    have h3 := h _ hm
    rw [stkL, List.length_append, List.length_append, List.length_singleton]
    omega
theorem kname_len : ∀ k, k < 23 → (E6.kname k).size ≤ 8 := by decide
set_option maxRecDepth 8000 in
set_option maxHeartbeats 8000000 in
theorem aline_any (B : Nat) (v : Value) (L : List UInt8) (g : Int) (k o a : Nat) (sa : Option Addr) (n sc : Nat) (ls : List ByteArray) (w : World) (hK : Dk w) (hB11 : 11 ≤ B)
    (hg0 : 0 ≤ g) (hg1 : g < 65536) (hk0 : 1 ≤ k) (hk1 : k ≤ 22) (ho : o < 18446744073709551616) (ha : a < 18446744073709551616) (hn : n ≤ 16) (hls : ls.length = n) (hsz : ∀ s ∈ ls, s.size ≤ 65536)
    (hS : ∀ X, Below B w X → E6.SRow X sa n ls) (hown : Ou w B v L) (hb : L.length + 5000000 ≤ 140737488355328) (hB : B ≤ w.heap.size) :
    Calls Tryd.prog 19 #[v, .agg #[.int .i64 g, .int .i64 (k : Int), .int .u64 (o : Int), .int .u64 (a : Int), .slice sa n sc]] w fun e w' => ∃ v', e = .returned v' ∧ Ou w' B v' (L ++ linE g k o a ls) ∧ Fr B w w' := by
  obtain ⟨W, hW⟩ : ∃ W, W = w.alloc (.cells #[.int .i64 g, .int .i64 (k : Int), .int .u64 (o : Int), .int .u64 (a : Int), .slice sa n sc] 25) := ⟨_, rfl⟩
  have hFW : Fr B w W := by rw [hW]; exact (Fr.refl B w).alloc hB _
  have hbx : W.heap[w.heap.size]? = some (.cells #[.int .i64 g, .int .i64 (k : Int), .int .u64 (o : Int), .int .u64 (a : Int), .slice sa n sc] 25 (0, 0)) := by rw [hW]; exact heap_new _ _
  have hO : Ou W B v L := by rw [hW]; exact ou_fr hown
  have hKW := hK.below hFW.bel hB11
  have HFW := hide hFW
  have HBx := hide hbx
  have HB0 := hide (Nat.le_trans hB hFW.size)
  have HKn := hide (E6.name_any (k : Int) W hKW.kr.toKn)
  have HNv : Hid (E6.nameV (k : Int) = .tuple #[.string (E6.kname k), .int .i64 0]) := hide (by rw [E6.nameV, if_pos ⟨by omega, by omega⟩]; rfl)
  rw [HNv.out] at HKn
  have HS := hide (fun X (h : Fr B W X) => hS X (hFW.bel.trans h.bel))
  have HKK := hide (fun X (h : Fr B W X) => hKW.below h.bel hB11)
  have HLs := hide hls
  have HSz := hide (stkL_len hsz)
  have HSm := hide hsz
  have HB := hide hb
  have HLn : Hid (linE g k o a ls = linH g k o a ++ stkL ls n) := hide (by unfold linE; rw [hls])
  have HA := hide (itoa_len (z := g) (by omega) (by omega))
  have HN := hide (kname_len k (by omega))
  have HH := hide (hexD_16 ho)
  have HD := hide (dec_len20 ha)
  have HH' : Hid (linH g k o a = Lib.itoa g ++ [32] ++ (E6.kname k).data.toList ++ [32, 48, 120] ++ hexD o ++ [32] ++ Lib.decDigits a) := hide rfl
  have HAi := hide (fun X (h : Fr B W X) (v : Value) (L : List UInt8) (h1 : Ou X B v L) (h2 : L.length + 21 ≤ 140737488355328) => ai10_any B v L g X (hKW.below h.bel hB11) (by omega) (by omega) h1 h2 (Nat.le_trans HB0.out h.size) hB11)
  have HAh := hide (fun X (h : Fr B W X) (v : Value) (L : List UInt8) (h1 : Ou X B v L) (h2 : L.length + 16 ≤ 140737488355328) => au16_any B v L o X (hKW.below h.bel hB11) ho h1 h2 (Nat.le_trans HB0.out h.size))
  have HAd := hide (fun X (h : Fr B W X) (v : Value) (L : List UInt8) (h1 : Ou X B v L) (h2 : L.length + 20 ≤ 140737488355328) => au10_any B v L a X (hKW.below h.bel hB11) ha h1 h2 (Nat.le_trans HB0.out h.size))
  obtain ⟨PA, hPA⟩ : ∃ P, Lib.itoa g = P := ⟨_, rfl⟩
  obtain ⟨PH, hPH⟩ : ∃ P, hexD o = P := ⟨_, rfl⟩
  obtain ⟨PD, hPD⟩ : ∃ P, Lib.decDigits a = P := ⟨_, rfl⟩
  obtain ⟨nm, hnm⟩ : ∃ m, E6.kname k = m := ⟨_, rfl⟩
  rw [hPA] at HA HH' HAi
  rw [hPH] at HH HH' HAh
  rw [hPD] at HD HH' HAd
  rw [hnm] at HN HH' HKn
  have HNl : Hid (nm.data.toList.length ≤ 8) := hide (by have h := HN.out; have e : nm.size = nm.data.toList.length := (Array.length_toList).symm; omega)
  have HO0 := hide hO
  have HF0 : Hid (Fr B W W) := hide (Fr.refl _ _)
  have hnI : (n : Int) ≤ 16 := by omega
  have HW := hide hW
  clear hPA hPH hPD hnm hFW hbx hO hKW hown hb hB hK hls hsz hS hg0 hg1 ho ha hB11 HNv HKK HN hn hk0 hk1 hW
  have c0 := cell_at HBx.out (i := 0) rfl
  have c1 := cell_at HBx.out (i := 1) rfl
  go_enter Tryd.func19, Tryd.ntmps19
  go_wp2_with fail
  rw [← HW.out]
  refine HKn.out.mono ?_
  rintro x w1 ⟨rfl, hw1⟩
  obtain rfl : W = w1 := hw1.symm
  clear hw1 HKn
  have HC := hide (HAi.out W HF0.out v L HO0.out (by have := HB.out; omega))
  clear HAi
  go_wp2_with fail
  refine HC.out.mono ?_
  rintro x w2 ⟨v2, rfl, o2, f2⟩
  have HO2 := hide o2
  have HF2 := hide f2
  clear o2 f2 HC c0 c1 HO0
  have hbx2 := HF2.out.obj HBx.out (fun c fz e => by cases e)
  have c2 := cell_at hbx2 (i := 2) rfl
  clear hbx2
  go_wp2_with (first
    | (at_builtin; refine append_s _ rfl _ _ rfl B v4 (L ++ PA ++ [32] ++ nm.data.toList) rfl HO4.out ⟨#[32, 48, 120]⟩ rfl (by show _ + _ ≤ _; have hz : (ByteArray.size ⟨#[32, 48, 120]⟩) = (ByteArray.data ⟨#[32, 48, 120]⟩).toList.length := (Array.length_toList).symm; rw [hz]; simp only [List.length_append, List.length_cons, List.length_nil]; have := HB.out; have := HA.out; have := HNl.out; have := HH.out; have := HD.out; omega) (Nat.le_trans HB0.out HF4.out.size) ?_; intro v5 w5 o3 f3; have HO5 := hide o3; have HF5 := hide (HF4.out.trans f3); clear o3 f3; have hbxZ := HF5.out.obj HBx.out (fun c fz e => by cases e); have c2 := cell_at hbxZ (i := 2) rfl; have c3 := cell_at hbxZ (i := 3) rfl; have c4 := cell_at hbxZ (i := 4) rfl; clear hbxZ)
    | (at_builtin; refine append_s _ rfl _ _ rfl B v3 (L ++ PA ++ [32]) rfl HO3.out nm rfl (by show _ + _ ≤ _; have hz : (ByteArray.size nm) = (ByteArray.data nm).toList.length := (Array.length_toList).symm; rw [hz]; simp only [List.length_append, List.length_cons, List.length_nil]; have := HB.out; have := HA.out; have := HNl.out; have := HH.out; have := HD.out; omega) (Nat.le_trans HB0.out HF3.out.size) ?_; intro v4 w4 o3 f3; have HO4 := hide o3; have HF4 := hide (HF3.out.trans f3); clear o3 f3; have hbxZ := HF4.out.obj HBx.out (fun c fz e => by cases e); have c2 := cell_at hbxZ (i := 2) rfl; have c3 := cell_at hbxZ (i := 3) rfl; have c4 := cell_at hbxZ (i := 4) rfl; clear hbxZ)
    | (at_builtin; refine append_u _ rfl _ _ rfl B v2 (L ++ PA) rfl (ou_fr HO2.out) w2.heap.size 1 1 _ [32] rfl (heap_new _ _) rfl rfl (by rw [List.length_append]; have := HB.out; have := HA.out; have := HNl.out; have := HH.out; have := HD.out; omega) (by rw [World.size_alloc]; exact Nat.le_succ_of_le (Nat.le_trans HB0.out HF2.out.size)) ?_; intro v3 w3 o3 f3; have HO3 := hide o3; have HF3 := hide (HF2.out.trans (((Fr.refl B w2).alloc (Nat.le_trans HB0.out HF2.out.size) _).trans f3)); clear o3 f3; have hbxZ := HF3.out.obj HBx.out (fun c fz e => by cases e); have c2 := cell_at hbxZ (i := 2) rfl; have c3 := cell_at hbxZ (i := 3) rfl; have c4 := cell_at hbxZ (i := 4) rfl; clear hbxZ))
  have HC := hide (HAh.out w5 HF5.out v5 (L ++ PA ++ [32] ++ nm.data.toList ++ [32, 48, 120]) HO5.out (by simp only [List.length_append, List.length_cons, List.length_nil]; have := HB.out; have := HA.out; have := HNl.out; have := HH.out; have := HD.out; omega))
  clear HAh
  refine HC.out.mono ?_
  rintro x w6 ⟨v6, rfl, o6, f6⟩
  have HO6 := hide o6
  have HF6 := hide (HF5.out.trans f6)
  clear o6 f6 HC
  go_wp2_with (at_builtin; go_must (refine append_u _ rfl _ _ rfl B v6 (L ++ PA ++ [32] ++ nm.data.toList ++ [32, 48, 120] ++ PH) rfl (ou_fr HO6.out) w6.heap.size 1 1 _ [32] rfl (heap_new _ _) rfl rfl (by simp only [List.length_append, List.length_cons, List.length_nil]; have := HB.out; have := HA.out; have := HNl.out; have := HH.out; have := HD.out; omega) (by rw [World.size_alloc]; exact Nat.le_succ_of_le (Nat.le_trans HB0.out HF6.out.size)) ?_); intro v7 w7 o3 f3; have HO7 := hide o3; have HF7 := hide (HF6.out.trans (((Fr.refl B w6).alloc (Nat.le_trans HB0.out HF6.out.size) _).trans f3)); clear o3 f3; have hbxZ := HF7.out.obj HBx.out (fun c fz e => by cases e); have c2 := cell_at hbxZ (i := 2) rfl; have c3 := cell_at hbxZ (i := 3) rfl; have c4 := cell_at hbxZ (i := 4) rfl; clear hbxZ)
  have HC := hide (HAd.out w7 HF7.out v7 (L ++ PA ++ [32] ++ nm.data.toList ++ [32, 48, 120] ++ PH ++ [32]) HO7.out (by simp only [List.length_append, List.length_cons, List.length_nil]; have := HB.out; have := HA.out; have := HNl.out; have := HH.out; have := HD.out; omega))
  clear HAd
  refine HC.out.mono ?_
  rintro x w8 ⟨v8, rfl, o8, f8⟩
  have HO8 : Hid (Ou w8 B v8 (L ++ linH g k o a)) := hide (by rw [HH'.out]; simp only [← List.append_assoc]; exact o8)
  have HF8 := hide (HF7.out.trans f8)
  have HL8 : Hid ((L ++ linH g k o a).length ≤ L.length + 70) := hide (by rw [HH'.out]; simp only [List.length_append, List.length_cons, List.length_nil]; have := HA.out; have := HNl.out; have := HH.out; have := HD.out; omega)
  clear o8 f8 HC
  have hbx8 := HF8.out.obj HBx.out (fun c fz e => by cases e)
  have c4 := cell_at hbx8 (i := 4) rfl
  clear hbx8
  go_wp2
  go_loopw [0, 41] (fun s0 s41 wr => ∃ j : Nat, j ≤ n ∧ s41 = .int .i64 j ∧ Hid (Ou wr B s0 (L ++ linH g k o a ++ stkL ls j) ∧ Fr B W wr)) (fun _ s _ => n - (intOf s).toNat)
  case atStart => exact ⟨0, Nat.zero_le _, rfl, hide ⟨by rw [stkL, List.append_nil]; exact HO8.out, HF8.out⟩⟩
  case round =>
    obtain ⟨j, hj, rfl, HJ⟩ := hrel
    by_cases hlt : j < n
    · have hjI : (j : Int) < n := by omega
      have hj0 : (0 : Int) ≤ j := by omega
      obtain ⟨b1, o1, e1, d1⟩ := (HS.out wr HJ.out.2).at hlt
      obtain ⟨S, hSg⟩ : ∃ S, ls.getD j ByteArray.empty = S := ⟨_, rfl⟩
      rw [hSg] at d1
      have HSS : Hid (S.size ≤ 65536) := hide (HSm.out S (by
        rw [← hSg, List.getD_eq_getElem?_getD, List.getElem?_eq_getElem (by rw [HLs.out]; exact hlt)]
        exact List.getElem_mem _))
      have HX : Hid (stkL ls (j + 1) = stkL ls j ++ [32] ++ wrd S) := hide (by rw [stkL, hSg])
      have HLj : Hid ((L ++ linH g k o a ++ stkL ls j).length ≤ L.length + 70 + 262147 * j) := hide (by rw [List.length_append]; have := HL8.out; have := HSz.out j (by rw [HLs.out]; exact hj); omega)
      have HBr : Hid (B ≤ wr.heap.size) := hide (Nat.le_trans HB0.out HJ.out.2.size)
      have hj16 : Hid (j ≤ 16) := hide (by omega)
      subst e1
      clear hSg
      go_wp2_with (at_builtin; go_must (refine append_u _ rfl _ _ rfl B u0 (L ++ linH g k o a ++ stkL ls j) rfl (ou_fr HJ.out.1) wr.heap.size 1 1 _ [32] rfl (heap_new _ _) rfl rfl (by have := HLj.out; have := HB.out; have := hj16.out; omega) (by rw [World.size_alloc]; exact Nat.le_succ_of_le HBr.out) ?_); intro v9 w9 o3 f3; have HO9 := hide o3; have HF9 := hide (HJ.out.2.trans (((Fr.refl B wr).alloc HBr.out _).trans f3)); clear o3 f3)
      have HC := hide (word_any B v9 (L ++ linH g k o a ++ stkL ls j ++ [32]) S w9 HO9.out (by rw [List.length_append, List.length_singleton]; have := HLj.out; have := HB.out; have := hj16.out; have := HSS.out; omega) (Nat.le_trans HB0.out HF9.out.size))
      refine HC.out.mono ?_
      rintro x w10 ⟨v10, rfl, o10, f10⟩
      have HJ2 : Hid (Ou w10 B v10 (L ++ linH g k o a ++ stkL ls (j + 1)) ∧ Fr B W w10) := hide ⟨by rw [HX.out]; simp only [← List.append_assoc]; exact o10, HF9.out.trans f10⟩
      clear o10 f10 HC
      go_wp2
      exact ⟨⟨j + 1, by omega, by go_num, HJ2⟩, by simp [intOf]; omega⟩
    · have h9 : j = n := by omega
      subst h9
      have hjI : ¬ (j : Int) < j := by omega
      go_wp2
      go_ret
      exact ⟨_, rfl, by rw [HLn.out, ← List.append_assoc]; exact HJ.out.1, HFW.out.trans HJ.out.2⟩
end Go.Proofs.YtpnacioliccglaaDoor
/-
  What is laid in the tables.
-/
namespace Go.Proofs.YtpnacioliccglaaDoor.E6
open Go.ChangeShapes Go.WideShapes Go.ChangeAt Go.RowKit
theorem kcellsT : Tryd.prog.cellsOf 86 = 2 := by kernel_rfl
theorem kcells9 : Tryd.prog.cellsOf 9 = 1 := by kernel_rfl
theorem kcells3 : Tryd.prog.cellsOf 3 = 1 := by kernel_rfl
theorem kinds_data {H : Type} : (Rows.laid_hindsight_event_kinds : DataW H) = .agg ((List.range 23).map fun k => .agg [.lit (.string (kname k).data.toList), .lit (.int .i64 (ksort k : Int))]) := rfl
set_option maxRecDepth 8000 in
theorem two_of {α : Type} {l : List α} (h : l.length = 2) : ∃ a b, l = [a, b] := by
  match l, h with
  | [a, b], _ => exact ⟨a, b, rfl⟩
theorem drop_two {α : Type} {l : List α} {i : Nat} {a b : α} (h : (l.drop i).take 2 = [a, b]) : l[i]? = some a ∧ l[i + 1]? = some b := by
  have h0 : ((l.drop i).take 2)[0]? = some a := by rw [h]; rfl
  have h1 : ((l.drop i).take 2)[1]? = some b := by rw [h]; rfl
  rw [List.getElem?_take, List.getElem?_drop] at h0 h1
  simp at h0 h1
  exact ⟨h0, h1⟩
set_option maxRecDepth 8000 in
theorem kinds_of {H : Type} {enc : TypeId × Value → H} {W : World} {base : Nat} {spare : Nat → Bool} {held : Bool} {fuel : Nat} {cs : List Value} {p : List MemPlace}
    (hd : DataW.trod enc Tryd.prog W base spare held fuel 87 cs = some (Rows.laid_hindsight_event_kinds, p)) : ∀ k, k < 23 → cs[k * 2]? = some (.string (kname k)) ∧ cs[k * 2 + 1]? = some (.int .i64 (ksort k : Int)) := by
  obtain ⟨xs, m, rfl, hx, _, hn, hel⟩ := DataW.trod_array Tryd.underlying87 hd
  intro k hk
  have he := hel k hk
  rw [kcellsT] at he
  have hxk : xs[k]? = some xs[k] := List.getElem?_eq_getElem (by omega)
  rw [hxk] at he
  obtain ⟨ys, m', rfl, hy, hl, hn2, hf⟩ := DataW.trod_struct Tryd.underlying86 he
  rw [kcellsT] at hl
  obtain ⟨u, v, huv⟩ := two_of hl
  have f0 := hf 0 _ rfl
  have f1 := hf 1 _ rfl
  obtain ⟨y0, y1, rfl⟩ := two_of hn2
  rw [huv] at f0 f1
  simp [kcells9, kcells3] at f0 f1
  obtain ⟨s, e0, z0, _⟩ := DataW.trod_string Tryd.underlying9 f0
  obtain ⟨i, e1, z1, _⟩ := DataW.trod_int Tryd.underlying3 f1
  simp at e0 e1
  subst e0 e1
  obtain ⟨g0, g1⟩ := drop_two huv
  have hdat : (xs.map (·.1))[k]? = some (.agg [.lit (.string (kname k).data.toList), .lit (.int .i64 (ksort k : Int))]) := by
    rw [kinds_data] at hx
    have := (Prod.mk.inj hx).1
    injection this with this
    rw [← this]
    simp [hk]
  rw [List.getElem?_map, hxk, Option.map_some, hy, z0, z1] at hdat
  simp only [List.map_cons, List.map_nil, Option.some.injEq, DataW.agg.injEq, List.cons.injEq, DataW.lit.injEq, Lit.string.injEq, Lit.int.injEq, true_and, and_true] at hdat
  obtain ⟨d1, d2⟩ := hdat
  refine ⟨by rw [g0]; congr 2; cases s; congr 1; exact Array.toList_inj.1 d1, by rw [g1, d2]⟩
theorem rcellsT : Tryd.prog.cellsOf 88 = 2 := by kernel_rfl
theorem rcellsU : Tryd.prog.cellsOf 22 = 1 := by kernel_rfl
theorem ranges_data {H : Type} : (Rows.laid_hindsight_event_ranges : DataW H) = .agg ((List.range 9).map fun s => .agg [.lit (.int .u64 (rlo s)), .lit (.int .u64 (rhi s))]) := rfl
set_option maxRecDepth 8000 in
theorem ranges_of {H : Type} {enc : TypeId × Value → H} {W : World} {base : Nat} {spare : Nat → Bool} {held : Bool} {fuel : Nat} {cs : List Value} {p : List MemPlace}
    (hd : DataW.trod enc Tryd.prog W base spare held fuel 89 cs = some (Rows.laid_hindsight_event_ranges, p)) : ∀ k, k < 9 → cs[k * 2]? = some (.int .u64 (rlo k)) ∧ cs[k * 2 + 1]? = some (.int .u64 (rhi k)) := by
  obtain ⟨xs, m, rfl, hx, _, hn, hel⟩ := DataW.trod_array Tryd.underlying89 hd
  intro k hk
  have he := hel k hk
  rw [rcellsT] at he
  have hxk : xs[k]? = some xs[k] := List.getElem?_eq_getElem (by omega)
  rw [hxk] at he
  obtain ⟨ys, m', rfl, hy, hl, hn2, hf⟩ := DataW.trod_struct Tryd.underlying88 he
  rw [rcellsT] at hl
  obtain ⟨u, v, huv⟩ := two_of hl
  have f0 := hf 0 _ rfl
  have f1 := hf 1 _ rfl
  obtain ⟨y0, y1, rfl⟩ := two_of hn2
  rw [huv] at f0 f1
  simp [rcellsU] at f0 f1
  obtain ⟨j, e0, z0, _⟩ := DataW.trod_int Tryd.underlying22 f0
  obtain ⟨i, e1, z1, _⟩ := DataW.trod_int Tryd.underlying22 f1
  simp at e0 e1
  subst e0 e1
  obtain ⟨g0, g1⟩ := drop_two huv
  have hdat : (xs.map (·.1))[k]? = some (.agg [.lit (.int .u64 (rlo k)), .lit (.int .u64 (rhi k))]) := by
    rw [ranges_data] at hx
    have := (Prod.mk.inj hx).1
    injection this with this
    rw [← this]
    simp [hk]
  rw [List.getElem?_map, hxk, Option.map_some, hy, z0, z1] at hdat
  simp only [List.map_cons, List.map_nil, Option.some.injEq, DataW.agg.injEq, List.cons.injEq, DataW.lit.injEq, Lit.int.injEq, true_and, and_true] at hdat
  obtain ⟨d1, d2⟩ := hdat
  exact ⟨by rw [g0, d1], by rw [g1, d2]⟩
theorem gKinds : Tryd.prog.globalNamed "hindsight/event.kinds" = some 1 := by kernel_rfl
theorem tKinds : (Tryd.prog.globals[1]?).map (·.type) = some 87 := by kernel_rfl
theorem gRanges : Tryd.prog.globalNamed "hindsight/event.ranges" = some 2 := by kernel_rfl
theorem tRanges : (Tryd.prog.globals[2]?).map (·.type) = some 89 := by kernel_rfl
abbrev laid1 : List (String × DataW Unit) := [("hindsight/event.kinds", Rows.laid_hindsight_event_kinds)]
abbrev laid2 : List (String × DataW Unit) := [("hindsight/event.kinds", Rows.laid_hindsight_event_kinds), ("hindsight/event.ranges", Rows.laid_hindsight_event_ranges)]
theorem kr_of_laid {W : World} (h : laidMetH Tryd.prog laid2 W) : Kr W := by
  rw [MakeChecks.laidMetH_plain _ _ _ (by kernel_rfl)] at h
  obtain ⟨ps, ⟨g0, t0, cs0, f0, p0, q0, hg0, ht0, hv0, hd0, ⟨g1, t1, cs1, f1, p1, q1, hg1, ht1, hv1, hd1, _, _⟩, _⟩, _, _⟩ := h
  obtain rfl := Option.some.inj (gKinds.symm.trans hg0)
  obtain rfl := Option.some.inj (gRanges.symm.trans hg1)
  obtain rfl := Option.some.inj (tKinds.symm.trans ht0)
  obtain rfl := Option.some.inj (tRanges.symm.trans ht1)
  have K := kinds_of hd0
  have R := ranges_of hd1
  refine ⟨⟨fun k hk => ?_, fun k hk => ?_⟩, fun k hk => ?_, fun k hk => ?_⟩
  · rw [World.var?_cell hg0 hv0]; simpa using (K k hk).1
  · rw [World.var?_cell hg0 hv0]; simpa using (K k hk).2
  · rw [World.var?_cell hg1 hv1]; simpa using (R k hk).1
  · rw [World.var?_cell hg1 hv1]; simpa using (R k hk).2
end Go.Proofs.YtpnacioliccglaaDoor.E6
/-
  EventNames.
-/
namespace Go.Proofs.YtpnacioliccglaaDoor.E6
open Go.RowKit Go.Maps Go.Shelf
def nkl : List ByteArray := (List.range 22).map fun i => kname (i + 1)
theorem nkl_get {i : Nat} (h : i < 22) : nkl.getD i ByteArray.empty = kname (i + 1) := by
  unfold nkl; rw [List.getD_eq_getElem?_getD]; simp [h]
theorem nkl_cells : nkl.map Value.string = [.string ⟨#[114, 101, 97, 100]⟩, .string ⟨#[119, 114, 105, 116, 101]⟩, .string ⟨#[97, 99, 113, 117, 105, 114, 101]⟩, .string ⟨#[114, 101, 108, 101, 97, 115, 101]⟩, .string ⟨#[114, 97, 99, 113, 117, 105, 114, 101]⟩, .string ⟨#[114, 114, 101, 108, 101, 97, 115, 101]⟩, .string ⟨#[102, 111, 114, 107]⟩, .string ⟨#[106, 111, 105, 110]⟩, .string ⟨#[109, 97, 107, 101]⟩, .string ⟨#[115, 101, 110, 100]⟩, .string ⟨#[97, 99, 107]⟩, .string ⟨#[114, 101, 99, 118]⟩, .string ⟨#[99, 108, 111, 115, 101]⟩, .string ⟨#[97, 100, 100]⟩, .string ⟨#[119, 97, 105, 116]⟩, .string ⟨#[111, 110, 99, 101]⟩, .string ⟨#[108, 111, 97, 100]⟩, .string ⟨#[115, 116, 111, 114, 101]⟩, .string ⟨#[115, 119, 97, 112]⟩, .string ⟨#[97, 108, 108, 111, 99]⟩, .string ⟨#[102, 114, 101, 101]⟩, .string ⟨#[109, 97, 114, 107]⟩] := rfl
theorem srow_lit {w : World} {b n : Nat} {L : List ByteArray} {cs : Array Value} (hr : w.heap[b]? = some (.cells cs 9 (0, 0))) (hc : cs.toList = L.map Value.string) (hl : L.length = n) : SRow w (some ⟨b, 0, none⟩) n L := by
  refine ⟨hl, .inr ⟨b, 0, rfl, fun i hi => ?_⟩⟩
  rw [Nat.zero_add, cell_of_row w b i _ 9 (0, 0) hr, ← Array.getElem?_toList, hc, List.getElem?_map, getD_get (by omega)]
  rfl
theorem below_one (w : World) (ob : Obj) : Below w.heap.size w (w.alloc ob) := (Below.refl _ w).alloc (Nat.le_refl _) _
set_option maxRecDepth 8000 in
theorem names_any (w : World) : Calls Tryd.prog 64 #[] w fun e w' => e = .returned (.slice (some ⟨w.heap.size, 0, none⟩) 22 22) ∧ SRow w' (some ⟨w.heap.size, 0, none⟩) 22 nkl ∧ Below w.heap.size w w' := by
  go_enter Tryd.func64, Tryd.ntmps64
  go_wp2
  go_ret
  exact ⟨rfl, srow_lit (heap_alloc_new w _) nkl_cells.symm (by decide), below_one w _⟩
set_option maxRecDepth 4000 in
theorem rname_any (k : Int) (w : World) : Calls Tryd.prog 41 #[.int .i64 k] w fun e w' => e = .returned (nameV k) ∧ Below w.heap.size w w' := by
  have HN : Hid _ := hide (names_any w)
  by_cases hk : 1 ≤ k ∧ k ≤ 22
  · have HV : Hid (nameV k = .tuple #[.string (kname k.toNat), .int .i64 0]) := hide (by rw [nameV, if_pos hk])
    obtain ⟨m, rfl⟩ : ∃ m : Nat, k = (m : Int) + 1 := ⟨(k - 1).toNat, by omega⟩
    have hm : m < 22 := by omega
    have hmI : (m : Int) < 22 := by omega
    have e1 : (m : Int) + 1 - 1 = m := by omega
    have e3 : IntKind.i64.wrap ((m : Int) + 1 - 1) = m := by rw [IntKind.wrap_i64]; omega
    have e2 : ((m : Int) + 1).toNat = m + 1 := by omega
    rw [e2] at HV
    generalize nameV ((m : Int) + 1) = V at HV ⊢
    clear hk
    go_enter Tryd.func41, Tryd.ntmps41
    go_wp2_with fail
    refine HN.out.mono ?_
    rintro e w' ⟨rfl, hs, hb⟩
    have HB : Hid _ := hide hb
    obtain ⟨b, off, he, hc⟩ := hs.at hm
    cases he
    rw [nkl_get hm, Nat.zero_add] at hc
    generalize kname (m + 1) = z at hc HV
    clear hb hs
    go_wp2
    go_ret2
    exact ⟨by rw [HV.out]; rfl, HB.out⟩
  · have HV : Hid (nameV k = .tuple #[.string ByteArray.empty, .int .i64 60]) := hide (by rw [nameV, if_neg hk])
    generalize nameV k = V at HV ⊢
    by_cases h1 : k < 1
    · clear hk
      go_enter Tryd.func41, Tryd.ntmps41
      go_wp2_with fail
      refine HN.out.mono ?_
      rintro e w' ⟨rfl, hs, hb⟩
      have HB : Hid _ := hide hb
      clear hs hb
      go_wp2
      go_ret2
      exact ⟨by rw [HV.out]; rfl, HB.out⟩
    · have d1 : decide (k < 1) = false := decide_eq_false h1
      have d2 : decide ((22 : Int) < k) = true := by simp; omega
      clear hk h1
      go_enter Tryd.func41, Tryd.ntmps41
      go_wp2_with fail
      refine HN.out.mono ?_
      rintro e w' ⟨rfl, hs, hb⟩
      have HB : Hid _ := hide hb
      clear hs hb
      go_wp2
      go_ret2
      exact ⟨by rw [HV.out]; rfl, HB.out⟩
end Go.Proofs.YtpnacioliccglaaDoor.E6
