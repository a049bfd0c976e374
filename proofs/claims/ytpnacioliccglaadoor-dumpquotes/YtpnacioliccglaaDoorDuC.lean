/-
  Words: the program's.
-/
import Derived.Test.YtpnacioliccglaaDoorDuB
import Derived.Laws.RangeAny
import Derived.Laws.RangeString
namespace Go.Proofs.YtpnacioliccglaaDoor
open Go.RowKit Go.Maps Go.Shelf
set_option linter.unusedVariables false
theorem iterPos_ofU {w : World} {k : Nat} {s : ByteArray} {p : Nat} (h : w.heap[k]? = some (.stringIter s p)) : w.iterPos k = p := by simp [World.iterPos, h]
theorem Fr.iter {B k : Nat} {a b : World} {s : ByteArray} {p : Nat} (h : Fr B a b) (hB : B ≤ k) (hk : a.heap.size ≤ k) : Fr B a (b.iterAt k s p) :=
  ⟨Lib.below_iterAt h.bel hB s p, fun j o hj hb ho => by
    have h1 : j < a.heap.size := (Array.getElem?_eq_some_iff.1 hj).1
    rw [Lib.iterAt_other _ _ _ _ _ (by omega)]
    exact h.oth j o hj hb ho⟩
theorem Ou.iter {B k p : Nat} {w : World} {v : Value} {L : List UInt8} {s : ByteArray} {q : Nat} (h : Ou w B v L) (hk : w.heap[k]? = some (.stringIter s q)) : Ou (w.iterAt k s p) B v L := by
  refine ⟨h.1, ?_⟩
  rcases h.2 with h1 | ⟨g, cap, cur, hv, h0, hh, h1⟩
  · exact .inl h1
  · refine .inr ⟨g, cap, cur, hv, h0, ?_, h1⟩
    rw [Lib.iterAt_other _ _ _ _ _ (fun e => by rw [e, hk] at hh; cases hh)]
    exact hh
theorem dec_le (s : ByteArray) (i : Nat) : (Utf8.decode s i).1 ≤ 1114111 := by
  have h0 := bA_lt s i
  have h1 := bA_lt s (i + 1)
  have h2 := bA_lt s (i + 2)
  have h3 := bA_lt s (i + 3)
  rcases wlc s i with ⟨hw, a1, hd, a2⟩ | ⟨hw, a1, hd⟩ | ⟨hw, a1, a2, a3, a4, a5, hd⟩ | ⟨hw, a1, a2, a3, a4, a5, a6, a7, a8, a9, hd⟩ | ⟨hw, a1, a2, a3, a4, a5, a6, a7, a8, a9, b1, b2, hd⟩
  all_goals
    rw [hd]
    dsimp only
    omega
theorem dgF_all (s : ByteArray) : ∀ j, j ≤ s.size → dgF s j = ((s.data.toList.take j).map fun b => hxB b.toNat).flatten
  | 0, _ => by simp [dgF]
  | j + 1, h => by
    have hj : j < s.size := h
    have hl : j < s.data.toList.length := by rw [Array.length_toList]; exact hj
    have h1 := lst_at hj
    rw [List.getElem?_eq_getElem hl] at h1
    rw [dgF, dgF_all s j (Nat.le_of_lt hj), List.take_succ_eq_append_getElem hl, List.map_append, List.flatten_append, Option.some.inj h1]
    simp [bA]
theorem dgF_fin (s : ByteArray) : dgF s s.size = (s.data.toList.map fun b => hxB b.toNat).flatten := by
  have e : s.size = s.data.toList.length := (Array.length_toList).symm
  rw [dgF_all s s.size (Nat.le_refl _)]
  conv => lhs; rw [e, List.take_length]
theorem one_list {s : ByteArray} {i : Nat} (h : i < s.size) : (s.extract i (i + 1)).data.toList = [s.get! i] := by
  have h1 : (s.extract i (i + 1)).data = s.data.extract i (i + 1) := by simp
  have hl : i < s.data.toList.length := by rw [Array.length_toList]; exact h
  have h2 := lst_at h
  rw [List.getElem?_eq_getElem hl] at h2
  rw [h1, Array.toList_extract, List.extract_eq_take_drop, List.drop_eq_getElem_cons hl, Option.some.inj h2, show i + 1 - i = 1 by omega]
  rfl
theorem dig_one {s : ByteArray} {i : Nat} (h : i < s.size) : dgF (s.extract i (i + 1)) (s.extract i (i + 1)).size = hxB (bA s i) := by
  rw [dgF_fin, one_list h]
  simp [bA]
theorem size_one {s : ByteArray} {i : Nat} (h : i < s.size) : (s.extract i (i + 1)).size = 1 := by
  have := one_list h
  have e : (s.extract i (i + 1)).size = (s.extract i (i + 1)).data.toList.length := (Array.length_toList).symm
  rw [e, this]
  rfl
theorem size_enc (r : Int) : (Utf8.encode r).size ≤ 4 := by
  unfold Utf8.encode
  dsimp only
  repeat' split
  all_goals (show Array.size _ ≤ 4; simp)
/-- What the program has to write for a rune. -/
structure DvC (s : ByteArray) (i r : Nat) (X : List UInt8) : Prop where
  e92 : r = 92 → X = [92, 92]
  e34 : r = 34 → X = [92, 34]
  e10 : r = 10 → X = [92, 110]
  e13 : r = 13 → X = [92, 114]
  e9 : r = 9 → X = [92, 116]
  st : r ≠ 92 → r ≠ 34 → r ≠ 10 → r ≠ 13 → r ≠ 9 → (decide (r = 65533) && !badB s i) = true → X = dgF (s.extract i (i + 1)) (s.extract i (i + 1)).size
  sh : r ≠ 92 → r ≠ 34 → r ≠ 10 → r ≠ 13 → r ≠ 9 → (decide (r = 65533) && !badB s i) = false → ((32 ≤ r ∧ r ≤ 126) ∨ 160 ≤ r) → X = Lib.encodeRune (r : Int)
  df : r ≠ 92 → r ≠ 34 → r ≠ 10 → r ≠ 13 → r ≠ 9 → (decide (r = 65533) && !badB s i) = false → ¬ ((32 ≤ r ∧ r ≤ 126) ∨ 160 ≤ r) → X = dgF (Utf8.encode (r : Int)) (Utf8.encode (r : Int)).size
theorem dvc {s : ByteArray} {i : Nat} (h : i < s.size) (r : Nat) : DvC s i r (dv s i r) := by
  have hst : ((decide (r = 65533) && !badB s i) = true) ↔ (r = 65533 ∧ ¬ (i + 2 < s.size ∧ bA s i = 239 ∧ bA s (i + 1) = 191 ∧ bA s (i + 2) = 189)) := by
    rw [Bool.and_eq_true, decide_eq_true_eq, Bool.not_eq_true', ← badB_iff, Bool.not_eq_true]
  unfold dv
  refine ⟨fun e => ?_, fun e => ?_, fun e => ?_, fun e => ?_, fun e => ?_, fun a b c d e f => ?_, fun a b c d e f g => ?_, fun a b c d e f g => ?_⟩
  · subst e; rfl
  · subst e; rfl
  · subst e; rfl
  · subst e; rfl
  · subst e; rfl
  · rw [if_neg (by omega), if_neg c, if_neg d, if_neg e, if_pos (hst.1 f), dig_one h]
  · rw [if_neg (by omega), if_neg c, if_neg d, if_neg e, if_neg (fun q => by rw [hst.2 q] at f; cases f), if_pos g]
  · rw [if_neg (by omega), if_neg c, if_neg d, if_neg e, if_neg (fun q => by rw [hst.2 q] at f; cases f), if_neg g, dgF_fin]
set_option maxRecDepth 8000 in
set_option maxHeartbeats 4000000 in
theorem word_any (B : Nat) (v : Value) (L : List UInt8) (s : ByteArray) (w : World) (hown : Ou w B v L) (hb : L.length + 4 * s.size + 6 ≤ 140737488355328) (hB : B ≤ w.heap.size) :
    Calls Tryd.prog 23 #[v, .string s] w fun e w' => ∃ v', e = .returned v' ∧ Ou w' B v' (L ++ wrd s) ∧ Fr B w w' := by
  have HO := hide hown
  have HB := hide hb
  have HBd := hide hB
  obtain ⟨n, hn⟩ : ∃ n, s.size = n := ⟨_, rfl⟩
  have HN := hide hn
  have hnI : (n : Int) ≤ 9223372036854775806 := by omega
  have HQ0 : Hid (wrd s = [34] ++ qtF s n 0 ++ [34]) := hide (by rw [← hn]; rfl)
  rw [hn] at HB
  have HZ := hide (qt_len s)
  rw [hn] at HZ
  clear hown hb hB hn
  go_enter Tryd.func23, Tryd.ntmps23
  go_wp2_with (at_builtin; go_loud (refine append_u _ rfl _ _ rfl B _ L rfl (ou_fr HO.out) w.heap.size 1 1 _ [34] rfl (heap_new _ _) rfl rfl (by have := HB.out; omega) (by rw [World.size_alloc]; exact Nat.le_succ_of_le HBd.out) ?_); intro v1 w1 o1 f1)
  have HO1 := hide o1
  have HF1 : Hid (Fr B w w1) := hide (((Fr.refl B w).alloc HBd.out _).trans f1)
  have HK : Hid (w.heap.size ≤ w1.heap.size) := hide HF1.out.size
  clear o1 f1
  go_loopw [0] (fun s0 wr => ∃ pos fuel : Nat, wr.heap[w1.heap.size]? = some (.stringIter s pos) ∧ pos ≤ n ∧ n ≤ pos + fuel ∧ Hid (∃ D, Ou wr B s0 (L ++ [34] ++ D) ∧ D ++ qtF s fuel pos = qtF s n 0 ∧ Fr B w wr)) (fun _ wr => n - wr.iterPos w1.heap.size)
  case atStart => exact ⟨0, n, World.iter_heap w1 s 0, by omega, by omega, hide ⟨[], by rw [List.append_nil]; exact ou_fr HO1.out, rfl, HF1.out.trans ((Fr.refl B w1).alloc (Nat.le_trans HBd.out HK.out) _)⟩⟩
  case round =>
    obtain ⟨pos, fuel, hit, hp0, hpf, HJ⟩ := hrel
    have hpos0 := iterPos_ofU hit
    by_cases hp : pos < n
    · have hps : pos < s.size := by rw [HN.out]; exact hp
      have hnx : ∀ ty, (Instr.next (.pointer (some ⟨w1.heap.size, 0, none⟩)) true ty).run Tryd.prog wr = _ := fun ty => Lib.run_next_any_at wr w1.heap.size s pos ty hit hps
      obtain ⟨fuel, rfl⟩ : ∃ f', fuel = f' + 1 := ⟨fuel - 1, by omega⟩
      have hdv := dv_sg s pos
      have hle := dec_le s pos
      have hin := stp_in hps
      have hst1 := stp_pos s pos
      have HC := dvc hps (Utf8.decode s pos).1
      rw [hdv.1] at HC
      rw [hdv.2] at hnx
      obtain ⟨D, q1, q2, q3⟩ := HJ.out
      have hit2 := Lib.iterAt_heap wr w1.heap.size s pos (pos + stp s pos) hit
      have q1' := q1.iter (p := pos + stp s pos) hit
      have q3' := q3.iter (s := s) (p := pos + stp s pos) (Nat.le_trans HBd.out HK.out) HK.out
      have hlen : (D ++ qtF s (fuel + 1) pos).length ≤ 4 * n := by rw [q2]; have := HZ.out n 0 (Nat.zero_le _); omega
      rw [qtF_on hps] at q2 hlen
      generalize hW1 : wr.iterAt w1.heap.size s (pos + stp s pos) = W1 at hnx hit2 q1' q3'
      obtain ⟨r, hr⟩ : ∃ r, (Utf8.decode s pos).1 = r := ⟨_, rfl⟩
      rw [hr] at hnx HC hle
      obtain ⟨X, hX⟩ : ∃ X, sg s pos = X := ⟨_, rfl⟩
      rw [hX] at HC q2 hlen
      have hposI : (pos : Int) ≤ n := by omega
      have hpos00 : (0 : Int) ≤ pos := by omega
      have hlenX : D.length + X.length ≤ 4 * n := by rw [List.length_append, List.length_append] at hlen; omega
      have HO1 : Hid (Ou W1 B u0 (L ++ [34] ++ D)) := hide q1'
      have HF1 : Hid (Fr B w W1) := hide q3'
      have HIt := hide hit2
      have HSz : Hid (B ≤ W1.heap.size) := hide (Nat.le_trans HBd.out q3'.size)
      have HL4 : Hid ((L ++ [34] ++ D).length + 4 ≤ 140737488355328) := hide (by rw [List.length_append, List.length_append, List.length_singleton]; have := HB.out; omega)
      have HLn : Hid ((L ++ [34] ++ D).length + X.length + 1 ≤ 140737488355328) := hide (by rw [List.length_append, List.length_append, List.length_singleton]; have := HB.out; omega)
      have HNx : Hid (∀ (wz : World) (v2 : Value), Ou wz B v2 (L ++ [34] ++ D ++ X) → Fr B W1 wz → ∃ pos' fuel' : Nat, wz.heap[w1.heap.size]? = some (.stringIter s pos') ∧ pos' ≤ n ∧ n ≤ pos' + fuel' ∧ Hid (∃ D, Ou wz B v2 (L ++ [34] ++ D) ∧ D ++ qtF s fuel' pos' = qtF s n 0 ∧ Fr B w wz)) := hide (fun wz v2 h1 h2 =>
        ⟨pos + stp s pos, fuel, h2.obj HIt.out (fun c fz e => by cases e), by have := HN.out; omega, by omega, hide ⟨D ++ X, by rw [← List.append_assoc]; exact h1, by rw [← q2, List.append_assoc], HF1.out.trans h2⟩⟩)
      have HMe : Hid (∀ wz : World, Fr B W1 wz → wz.iterPos w1.heap.size = pos + stp s pos) := hide (fun wz h2 => iterPos_ofU (h2.obj HIt.out (fun c fz e => by cases e)))
      have hI0 : (0 : Int) ≤ (r : Int) := by omega
      have HCc := hide HC
      have HPs := hide hps
      have HLe := hide hle
      clear hdv hin q1 q2 q3 q1' q3' hit hit2 hW1 hr hX hlen hlenX HC HJ hps hle
      by_cases c92 : r = 92
      · subst c92
        have hX := HCc.out.e92 rfl
        subst hX
        go_wp2_with (at_builtin; go_loud (refine append_u _ rfl _ _ rfl B _ (L ++ [34] ++ D) rfl (ou_fr HO1.out) W1.heap.size 2 2 _ [92, 92] rfl (heap_new _ _) rfl rfl (by have := HLn.out; simp only [List.length_cons, List.length_nil] at this; omega) (by rw [World.size_alloc]; exact Nat.le_succ_of_le HSz.out) ?_); intro v3 w3 o3 f3; have HN2 := hide (HNx.out _ _ o3 (((Fr.refl B W1).alloc HSz.out _).trans f3)); have HM2 := hide (HMe.out _ (((Fr.refl B W1).alloc HSz.out _).trans f3)); clear o3 f3)
        exact ⟨HN2.out, by rw [HM2.out, hpos0]; omega⟩
      by_cases c34 : r = 34
      · subst c34
        have hX := HCc.out.e34 rfl
        subst hX
        go_wp2_with (at_builtin; go_loud (refine append_u _ rfl _ _ rfl B _ (L ++ [34] ++ D) rfl (ou_fr HO1.out) W1.heap.size 2 2 _ [92, 34] rfl (heap_new _ _) rfl rfl (by have := HLn.out; simp only [List.length_cons, List.length_nil] at this; omega) (by rw [World.size_alloc]; exact Nat.le_succ_of_le HSz.out) ?_); intro v3 w3 o3 f3; have HN2 := hide (HNx.out _ _ o3 (((Fr.refl B W1).alloc HSz.out _).trans f3)); have HM2 := hide (HMe.out _ (((Fr.refl B W1).alloc HSz.out _).trans f3)); clear o3 f3)
        exact ⟨HN2.out, by rw [HM2.out, hpos0]; omega⟩
      by_cases c10 : r = 10
      · subst c10
        have hX := HCc.out.e10 rfl
        subst hX
        go_wp2_with (at_builtin; go_loud (refine append_s _ rfl _ _ rfl B _ (L ++ [34] ++ D) rfl HO1.out _ rfl (by have := HLn.out; simp only [List.length_cons, List.length_nil] at this; show _ + 2 ≤ _; omega) HSz.out ?_); intro v3 w3 o3 f3; have HN2 := hide (HNx.out _ _ o3 f3); have HM2 := hide (HMe.out _ f3); clear o3 f3)
        exact ⟨HN2.out, by rw [HM2.out, hpos0]; omega⟩
      by_cases c13 : r = 13
      · subst c13
        have hX := HCc.out.e13 rfl
        subst hX
        go_wp2_with (at_builtin; go_loud (refine append_s _ rfl _ _ rfl B _ (L ++ [34] ++ D) rfl HO1.out _ rfl (by have := HLn.out; simp only [List.length_cons, List.length_nil] at this; show _ + 2 ≤ _; omega) HSz.out ?_); intro v3 w3 o3 f3; have HN2 := hide (HNx.out _ _ o3 f3); have HM2 := hide (HMe.out _ f3); clear o3 f3)
        exact ⟨HN2.out, by rw [HM2.out, hpos0]; omega⟩
      by_cases c9 : r = 9
      · subst c9
        have hX := HCc.out.e9 rfl
        subst hX
        go_wp2_with (at_builtin; go_loud (refine append_s _ rfl _ _ rfl B _ (L ++ [34] ++ D) rfl HO1.out _ rfl (by have := HLn.out; simp only [List.length_cons, List.length_nil] at this; show _ + 2 ≤ _; omega) HSz.out ?_); intro v3 w3 o3 f3; have HN2 := hide (HNx.out _ _ o3 f3); have HM2 := hide (HMe.out _ f3); clear o3 f3)
        exact ⟨HN2.out, by rw [HM2.out, hpos0]; omega⟩
      have hb92 : ((r : Int) == 92) = false := by rw [beq_eq_false_iff_ne]; omega
      have hb34 : ((r : Int) == 34) = false := by rw [beq_eq_false_iff_ne]; omega
      have hb10 : ((r : Int) == 10) = false := by rw [beq_eq_false_iff_ne]; omega
      have hb13 : ((r : Int) == 13) = false := by rw [beq_eq_false_iff_ne]; omega
      have hb9 : ((r : Int) == 9) = false := by rw [beq_eq_false_iff_ne]; omega
      have HSt := hide (HCc.out.st c92 c34 c10 c13 c9)
      have HSh := hide (HCc.out.sh c92 c34 c10 c13 c9)
      have HDf := hide (HCc.out.df c92 c34 c10 c13 c9)
      have HS := hide (stray_any r s pos W1 HLe.out HPs.out)
      unfold frm at HS
      have HSw := hide (fun X => shown_any r X HLe.out)
      obtain ⟨T, hT⟩ : ∃ T, (decide (r = 65533) && !badB s pos) = T := ⟨_, rfl⟩
      rw [hT] at HSt HSh HDf HS
      clear hT c92 c34 c10 c13 c9 HCc
      have hps2 : pos ≤ s.size := Nat.le_of_lt HPs.out
      have hps3 : pos + 1 ≤ s.size := HPs.out
      have hpn : (pos : Int) + 1 ≤ n := by omega
      go_wp2_with fail
      refine HS.out.mono ?_
      rintro x w2 ⟨rfl, hw2⟩
      obtain rfl : W1 = w2 := hw2.symm
      clear hw2 HS
      cases T with
      | true =>
        have hX := HSt.out (by first | rfl | trivial)
        have HD := hide (dig_any B u0 (L ++ [34] ++ D) (s.extract pos (pos + 1)) W1 HO1.out (by have := HLn.out; rw [hX, dgF_len] at this; omega) HSz.out)
        rw [← hX] at HD
        clear hX HSt HSh HDf HSw
        go_wp2_with fail
        refine HD.out.mono ?_
        rintro x w3 ⟨v3, rfl, o3, f3⟩
        have HN2 := hide (HNx.out _ _ o3 f3)
        have HM2 := hide (HMe.out _ f3)
        clear o3 f3 HD
        go_wp2
        exact ⟨HN2.out, by rw [HM2.out, hpos0]; omega⟩
      | false =>
        have HSw1 := hide (HSw.out W1)
        obtain ⟨U, hU⟩ : ∃ U, decide ((32 ≤ r ∧ r ≤ 126) ∨ 160 ≤ r) = U := ⟨_, rfl⟩
        rw [hU] at HSw1
        have HU := hide hU
        clear HSt HSw hU
        go_wp2_with fail
        refine HSw1.out.mono ?_
        rintro x w2 ⟨rfl, hw2⟩
        obtain rfl : W1 = w2 := hw2.symm
        clear hw2 HSw1
        cases U with
        | true =>
          have hX := HSh.out (by first | rfl | trivial) (of_decide_eq_true HU.out)
          have HD := hide (ar_any B u0 (L ++ [34] ++ D) (r : Int) W1 (by omega) (by have := HLe.out; omega) HO1.out HL4.out HSz.out)
          rw [← hX] at HD
          clear hX HSh HDf HU
          go_wp2_with fail
          refine HD.out.mono ?_
          rintro x w3 ⟨v3, rfl, o3, f3⟩
          have HN2 := hide (HNx.out _ _ o3 f3)
          have HM2 := hide (HMe.out _ f3)
          clear o3 f3 HD
          go_wp2
          exact ⟨HN2.out, by rw [HM2.out, hpos0]; omega⟩
        | false =>
          have hX := HDf.out (by first | rfl | trivial) (of_decide_eq_false HU.out)
          have HD := hide (dig_any B u0 (L ++ [34] ++ D) (Utf8.encode (r : Int)) W1 HO1.out (by have := HLn.out; rw [hX, dgF_len] at this; omega) HSz.out)
          rw [← hX] at HD
          clear hX HSh HDf HU
          go_wp2_with fail
          refine HD.out.mono ?_
          rintro x w3 ⟨v3, rfl, o3, f3⟩
          have HN2 := hide (HNx.out _ _ o3 f3)
          have HM2 := hide (HMe.out _ f3)
          clear o3 f3 HD
          go_wp2
          exact ⟨HN2.out, by rw [HM2.out, hpos0]; omega⟩
    · have hps : ¬ pos < s.size := by rw [HN.out]; exact hp
      have hnx : ∀ ty, (Instr.next (.pointer (some ⟨w1.heap.size, 0, none⟩)) true ty).run Tryd.prog wr = _ := fun ty => Lib.run_next_end_at wr w1.heap.size s pos ty hit hps
      obtain ⟨D, q1, q2, q3⟩ := HJ.out
      rw [qtF_end hps, List.append_nil] at q2
      subst q2
      have HO2 := hide q1
      have HF2 := hide q3
      have HSz : Hid (B ≤ wr.heap.size) := hide (Nat.le_trans HBd.out q3.size)
      have HLn : Hid ((L ++ [34] ++ qtF s n 0).length + 1 ≤ 140737488355328) := hide (by rw [List.length_append, List.length_append, List.length_singleton]; have := HB.out; have := HZ.out n 0 (Nat.zero_le _); omega)
      clear q1 q3 hps HJ hit
      go_wp2_with (at_builtin; go_loud (refine append_u _ rfl _ _ rfl B _ (L ++ [34] ++ qtF s n 0) rfl (ou_fr HO2.out) wr.heap.size 1 1 _ [34] rfl (heap_new _ _) rfl rfl HLn.out (by rw [World.size_alloc]; exact Nat.le_succ_of_le HSz.out) ?_); intro v3 w3 o3 f3; have HF3 := hide (HF2.out.trans (((Fr.refl B wr).alloc HSz.out _).trans f3)); have HO3 := hide o3; clear o3 f3)
      go_ret
      exact ⟨_, rfl, by rw [HQ0.out, ← List.append_assoc, ← List.append_assoc]; exact HO3.out, HF3.out⟩
end Go.Proofs.YtpnacioliccglaaDoor
