/-
  ClockCodes: the walk.
-/
import Derived.Test.YtajkenbcndmjpabClX
import Derived.Test.YtajkenbcndmjpabClQ
import Derived.Lib.AppendStr
import Derived.Laws.BytesArg
namespace Go.Proofs.Ytajkenbcndmjpab
open Go.RowKit
open Go.Proofs.Ytajkenbcndmjpab.W1 (Row)
def sBeh : ByteArray := ⟨#[98, 101, 104, 105, 110, 100, 32, 105, 116]⟩
def beh : List Int := [98, 101, 104, 105, 110, 100, 32, 105, 116]
theorem strCells_beh : Lib.strCells sBeh = beh.map (Value.int .u8) := by rfl
theorem strOf_beh : strOfNums beh = sBeh := by rfl
theorem beh_list : (sBeh.toList == [98, 101, 104, 105, 110, 100, 32, 105, 116]) = true := by rw [ByteArray.toList_eq]; rfl
theorem beh_u8 : u8s beh := by intro z hz; simp [beh] at hz; omega
theorem decC_len {zs : List Int} (hu : ∀ i : Nat, 0 ≤ zs[i]?.getD 0 ∧ zs[i]?.getD 0 ≤ 255) : ((decC zs).1.length : Int) ≤ 8796093022208 := by
  by_cases hE : (decC zs).2 = 0
  · have hD := decC_inv hu (c := (decC zs).1) (by rw [← hE])
    have := gd_len0 hD.1
    omega
  · rw [decC_err hE]; simp
/-- Bytes with a text behind them. -/
structure IB (w : World) (base g cc : Nat) (zs : List Int) : Prop where
  own : Own layB 5 w base (.slice (some ⟨g, 0, none⟩) (zs.length + 9) cc) (zs ++ beh)
theorem IB.below {w w' : World} {base g cc : Nat} {zs : List Int} (h : IB w base g cc zs) (hb : Below w.heap.size w w') : IB w' base g cc zs := ⟨h.own.below hb⟩
theorem IB.row {w : World} {base g cc : Nat} {zs : List Int} (h : IB w base g cc zs) : TRow layB w (some ⟨g, 0, none⟩) (zs.length + 9) (zs ++ beh) := h.own.row (by rw [List.length_append]; rfl)
theorem IB.bv {w : World} {base g cc : Nat} {zs : List Int} (h : IB w base g cc zs) (hu : u8s zs) (hl : (zs.length : Int) ≤ 140737488351232) : BV w (.slice (some ⟨g, 0, none⟩) zs.length cc) zs := by
  have h1 := h.row.cut zs.length (by omega)
  rw [List.take_left] at h1
  exact ⟨_, _, _, rfl, row_b h1 hu, by omega⟩
theorem IB.cap {w : World} {base g cc : Nat} {zs : List Int} (h : IB w base g cc zs) : zs.length + 9 ≤ cc := by
  have hl : (zs ++ beh).length = zs.length + 9 := by rw [List.length_append]; rfl
  obtain ⟨g', c', hv, _, _, hc⟩ := h.own.frm (by omega)
  rw [hl] at hv hc
  cases hv
  exact hc
theorem IB.conv {w : World} {base g cc : Nat} {zs : List Int} (h : IB w base g cc zs) (c2 : Nat) : (convert 23 9 (.slice (some ⟨g, zs.length, none⟩) 9 c2)).run Try.prog w = .ok (.string sBeh) w := by
  have h1 := h.row.drop zs.length (by omega)
  rw [List.drop_left, Nat.zero_add, Nat.add_sub_cancel_left] at h1
  have h2 := row_b h1 beh_u8
  obtain ⟨b, off, e, hc⟩ := h2.cells.resolve_left (by decide)
  injection e with e
  injection e with e1 e2
  have e3 : zs.length = off := by simpa [layB] using e2
  subst e1
  rw [e3, run_convert_bytes_arg (P := Try.prog) w 23 5 Try.underlying23 Try.underlying5 g off 9 c2 beh rfl hc 9 Try.underlying9, strOf_beh]
theorem own_bl {w : World} {base n : Nat} {v : Value} {zs : List Int} (h : Own layB 5 w base v zs) (hn : zs.length = n) : w.ownsRow base 5 1 v n (zs.map (Value.int .u8)) := by
  unfold Own at h
  rw [layB_fl, hn] at h
  exact h
theorem ib_of {w : World} {base n : Nat} {v : Value} {zs : List Int} (h : w.ownsRow base 5 1 v (n + 9) (zs.map (Value.int .u8) ++ Lib.strCells sBeh)) (hn : zs.length = n) : ∃ g cc, v = .slice (some ⟨g, 0, none⟩) (n + 9) cc ∧ IB w base g cc zs := by
  subst hn
  have hl : (zs ++ beh).length = zs.length + 9 := by rw [List.length_append]; rfl
  have h1 : Own layB 5 w base v (zs ++ beh) := by
    apply own_b
    rw [hl, List.map_append, ← strCells_beh]
    exact h
  obtain ⟨g, cc, hv, _, _, _⟩ := h1.frm (by omega)
  rw [hl] at hv
  subst hv
  exact ⟨g, cc, rfl, ⟨h1⟩⟩
theorem bv_nil (w : World) : BV w (.slice none 0 0) [] := ⟨none, 0, 0, rfl, W1.Row.empty _ _, by simp⟩
set_option maxRecDepth 100000 in
set_option maxHeartbeats 8000000 in
theorem codes_ok {w : World} {v : Value} {L : List Tk} {zs : List Int} {a : Option Addr} {n c : Nat} (h : CL w v L) (hl : L.length * 16 ≤ 140737488351232) (hf : fits L) (hb1 : TRow layB w a n zs) (hu : u8s zs) (hn : n * 1 ≤ 140737488351232) (h0 : a = none → n = 0 ∧ c = 0) (hg : gd 0 L = true) : Calls Try.prog 3 #[v, .slice a n c] w fun e w' => e = .returned (.bool true) ∧ Below w.heap.size w w' := by
  have HC := hide h
  have HL := hide hl
  have HF := hide hf
  have HG := hide hg
  have HRb := hide hb1
  have HBv : Hid (BV w (.slice a n c) zs) := hide ⟨_, _, _, rfl, row_b hb1 hu, by omega⟩
  have HU := hide hu
  have HNb := hide hn
  have H0 := hide h0
  have hzl := hb1.len
  have hnI : (n : Int) ≤ 140737488351232 := by omega
  have HZL := hide hzl
  have HB := hide (Below.refl w.heap.size w)
  obtain ⟨i0, hi, hz0, hz1, hz2⟩ := info_parts Try.infoB
  have hsz : sBeh.size = 9 := rfl
  have HSz := hide hsz
  have HDl := hide (decC_len HBv.out.u8)
  obtain ⟨D, hD⟩ : ∃ D, (decC zs).1 = D := ⟨_, rfl⟩
  obtain ⟨er, her⟩ : ∃ er, (decC zs).2 = er := ⟨_, rfl⟩
  have HD := hide hD
  have HEr := hide her
  clear h hl hf hb1 hu hn h0 hg hzl hsz hD her
  go_enter Try.func3, Try.ntmps3
  go_wp2_with fail
  refine (croomyB_any HC.out HL.out).mono ?_
  rintro e w9 ⟨x1, rfl, hr, hb⟩
  replace HC := hide (HC.out.below hb)
  replace HBv := hide (HBv.out.below hb)
  replace HB := hide (Below.on HB.out hb)
  have HRm := hide hr
  clear hr
  clear hb
  go_wp2_with fail
  refine (enc_ok ⟨HRm.out.cl, HG.out⟩ HF.out).mono ?_
  rintro e w9 ⟨x2, rfl, o2, hb⟩
  replace HC := hide (HC.out.below hb)
  replace HBv := hide (HBv.out.below hb)
  replace HRm := hide (HRm.out.below hb)
  replace HB := hide (Below.on HB.out hb)
  have HX2 := hide (bv_own o2 (u8s_encC _) (by have := encC_big HG.out HF.out; omega))
  clear o2
  clear hb
  go_wp2_with fail
  refine (renc_ok ⟨HC.out, HG.out⟩ HF.out).mono ?_
  rintro e w9 ⟨x3, rfl, o3, hb⟩
  replace HC := hide (HC.out.below hb)
  replace HBv := hide (HBv.out.below hb)
  replace HRm := hide (HRm.out.below hb)
  replace HX2 := hide (HX2.out.below hb)
  replace HB := hide (Below.on HB.out hb)
  have HX3 := hide (bv_own o3 (u8s_encC _) (by have := encC_big HG.out HF.out; omega))
  clear o3
  clear hb
  go_wp2_with (at_builtin; refine append_lay layB _ 23 5 i0 _ 1 Try.underlying23 hi hz0 hz1 hz2 rfl rfl (.tmp 27) (.tmp 28) rfl w9.heap.size (.slice none 0 0) [] rfl (Own.nil _ _ _ _) a n c zs rfl (HRb.out.below HB.out) H0.out ?b1 ?b2 (Nat.le_refl _) ?_)
  case b1 => unfold maxLen; have := HNb.out; simp; omega
  case b2 => have := HNb.out; simp; omega
  intro v4 w4 o4 g4 l4
  have hb4 : Below w9.heap.size w9 w4 := (Below.refl _ _).grown g4 (Nat.le_refl _) (fun q hq => by cases hq)
  have HO4 : Hid (w4.ownsRow w9.heap.size 5 1 v4 n (zs.map (Value.int .u8))) := hide (own_bl (by simpa using o4) HZL.out)
  have HB4 := hide hb4
  clear o4 g4 l4 hb4
  go_wp2_with (at_builtin; refine Lib.wpList_append_own_string _ rfl (.tmp 30) (.const (.string sBeh)) 23 9 rfl w9.heap.size 5 i0 Try.underlying23 Try.underlying9 hi hz0 hz1 hz2 v4 n _ rfl HO4.out sBeh rfl ?b1 ?b2 HB4.out.size ?_)
  case b1 => rw [HSz.out]; unfold maxLen; omega
  case b2 => rw [HSz.out]; omega
  intro v5 w5 o5 g5 l5
  have hb : Below w9.heap.size w9 w5 := HB4.out.grown g5 HB4.out.size (fun q hq => (HO4.out.lt q hq).1)
  rw [HSz.out] at o5
  obtain ⟨g, cc, hv5, hib⟩ := ib_of o5 HZL.out
  subst hv5
  have hcc := hib.cap
  rw [HZL.out] at hcc
  have hccI : (n : Int) ≤ cc := by omega
  have hcn : ¬ cc = n := by omega
  have HI := hide hib
  replace HC := hide (HC.out.below hb)
  replace HBv := hide (HBv.out.below hb)
  replace HRm := hide (HRm.out.below hb)
  replace HX2 := hide (HX2.out.below hb)
  replace HX3 := hide (HX3.out.below hb)
  replace HB := hide (Below.on HB.out hb)
  clear o5 g5 l5 hb HB4 HO4 hib hcc
  have HIv := hide (HI.out.bv HU.out (by rw [HZL.out]; omega))
  rw [HZL.out] at HIv
  go_wp2_with fail
  refine (bdec_any HIv.out).mono ?_
  rintro e w9 ⟨x6, rfl, o6, hb⟩
  replace HC := hide (HC.out.below hb)
  replace HBv := hide (HBv.out.below hb)
  replace HRm := hide (HRm.out.below hb)
  replace HX2 := hide (HX2.out.below hb)
  replace HX3 := hide (HX3.out.below hb)
  replace HI := hide (HI.out.below hb)
  replace HIv := hide (HIv.out.below hb)
  replace HB := hide (Below.on HB.out hb)
  rw [HD.out] at o6
  rw [HEr.out]
  have HX6 := hide (cl_own o6 (by rw [← HD.out]; exact HDl.out))
  clear o6
  clear hb
  go_wp2_with fail
  refine (brdec_any HBv.out).mono ?_
  rintro e w9 ⟨x7, rfl, o7, hb⟩
  replace HC := hide (HC.out.below hb)
  replace HBv := hide (HBv.out.below hb)
  replace HRm := hide (HRm.out.below hb)
  replace HX2 := hide (HX2.out.below hb)
  replace HX3 := hide (HX3.out.below hb)
  replace HI := hide (HI.out.below hb)
  replace HIv := hide (HIv.out.below hb)
  replace HX6 := hide (HX6.out.below hb)
  replace HB := hide (Below.on HB.out hb)
  rw [HD.out] at o7
  rw [HEr.out]
  have HX7 := hide (cl_own o7 (by rw [← HD.out]; exact HDl.out))
  clear o7
  clear hb
  go_wp2_with fail
  refine (bsameT_any HX2.out HX3.out rfl).mono ?_
  rintro e w9 ⟨rfl, hb⟩
  replace HC := hide (HC.out.below hb)
  replace HBv := hide (HBv.out.below hb)
  replace HRm := hide (HRm.out.below hb)
  replace HX2 := hide (HX2.out.below hb)
  replace HX3 := hide (HX3.out.below hb)
  replace HI := hide (HI.out.below hb)
  replace HIv := hide (HIv.out.below hb)
  replace HX6 := hide (HX6.out.below hb)
  replace HX7 := hide (HX7.out.below hb)
  replace HB := hide (Below.on HB.out hb)
  clear hb
  go_wp2_with fail
  refine (csame_any HX6.out HX7.out).mono ?_
  rintro e w9 ⟨rfl, hb⟩
  replace HC := hide (HC.out.below hb)
  replace HBv := hide (HBv.out.below hb)
  replace HRm := hide (HRm.out.below hb)
  replace HX2 := hide (HX2.out.below hb)
  replace HX3 := hide (HX3.out.below hb)
  replace HI := hide (HI.out.below hb)
  replace HIv := hide (HIv.out.below hb)
  replace HX6 := hide (HX6.out.below hb)
  replace HX7 := hide (HX7.out.below hb)
  replace HB := hide (Below.on HB.out hb)
  rw [decide_eq_true (rfl : D = D)]
  clear hb
  go_wp2_with fail
  refine (kept_any HRm.out HC.out).mono ?_
  rintro e w9 ⟨rfl, hb⟩
  replace HC := hide (HC.out.below hb)
  replace HBv := hide (HBv.out.below hb)
  replace HRm := hide (HRm.out.below hb)
  replace HX2 := hide (HX2.out.below hb)
  replace HX3 := hide (HX3.out.below hb)
  replace HI := hide (HI.out.below hb)
  replace HIv := hide (HIv.out.below hb)
  replace HX6 := hide (HX6.out.below hb)
  replace HX7 := hide (HX7.out.below hb)
  replace HB := hide (Below.on HB.out hb)
  clear hb
  go_wp2_with fail
  refine (bsameT_any HIv.out HBv.out rfl).mono ?_
  rintro e w9 ⟨rfl, hb⟩
  replace HC := hide (HC.out.below hb)
  replace HBv := hide (HBv.out.below hb)
  replace HRm := hide (HRm.out.below hb)
  replace HX2 := hide (HX2.out.below hb)
  replace HX3 := hide (HX3.out.below hb)
  replace HI := hide (HI.out.below hb)
  replace HIv := hide (HIv.out.below hb)
  replace HX6 := hide (HX6.out.below hb)
  replace HX7 := hide (HX7.out.below hb)
  replace HB := hide (Below.on HB.out hb)
  clear hb
  have hcv := HI.out.conv (cc - n)
  rw [HZL.out] at hcv
  have hst := beh_list
  go_wp2
  go_ret
  exact ⟨rfl, HB.out⟩
set_option maxRecDepth 100000 in
set_option maxHeartbeats 8000000 in
theorem codes_bad {w : World} {v : Value} {L : List Tk} {zs : List Int} {a : Option Addr} {n c : Nat} (h : CL w v L) (hl : L.length * 16 ≤ 140737488351232) (hf : fits L) (hb1 : TRow layB w a n zs) (hu : u8s zs) (hn : n * 1 ≤ 140737488351232) (h0 : a = none → n = 0 ∧ c = 0) (hg : gd 0 L = false) : Calls Try.prog 3 #[v, .slice a n c] w fun e w' => e = .returned (.bool true) ∧ Below w.heap.size w w' := by
  have HC := hide h
  have HL := hide hl
  have HF := hide hf
  have HG := hide hg
  have HRb := hide hb1
  have HBv : Hid (BV w (.slice a n c) zs) := hide ⟨_, _, _, rfl, row_b hb1 hu, by omega⟩
  have HU := hide hu
  have HNb := hide hn
  have H0 := hide h0
  have hzl := hb1.len
  have hnI : (n : Int) ≤ 140737488351232 := by omega
  have HZL := hide hzl
  have HB := hide (Below.refl w.heap.size w)
  obtain ⟨i0, hi, hz0, hz1, hz2⟩ := info_parts Try.infoB
  have hsz : sBeh.size = 9 := rfl
  have HSz := hide hsz
  have HDl := hide (decC_len HBv.out.u8)
  obtain ⟨D, hD⟩ : ∃ D, (decC zs).1 = D := ⟨_, rfl⟩
  obtain ⟨er, her⟩ : ∃ er, (decC zs).2 = er := ⟨_, rfl⟩
  have HD := hide hD
  have HEr := hide her
  clear h hl hf hb1 hu hn h0 hg hzl hsz hD her
  go_enter Try.func3, Try.ntmps3
  go_wp2_with fail
  refine (croomyB_any HC.out HL.out).mono ?_
  rintro e w9 ⟨x1, rfl, hr, hb⟩
  replace HC := hide (HC.out.below hb)
  replace HBv := hide (HBv.out.below hb)
  replace HB := hide (Below.on HB.out hb)
  have HRm := hide hr
  clear hr
  clear hb
  go_wp2_with fail
  refine (enc_bad HRm.out.cl HG.out).mono ?_
  rintro e w9 ⟨rfl, hb⟩
  replace HC := hide (HC.out.below hb)
  replace HBv := hide (HBv.out.below hb)
  replace HRm := hide (HRm.out.below hb)
  replace HB := hide (Below.on HB.out hb)
  clear hb
  go_wp2_with fail
  refine (renc_bad HC.out HG.out).mono ?_
  rintro e w9 ⟨rfl, hb⟩
  replace HC := hide (HC.out.below hb)
  replace HBv := hide (HBv.out.below hb)
  replace HRm := hide (HRm.out.below hb)
  replace HB := hide (Below.on HB.out hb)
  clear hb
  go_wp2_with (at_builtin; refine append_lay layB _ 23 5 i0 _ 1 Try.underlying23 hi hz0 hz1 hz2 rfl rfl (.tmp 27) (.tmp 28) rfl w9.heap.size (.slice none 0 0) [] rfl (Own.nil _ _ _ _) a n c zs rfl (HRb.out.below HB.out) H0.out ?b1 ?b2 (Nat.le_refl _) ?_)
  case b1 => unfold maxLen; have := HNb.out; simp; omega
  case b2 => have := HNb.out; simp; omega
  intro v4 w4 o4 g4 l4
  have hb4 : Below w9.heap.size w9 w4 := (Below.refl _ _).grown g4 (Nat.le_refl _) (fun q hq => by cases hq)
  have HO4 : Hid (w4.ownsRow w9.heap.size 5 1 v4 n (zs.map (Value.int .u8))) := hide (own_bl (by simpa using o4) HZL.out)
  have HB4 := hide hb4
  clear o4 g4 l4 hb4
  go_wp2_with (at_builtin; refine Lib.wpList_append_own_string _ rfl (.tmp 30) (.const (.string sBeh)) 23 9 rfl w9.heap.size 5 i0 Try.underlying23 Try.underlying9 hi hz0 hz1 hz2 v4 n _ rfl HO4.out sBeh rfl ?b1 ?b2 HB4.out.size ?_)
  case b1 => rw [HSz.out]; unfold maxLen; omega
  case b2 => rw [HSz.out]; omega
  intro v5 w5 o5 g5 l5
  have hb : Below w9.heap.size w9 w5 := HB4.out.grown g5 HB4.out.size (fun q hq => (HO4.out.lt q hq).1)
  rw [HSz.out] at o5
  obtain ⟨g, cc, hv5, hib⟩ := ib_of o5 HZL.out
  subst hv5
  have hcc := hib.cap
  rw [HZL.out] at hcc
  have hccI : (n : Int) ≤ cc := by omega
  have hcn : ¬ cc = n := by omega
  have HI := hide hib
  replace HC := hide (HC.out.below hb)
  replace HBv := hide (HBv.out.below hb)
  replace HRm := hide (HRm.out.below hb)
  replace HB := hide (Below.on HB.out hb)
  clear o5 g5 l5 hb HB4 HO4 hib hcc
  have HIv := hide (HI.out.bv HU.out (by rw [HZL.out]; omega))
  rw [HZL.out] at HIv
  go_wp2_with fail
  refine (bdec_any HIv.out).mono ?_
  rintro e w9 ⟨x6, rfl, o6, hb⟩
  replace HC := hide (HC.out.below hb)
  replace HBv := hide (HBv.out.below hb)
  replace HRm := hide (HRm.out.below hb)
  replace HI := hide (HI.out.below hb)
  replace HIv := hide (HIv.out.below hb)
  replace HB := hide (Below.on HB.out hb)
  rw [HD.out] at o6
  rw [HEr.out]
  have HX6 := hide (cl_own o6 (by rw [← HD.out]; exact HDl.out))
  clear o6
  clear hb
  go_wp2_with fail
  refine (brdec_any HBv.out).mono ?_
  rintro e w9 ⟨x7, rfl, o7, hb⟩
  replace HC := hide (HC.out.below hb)
  replace HBv := hide (HBv.out.below hb)
  replace HRm := hide (HRm.out.below hb)
  replace HI := hide (HI.out.below hb)
  replace HIv := hide (HIv.out.below hb)
  replace HX6 := hide (HX6.out.below hb)
  replace HB := hide (Below.on HB.out hb)
  rw [HD.out] at o7
  rw [HEr.out]
  have HX7 := hide (cl_own o7 (by rw [← HD.out]; exact HDl.out))
  clear o7
  clear hb
  go_wp2_with fail
  refine (bsameT_any (bv_nil _) (bv_nil _) rfl).mono ?_
  rintro e w9 ⟨rfl, hb⟩
  replace HC := hide (HC.out.below hb)
  replace HBv := hide (HBv.out.below hb)
  replace HRm := hide (HRm.out.below hb)
  replace HI := hide (HI.out.below hb)
  replace HIv := hide (HIv.out.below hb)
  replace HX6 := hide (HX6.out.below hb)
  replace HX7 := hide (HX7.out.below hb)
  replace HB := hide (Below.on HB.out hb)
  clear hb
  go_wp2_with fail
  refine (csame_any HX6.out HX7.out).mono ?_
  rintro e w9 ⟨rfl, hb⟩
  replace HC := hide (HC.out.below hb)
  replace HBv := hide (HBv.out.below hb)
  replace HRm := hide (HRm.out.below hb)
  replace HI := hide (HI.out.below hb)
  replace HIv := hide (HIv.out.below hb)
  replace HX6 := hide (HX6.out.below hb)
  replace HX7 := hide (HX7.out.below hb)
  replace HB := hide (Below.on HB.out hb)
  rw [decide_eq_true (rfl : D = D)]
  clear hb
  go_wp2_with fail
  refine (kept_any HRm.out HC.out).mono ?_
  rintro e w9 ⟨rfl, hb⟩
  replace HC := hide (HC.out.below hb)
  replace HBv := hide (HBv.out.below hb)
  replace HRm := hide (HRm.out.below hb)
  replace HI := hide (HI.out.below hb)
  replace HIv := hide (HIv.out.below hb)
  replace HX6 := hide (HX6.out.below hb)
  replace HX7 := hide (HX7.out.below hb)
  replace HB := hide (Below.on HB.out hb)
  clear hb
  go_wp2_with fail
  refine (bsameT_any HIv.out HBv.out rfl).mono ?_
  rintro e w9 ⟨rfl, hb⟩
  replace HC := hide (HC.out.below hb)
  replace HBv := hide (HBv.out.below hb)
  replace HRm := hide (HRm.out.below hb)
  replace HI := hide (HI.out.below hb)
  replace HIv := hide (HIv.out.below hb)
  replace HX6 := hide (HX6.out.below hb)
  replace HX7 := hide (HX7.out.below hb)
  replace HB := hide (Below.on HB.out hb)
  clear hb
  have hcv := HI.out.conv (cc - n)
  rw [HZL.out] at hcv
  have hst := beh_list
  go_wp2
  go_ret
  exact ⟨rfl, HB.out⟩
theorem clockCodes {w : World} {v : Value} {L : List Tk} {zs : List Int} {a : Option Addr} {n c : Nat} (h : CL w v L) (hl : L.length * 16 ≤ 140737488351232) (hf : fits L) (hb1 : TRow layB w a n zs) (hu : u8s zs) (hn : n * 1 ≤ 140737488351232) (h0 : a = none → n = 0 ∧ c = 0) : Calls Try.prog 3 #[v, .slice a n c] w fun e w' => e = .returned (.bool true) ∧ Below w.heap.size w w' := by
  cases hg : gd 0 L with
  | true => exact codes_ok h hl hf hb1 hu hn h0 hg
  | false => exact codes_bad h hl hf hb1 hu hn h0 hg
end Go.Proofs.Ytajkenbcndmjpab
