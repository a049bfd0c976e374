/-
  The walk of StrtabCuts.
-/
import Derived.Test.YtbcmheilgilipaaVarA
import Derived.Deep.RegionHeld3
namespace Go.Proofs.Ytbcmheilgilipaa
open Go.RowKit Go.Maps
theorem bodyOf_mono {L : List ByteArray} {first j cnt : Nat} (hc : first + cnt ≤ L.length) (h : j < cnt) : (bodyOf L first j).length < (bodyOf L first cnt).length := by
  induction cnt with
  | zero => omega
  | succ m ih =>
    have hs : L[first + m]? = some (L.getD (first + m) ByteArray.empty) := by rw [List.getD_eq_getElem?_getD]; simp [show first + m < L.length by omega]
    have e := bodyOf_succ hs
    have hp := recd_pos (L.getD (first + m) ByteArray.empty)
    rw [e, List.length_append]
    by_cases hj : j = m
    · subst hj; omega
    · have := ih (by omega) (by omega); omega
theorem Cutting.zero {L : List ByteArray} {lim : Nat} {bs : List (List Int)} (h : Cutting L lim 0 bs) : L.length = 0 ↔ bs.length = 0 := by
  cases bs with
  | nil => have e : 0 = L.length := h; simp [← e]
  | cons b bs =>
    obtain ⟨cnt, hc, _⟩ := h
    have h1 := hc.pos
    have h2 := hc.le
    rw [List.length_cons]; omega
theorem Cutting.len {L : List ByteArray} {lim : Nat} {bs : List (List Int)} {first : Nat} (h : Cutting L lim first bs) : first + bs.length ≤ L.length := by
  induction bs generalizing first with
  | nil => have e : first = L.length := h; simp [e]
  | cons b bs ih =>
    obtain ⟨cnt, hc, _, h3⟩ := h
    have h1 := ih h3
    have h2 := hc.pos
    rw [List.length_cons]; omega
theorem Lists.at {w : World} {base : Nat} {a : Option Addr} {n c : Nat} {bs : List (List Int)} {vals : List Value} (h : Lists w base (.slice a n c) bs vals) {k : Nat} {b : List Int} (hk : bs[k]? = some b) :
    ∃ g ab cb, a = some ⟨g, 0, none⟩ ∧ w.cell? ⟨g, k, none⟩ = some (.slice ab b.length cb) ∧ w.ownsRow base 5 1 (.slice ab b.length cb) b.length (b.map (Value.int .u8)) := by
  obtain ⟨ab, cb, h1, h2⟩ := h.each k b hk
  rcases h.own.2 with ⟨_, e⟩ | ⟨g, cap, cur, e, _⟩
  · have := (List.getElem?_eq_some_iff.1 hk).1; omega
  · cases e
    have := h.own.cells (g := g) rfl k _ h1
    have ha : (⟨g, 0, none⟩ : Addr).add k = ⟨g, k, none⟩ := by unfold Addr.add; split <;> simp_all
    rw [ha] at this
    exact ⟨g, ab, cb, rfl, this, h2⟩
set_option maxHeartbeats 4000000 in
set_option maxRecDepth 4000 in
theorem cuts_any (a : Option Addr) (n c : Nat) (l : List ByteArray) (limit : Int) (w : World) (hr : SRow w a n l) (hn : (n : Int) ≤ 9223372036854775807) (hz : ∀ s ∈ l, s.size ≤ maxLen) :
    Calls Try.prog 3 #[.slice a n c, .int .i64 limit] w fun e w' => e = .returned (.bool true) ∧ Below w.heap.size w w' := by
  have HT : Hid _ := hide (table_any a n c l w hr hn hz)
  have HW : Hid _ := hide (within_any limit 1048513 w (by decide) (by decide))
  clear hr hz
  go_enter Try.func3, Try.ntmps3
  go_wp2_with fail
  refine HW.out.mono ?_
  rintro e w0 ⟨⟨r, rfl, hr0, hr1⟩, rfl⟩
  obtain ⟨lim, hlim⟩ : ∃ lim : Nat, r = (lim : Int) - 64 := ⟨(r + 64).toNat, by omega⟩
  subst hlim
  have hlo : 64 ≤ (lim : Int) := by omega
  have hhi : (lim : Int) ≤ 1048576 := by omega
  have elim : (64 : Int) + ((lim : Int) - 64) = lim := by omega
  clear hr0 hr1 HW
  go_wp2_with fail
  refine HT.out.mono ?_
  rintro e w1 ⟨tb, S, L, v, mv, aO, cO, rfl, hB⟩
  have HB : Hid (Both w0 w1 tb S L v mv aO cO) := hB
  have HE : Hid _ := hide (encode_any hB.tab lim hlo hhi)
  have hLi : (L.length : Int) ≤ 9223372036854775806 := by have := hB.tab.len; omega
  have HLm : Hid (L.length ≤ 65536) := hB.tab.len
  clear hB HT
  go_wp2_with fail
  refine HE.out.mono ?_
  rintro e w2 ⟨a2, c2, bs, vals, rfl, hcut, hls, hb2⟩
  have HC : Hid (Cutting L lim 0 bs) := hcut
  have HLs : Hid (Lists w2 w1.heap.size (.slice a2 bs.length c2) bs vals) := hls
  have HB2 : Hid (Below w1.heap.size w1 w2) := hb2
  have HS : Hid (SRow w2 aO L.length L) := hide (HB.out.row.below hb2)
  have hzz : ((L.length : Int) == 0) = ((bs.length : Int) == 0) := by
    have := hcut.zero
    rw [Bool.eq_iff_iff, beq_iff_eq, beq_iff_eq]; omega
  have hbsi : (bs.length : Int) ≤ 9223372036854775806 := by have := hcut.len; omega
  clear hcut hls hb2
  go_wp2
  clear hzz
  go_loopw [10, 11] (fun x i wr => ∃ (k nx : Nat), k ≤ bs.length ∧ nx ≤ L.length ∧ i = .int .i64 k ∧ x = .int .i64 nx ∧ Cutting L lim nx (bs.drop k) ∧ Below w2.heap.size w2 wr) (fun _ i _ => bs.length - (intOf i).toNat)
  case atStart => exact ⟨0, 0, Nat.zero_le _, Nat.zero_le _, rfl, rfl, HC.out, Below.refl _ _⟩
  case round =>
    obtain ⟨k, nx, hk, hnx, rfl, rfl, hcu, hbel⟩ := hrel
    have HBr : Hid (Below w2.heap.size w2 wr) := hbel
    by_cases hlt : k < bs.length
    · rw [List.drop_eq_getElem_cons hlt] at hcu
      have hkb : Hid (bs[k]? = some bs[k]) := hide (List.getElem?_eq_getElem hlt)
      generalize bs[k] = b at hcu hkb
      obtain ⟨cnt, hc, hb, hrest⟩ := hcu
      have HCu : Hid (Cut L lim nx cnt) := hc
      have HR : Hid (Cutting L lim (nx + cnt) (bs.drop (k + 1))) := hrest
      have Hb : Hid (b = bodyOf L nx cnt) := hb
      have hle := hc.le
      have hpos := hc.pos
      have HV : Hid _ := hide (varint_any nx wr (by omega) (by have := HLm.out; omega))
      clear hc hb hrest hbel
      go_wp2_with fail
      refine HV.out.mono ?_
      rw [Int.toNat_natCast]
      rintro e w3 ⟨a3, c3, rfl, ho3, hb3⟩
      have HO3 : Hid (w3.ownsRow wr.heap.size 5 1 (.slice a3 (enc nx).length c3) (enc nx).length ((enc nx).map (Value.int .u8))) := ho3
      have HB3 : Hid (Below w2.heap.size w2 w3) := hide (HBr.out.trans (hb3.mono HBr.out.size))
      have HS3 : Hid (w2.heap.size ≤ wr.heap.size) := HBr.out.size
      clear ho3 hb3 HV
      go_wp2
      go_loopw [10, 12, 13] (fun x o cn wr' => ∃ (j M : Nat) (a' : Option Addr) (c' : Nat), j ≤ cnt ∧ M = nx + j ∧ x = .int .i64 M ∧ cn = .int .i64 j ∧ o = .slice a' (bodyOf L nx j).length c' ∧ wr'.ownsRow w2.heap.size 5 1 (.slice a' (bodyOf L nx j).length c') (bodyOf L nx j).length ((bodyOf L nx j).map (Value.int .u8)) ∧ Below w2.heap.size w2 wr') (fun _ _ cn _ => cnt - (intOf cn).toNat)
      case atStart => exact ⟨0, nx, a3, c3, Nat.zero_le _, rfl, rfl, rfl, by rw [bodyOf_zero], by rw [bodyOf_zero]; exact own_mono HO3.out HS3.out, HB3.out⟩
      case round =>
        clear HO3 HB3 HS3 HBr
        obtain ⟨j, M, a', c', hj, hM, rfl, rfl, rfl, hown, hbel⟩ := hrel
        have HM : Hid (M = nx + j) := hM
        have hML : M ≤ L.length := by omega
        have hBl : ((bodyOf L nx j).length : Int) ≤ 10000000 := by have := bodyOf_len hnx HLm.out HB.out.tab.sum HB.out.tab.small j; omega
        have HBr : Hid (Below w2.heap.size w2 wr) := hbel
        obtain ⟨g, ab, cb, rfl, hcb, hob⟩ := (HLs.out.below hbel).at hkb.out
        have HOb : Hid (wr.ownsRow w1.heap.size 5 1 (.slice ab b.length cb) b.length (b.map (Value.int .u8))) := hob
        have HW : Hid (wr.ownsRow w2.heap.size 5 1 (.slice a' (bodyOf L nx j).length c') (bodyOf L nx j).length ((bodyOf L nx j).map (Value.int .u8))) := hown
        by_cases hlj : j < cnt
        · have hMl : M < L.length := by omega
          obtain ⟨bo, oo, rfl, hco⟩ := (HS.out.below hbel).at hMl
          have hsk : Hid (L[nx + j]? = some (L.getD M ByteArray.empty)) := hide (by rw [hM] at hMl ⊢; rw [List.getD_eq_getElem?_getD]; simp [hMl])
          have hsz : ((L.getD M ByteArray.empty).size : Int) ≤ 65536 := by have := HB.out.tab.small _ (List.mem_of_getElem? hsk.out); omega
          generalize L.getD M ByteArray.empty = s at hco hsk hsz
          have hlb : (bodyOf L nx j).length < b.length := by rw [Hb.out]; exact bodyOf_mono hle hlj
          obtain ⟨B, hB⟩ : ∃ B, B = bodyOf L nx j := ⟨_, rfl⟩
          rw [← hB] at hBl HW hlb ⊢
          have HBo : Hid (bodyOf L nx j = B) := hB.symm
          have h10 : ((enc s.size).length : Int) ≤ 10 := by have := enc_le s.size (by omega); omega
          obtain ⟨Z, hZ⟩ : ∃ Z : Int, Z = ((s.size : Nat) : Int) := ⟨_, rfl⟩
          have hlen : ∀ (ty : TypeId) (W : World), (Builtin.len_ #[9] ty #[.string s]).run Try.prog W = .ok (.int .i64 Z) W := fun ty W => by rw [hZ]; exact run_len_string W 9 ty s Try.underlying9
          have HN : Hid ((B.length : Int) ≤ 10000000 ∧ ((enc s.size).length : Int) ≤ 10 ∧ Z ≤ 65536) := ⟨hBl, h10, by omega⟩
          have hU := varint_any Z wr (by omega) (by omega)
          rw [show Z.toNat = s.size by omega] at hU
          have HU : Hid _ := hide hU
          have HZ : Hid (Z = ((s.size : Nat) : Int)) := hZ
          clear hU hZ hown hbel hob hB hsz hBl h10 hM
          go_wp2_with fail
          refine HU.out.mono ?_
          rintro e w4 ⟨a4, c4, rfl, ho4, hb4⟩
          have HO4 : Hid (w4.ownsRow wr.heap.size 5 1 (.slice a4 (enc s.size).length c4) (enc s.size).length ((enc s.size).map (Value.int .u8))) := ho4
          have HB4 : Hid (Below wr.heap.size wr w4) := hb4
          have HW4 : Hid (w4.ownsRow w2.heap.size 5 1 (.slice a' B.length c') B.length (B.map (Value.int .u8))) := hide (own_but (S := fun _ => False) HW.out (But.of_below hb4) (fun _ _ e => e))
          have hws : w2.heap.size ≤ w4.heap.size := Nat.le_trans HBr.out.size hb4.size
          have hco4 : w4.cell? ⟨bo, oo + M, none⟩ = some (.string s) := by rw [hb4.cell (p := ⟨bo, oo + M, none⟩) (World.block_lt_of_cell? wr _ hco)]; exact hco
          clear ho4 hb4 HU hco hcb
          go_wp2_with (first
            | (at_builtin; refine append_row _ rfl _ _ rfl w2.heap.size (.slice a' B.length c') B.length B rfl HW4.out a4 (enc s.size).length c4 (enc s.size) rfl (own_row_u8 HO4.out (u8_of_mem (enc_mem _))) (own_nil HO4.out) (by have := HN.out; omega) hws ?_
               intro v5 w5 o5 g5
               obtain ⟨a5, c5, rfl⟩ := own_formB o5
               have O5 : Hid (w5.ownsRow w2.heap.size 5 1 (.slice a5 (B.length + (enc s.size).length) c5) (B.length + (enc s.size).length) ((B ++ enc s.size).map (Value.int .u8))) := o5
               have G5 : Hid (w4.grownBy w5 (Value.slice a' B.length c').ownBlock) := g5
               have hws5 : w2.heap.size ≤ w5.heap.size := Nat.le_trans hws g5.size
               have HB5 : Hid (Below w2.heap.size w2 w5) := hide ((HBr.out.trans (HB4.out.mono HBr.out.size)).grown g5 hws (fun j hj => (HW4.out.lt j hj).1))
               have hco5 : w5.cell? ⟨bo, oo + M, none⟩ = some (.string s) := by
                 obtain ⟨b9, o9, e9, h9⟩ := (HS.out.below HB5.out).at hMl
                 cases e9
                 have e1 := hsk.out
                 rw [List.getD_eq_getElem?_getD, show M = nx + j from HM.out, e1] at h9
                 rw [show M = nx + j from HM.out]; exact h9
               clear o5 g5 hco4)
            | (at_builtin; refine append_bytes _ rfl _ _ rfl w2.heap.size (.slice a5 (B.length + (enc s.size).length) c5) (B.length + (enc s.size).length) (B ++ enc s.size) rfl O5.out s rfl (by have := HZ.out; have := HN.out; omega) hws5 ?_
               intro a6 c6 w6 o6 g6
               have O6 : Hid (w6.ownsRow w2.heap.size 5 1 (.slice a6 (B.length + (enc s.size).length + s.size) c6) (B.length + (enc s.size).length + s.size) ((B ++ enc s.size ++ sbytes s).map (Value.int .u8))) := o6
               have G6 : Hid (w5.grownBy w6 (Value.slice a5 (B.length + (enc s.size).length) c5).ownBlock) := g6
               clear o6 g6)
            | go_in)
          have eB : bodyOf L nx (j + 1) = B ++ enc s.size ++ sbytes s := by rw [bodyOf_succ hsk.out, HBo.out]; unfold recd; rw [List.append_assoc]
          have eL : (bodyOf L nx (j + 1)).length = B.length + (enc s.size).length + s.size := by rw [eB, List.length_append, List.length_append, sbytes_len]
          refine ⟨⟨j + 1, M + 1, a6, c6, by omega, by have := HM.out; omega, by go_num, by go_num, by rw [eL], by rw [eL, eB]; exact O6.out, ?_⟩, by simp [intOf]; omega⟩
          exact HB5.out.grown G6.out hws5 (fun j hj => (O5.out.lt j hj).1)
        · have hjc : j = cnt := by omega
          subst hjc
          have e0 := Hb.out
          subst e0
          have HF : Hid (1 < j → (bodyOf L nx j).length ≤ lim) := HCu.out.fits
          obtain ⟨B, hB⟩ : ∃ B, B = bodyOf L nx j := ⟨_, rfl⟩
          rw [← hB] at hBl HW HF HOb hcb ⊢
          have HBo : Hid (bodyOf L nx j = B) := hB.symm
          have hu : ∀ i : Nat, 0 ≤ B[i]?.getD 0 ∧ B[i]?.getD 0 ≤ 255 := u8_of_mem (by rw [hB]; exact bodyOf_u8 _ _ _)
          have hsm := same_any a' ab B.length c' B.length cb B B wr (own_row_u8 HW.out hu) (own_row_u8 HOb.out hu) (by omega)
          rw [decide_eq_true (show B = B from rfl)] at hsm
          have HSm : Hid _ := hide hsm
          have HBl : Hid ((B.length : Int) ≤ 10000000) := hBl
          have hj0 : ¬ (j : Int) = 0 := by omega
          have hq : ((1 : Int) < j → (B.length : Int) ≤ lim) := fun h => by have := HF.out (by omega); omega
          have HQ : Hid ((1 : Int) < j → (B.length : Int) ≤ lim) := hq
          clear hsm hown hbel hob hB hBl hM hu hq HF
          by_cases hfl : (B.length : Int) ≤ lim
          · go_wp2_with fail
            refine HSm.out.mono ?_
            rintro e w5 ⟨rfl, m5, rfl⟩
            go_wp2
            have HB5 : Hid (Below w2.heap.size w2 (wr.drewN m5)) := hide (below_drewN HBr.out m5)
            clear hcb HBr
            generalize wr.drewN m5 = W0 at HB5 ⊢
            by_cases hMl : M < L.length
            · obtain ⟨bo, oo, rfl, HC0⟩ := (HS.out.below HB5.out).at hMl
              have hsk : Hid (L[nx + j]? = some (L.getD M ByteArray.empty)) := hide (by rw [← HM.out]; rw [List.getD_eq_getElem?_getD]; simp [hMl])
              have hsz : ((L.getD M ByteArray.empty).size : Int) ≤ 65536 := by have := HB.out.tab.small _ (List.mem_of_getElem? hsk.out); omega
              generalize L.getD M ByteArray.empty = s at HC0 hsk hsz
              have hfull := HCu.out.full s hsk.out
              rw [recd_len, HBo.out] at hfull
              have h10 : ((enc s.size).length : Int) ≤ 10 := by have := enc_le s.size (by omega); omega
              obtain ⟨Z, hZ⟩ : ∃ Z : Int, Z = ((s.size : Nat) : Int) := ⟨_, rfl⟩
              have hlen : ∀ (ty : TypeId) (W : World), (Builtin.len_ #[9] ty #[.string s]).run Try.prog W = .ok (.int .i64 Z) W := fun ty W => by rw [hZ]; exact run_len_string W 9 ty s Try.underlying9
              have hU := varint_any Z W0.drew (by omega) (by omega)
              rw [show Z.toNat = s.size by omega] at hU
              have HU : Hid _ := hide hU
              have hz0 : 0 ≤ Z := by omega
              have hz6 : Z ≤ 65536 := by omega
              have hnot : ¬ ((B.length : Int) + ((enc s.size).length : Int) + Z ≤ (lim : Int)) := by omega
              have HD : Hid (Below w2.heap.size w2 W0.drew) := hide HB5.out.drew
              have HBL : (B.length : Int) ≤ 10000000 := HBl.out
              have HL0 : bo < W0.heap.size := World.block_lt_of_cell? W0 _ HC0
              have hw1 : IntKind.i64.wrap ((B.length : Int) + ((enc s.size).length : Int)) = (B.length : Int) + ((enc s.size).length : Int) := by rw [IntKind.wrap_i64]; omega
              have hw2 : IntKind.i64.wrap ((B.length : Int) + ((enc s.size).length : Int) + Z) = (B.length : Int) + ((enc s.size).length : Int) + Z := by rw [IntKind.wrap_i64]; omega
              clear hU hZ hsz hfull
              go_region_held3 (fun W => W.cell? ⟨bo, oo + M, none⟩ = some (.string s)) (first | exact HC0 | exact K0) (first
                | (go_at_call 12; refine HU.out.mono ?_; rintro e w6 ⟨a6, c6, rfl, ho6, hb6⟩; have K0 := (hb6.cell (p := ⟨bo, oo + M, none⟩) HL0).trans HC0; have HO6 := hide ho6; have HB6 := hide hb6; clear ho6 hb6))
              go_wp2
              exact ⟨⟨k + 1, M, by omega, hML, by go_num, rfl, by rw [HM.out]; exact HR.out, HD.out.trans (HB6.out.mono HB5.out.size)⟩, by simp [intOf]; omega⟩
            · have hd : decide ((M : Int) < (L.length : Int)) = false := decide_eq_false (by omega)
              go_quiet (fail)
              go_wp2
              exact ⟨⟨k + 1, M, by omega, hML, by go_num, rfl, by rw [HM.out]; exact HR.out, below_drewN HB5.out _⟩, by simp [intOf]; omega⟩
          · have hj1 : ¬ (1 : Int) < j := fun h => hfl (HQ.out h)
            have q1 : decide ((1 : Int) < (j : Int)) = false := decide_eq_false hj1
            have H1 : Hid (¬ (1 : Int) < j) := hj1
            clear hj1
            go_wp2_with fail
            refine HSm.out.mono ?_
            rintro e w5 ⟨rfl, m5, rfl⟩
            go_wp2
            have HB5 : Hid (Below w2.heap.size w2 (wr.drewN m5)) := hide (below_drewN HBr.out m5)
            clear hcb HBr
            generalize wr.drewN m5 = W0 at HB5 ⊢
            by_cases hMl : M < L.length
            · obtain ⟨bo, oo, rfl, HC0⟩ := (HS.out.below HB5.out).at hMl
              have hsk : Hid (L[nx + j]? = some (L.getD M ByteArray.empty)) := hide (by rw [← HM.out]; rw [List.getD_eq_getElem?_getD]; simp [hMl])
              have hsz : ((L.getD M ByteArray.empty).size : Int) ≤ 65536 := by have := HB.out.tab.small _ (List.mem_of_getElem? hsk.out); omega
              generalize L.getD M ByteArray.empty = s at HC0 hsk hsz
              have hfull := HCu.out.full s hsk.out
              rw [recd_len, HBo.out] at hfull
              have h10 : ((enc s.size).length : Int) ≤ 10 := by have := enc_le s.size (by omega); omega
              obtain ⟨Z, hZ⟩ : ∃ Z : Int, Z = ((s.size : Nat) : Int) := ⟨_, rfl⟩
              have hlen : ∀ (ty : TypeId) (W : World), (Builtin.len_ #[9] ty #[.string s]).run Try.prog W = .ok (.int .i64 Z) W := fun ty W => by rw [hZ]; exact run_len_string W 9 ty s Try.underlying9
              have hU := varint_any Z W0.drew (by omega) (by omega)
              rw [show Z.toNat = s.size by omega] at hU
              have HU : Hid _ := hide hU
              have hz0 : 0 ≤ Z := by omega
              have hz6 : Z ≤ 65536 := by omega
              have hnot : ¬ ((B.length : Int) + ((enc s.size).length : Int) + Z ≤ (lim : Int)) := by omega
              have HD : Hid (Below w2.heap.size w2 W0.drew) := hide HB5.out.drew
              have HBL : (B.length : Int) ≤ 10000000 := HBl.out
              have HL0 : bo < W0.heap.size := World.block_lt_of_cell? W0 _ HC0
              have hw1 : IntKind.i64.wrap ((B.length : Int) + ((enc s.size).length : Int)) = (B.length : Int) + ((enc s.size).length : Int) := by rw [IntKind.wrap_i64]; omega
              have hw2 : IntKind.i64.wrap ((B.length : Int) + ((enc s.size).length : Int) + Z) = (B.length : Int) + ((enc s.size).length : Int) + Z := by rw [IntKind.wrap_i64]; omega
              clear hU hZ hsz hfull
              go_region_held3 (fun W => W.cell? ⟨bo, oo + M, none⟩ = some (.string s)) (first | exact HC0 | exact K0) (first
                | (go_at_call 12; refine HU.out.mono ?_; rintro e w6 ⟨a6, c6, rfl, ho6, hb6⟩; have K0 := (hb6.cell (p := ⟨bo, oo + M, none⟩) HL0).trans HC0; have HO6 := hide ho6; have HB6 := hide hb6; clear ho6 hb6))
              go_wp2
              exact ⟨⟨k + 1, M, by omega, hML, by go_num, rfl, by rw [HM.out]; exact HR.out, HD.out.trans (HB6.out.mono HB5.out.size)⟩, by simp [intOf]; omega⟩
            · have hd : decide ((M : Int) < (L.length : Int)) = false := decide_eq_false (by omega)
              go_quiet (fail)
              go_wp2
              exact ⟨⟨k + 1, M, by omega, hML, by go_num, rfl, by rw [HM.out]; exact HR.out, below_drewN HB5.out _⟩, by simp [intOf]; omega⟩
    · clear hbel
      have e0 : bs.drop k = [] := List.drop_eq_nil_of_le (by omega)
      rw [e0] at hcu
      have hnl : nx = L.length := hcu
      subst hnl
      clear hcu e0 hnx
      go_wp2
      go_ret
      exact ⟨rfl, (HB.out.below.trans (HB2.out.mono HB.out.below.size)).trans (HBr.out.mono (Nat.le_trans HB.out.below.size HB2.out.size))⟩
end Go.Proofs.Ytbcmheilgilipaa
