/-
  A record is read.
-/
import Derived.Test.YtbcmheilgilipaaDecA
namespace Go.Proofs.Ytbcmheilgilipaa
open Go.RowKit Go.Maps
theorem Row.cut {w : World} {b off n : Nat} {zs : List Int} (h : Row w (some ⟨b, off, none⟩) n zs) {p x : Nat} (hp : p + x ≤ n) : Row w (some ⟨b, off + p, none⟩) x ((zs.drop p).take x) := by
  have hl := h.len
  refine ⟨by rw [List.length_take, List.length_drop]; omega, fun i => ?_, ?_⟩
  · by_cases hi : i < x
    · rw [List.getElem?_take, if_pos hi, List.getElem?_drop]; exact h.u8 (p + i)
    · rw [List.getElem?_take, if_neg hi]; simp
  · by_cases hx : x = 0
    · exact .inl hx
    · rcases h.cells with h0 | ⟨b', off', e, hc⟩
      · omega
      · cases e
        refine .inr ⟨b, off + p, rfl, fun i hi => ?_⟩
        rw [Nat.add_assoc, hc (p + i) (by omega)]
        congr 2
        rw [List.getD_eq_getElem?_getD, List.getD_eq_getElem?_getD, List.getElem?_take, if_pos hi, List.getElem?_drop]
def recV (r : Int × Int × List ByteArray) : Value := .tuple #[.int .i64 r.1, .int .i64 r.2.1]
/-- What readRecord leaves. -/
def RecPost (w : World) (tb : Nat) (S : Nat → Prop) (r : Int × Int × List ByteArray) (e : Ending) (w' : World) : Prop :=
  e = .returned (recV r) ∧ (∃ v' mv', Tab w' tb (fun k => S k ∨ (w.heap.size ≤ k ∧ k < w'.heap.size)) r.2.2 v' mv') ∧ But S w w'
section
variable {L : List ByteArray} {zs : List Int} {t : Int} {x p f : Int}
theorem rdRec_fault (h : rdAt zs t = (x, p, f)) (hf : f ≠ 0) : rdRec L zs t = (0, f, L) := by unfold rdRec; rw [h]; rw [if_pos hf]
theorem rdRec_large (h : rdAt zs t = (x, p, 0)) (h1 : 65536 < x) : rdRec L zs t = (0, 3, L) := by unfold rdRec; rw [h]; rw [if_neg (by simp), if_pos h1]
theorem rdRec_take (h : rdAt zs t = (x, p, 0)) (h1 : ¬ 65536 < x) (h2 : (zs.length : Int) - p < x) : rdRec L zs t = (0, 13, L) := by unfold rdRec; rw [h]; rw [if_neg (by simp), if_neg h1, if_pos h2]
theorem rdRec_twice (h : rdAt zs t = (x, p, 0)) (h1 : ¬ 65536 < x) (h2 : ¬ (zs.length : Int) - p < x) (h3 : isIn L (cutS zs p.toNat x.toNat) = true) : rdRec L zs t = (0, 41, L) := by unfold rdRec; rw [h]; rw [if_neg (by simp), if_neg h1, if_neg h2, if_pos h3]
theorem rdRec_new (h : rdAt zs t = (x, p, 0)) (h1 : ¬ 65536 < x) (h2 : ¬ (zs.length : Int) - p < x) (h3 : isIn L (cutS zs p.toNat x.toNat) = false) (h4 : roomy L.length (total L) (cutS zs p.toNat x.toNat).size = true) : rdRec L zs t = (p + x, 0, L ++ [cutS zs p.toNat x.toNat]) := by unfold rdRec; rw [h]; rw [if_neg (by simp), if_neg h1, if_neg h2, if_neg (by rw [h3]; simp), if_pos h4]
theorem rdRec_full (h : rdAt zs t = (x, p, 0)) (h1 : ¬ 65536 < x) (h2 : ¬ (zs.length : Int) - p < x) (h3 : isIn L (cutS zs p.toNat x.toNat) = false) (h4 : roomy L.length (total L) (cutS zs p.toNat x.toNat).size = false) : rdRec L zs t = (0, 3, L) := by unfold rdRec; rw [h]; rw [if_neg (by simp), if_neg h1, if_neg h2, if_neg (by rw [h3]; simp), if_neg (by rw [h4]; simp)]
end
theorem intern_full {w : World} {tb : Nat} {S : Nat → Prop} {L : List ByteArray} {v mv : Value} (h : Tab w tb S L v mv) (s : ByteArray) (hs : s.size ≤ maxLen) (hin : isIn L s = false) (hr : roomy L.length (total L) s.size = false) :
    Calls Try.prog 20 #[.pointer (some ⟨tb, 0, none⟩), .string s] w fun e w' => e = .returned (.tuple #[.int .i64 0, .int .i64 3]) ∧ (∃ v' mv', Tab w' tb (fun k => S k ∨ (w.heap.size ≤ k ∧ k < w'.heap.size)) L v' mv') ∧ But S w w' := by
  have h1 : internV L s = .tuple #[.int .i64 0, .int .i64 3] := by unfold internV; rw [hin, hr]; rfl
  have h2 : internL L s = L := by unfold internL; rw [hin, hr]; rfl
  have := intern_any h s hs
  rw [h1, h2] at this
  exact this
theorem place_lt {L : List ByteArray} {s : ByteArray} (h : isIn L s = true) : place L s < L.length := (List.getElem?_eq_some_iff.1 (place_get (isIn_iff.1 h))).1
set_option maxRecDepth 4000 in
set_option maxHeartbeats 800000 in
theorem rr_any {w : World} {tb : Nat} {S : Nat → Prop} {L : List ByteArray} {v mv : Value} (h : Tab w tb S L v mv) (a : Option Addr) (n c : Nat) (zs : List Int) (t : Int) (hr : Row w a n zs) (hn : (n : Int) ≤ 140737488355328) (hnc : n ≤ c) :
    Calls Try.prog 48 #[.pointer (some ⟨tb, 0, none⟩), .slice a n c, .int .i64 t] w (RecPost w tb S (rdRec L zs t)) := by
  have HQ : Hid _ := hide (ru_any a n c t zs w hr (by omega))
  have hbd := rdAt_bd zs t hr.u8
  have hplc := rdAt_place (zs := zs) (t := t)
  have hl := hr.len
  have hRA : rdAt zs t = rdAt zs t := rfl
  generalize hr0 : rdAt zs t = r at HQ hbd hplc hRA
  obtain ⟨x, p, f⟩ := r
  simp only [out3] at HQ hbd hplc
  have HR : Hid (rdAt zs t = (x, p, f)) := hr0
  have HT : Hid (Tab w tb S L v mv) := h
  clear hRA hr0
  by_cases hf : f = 0
  · subst hf
    obtain ⟨hp0, hp1, hp2⟩ := hplc rfl
    have hx0 := hbd.1
    have hx1 := hbd.2.1
    clear hbd hplc
    have hp3 : 0 ≤ p := by omega
    have hp4 : p ≤ (n : Int) := by omega
    by_cases h1 : 65536 < x
    · have HE : Hid (rdRec L zs t = (0, 3, L)) := rdRec_large HR.out h1
      generalize rdRec L zs t = R at HE ⊢
      have q1 : decide (65536 < x) = true := decide_eq_true h1
      clear hr h hl hp2
      go_enter Try.func48, Try.ntmps48
      go_wp2_with fail
      refine HQ.out.mono ?_
      rintro e w1 ⟨rfl, rfl⟩
      go_wp2
      go_ret2
      refine ⟨by rw [HE.out]; rfl, ⟨v, mv, ?_⟩, But.refl _ _⟩
      rw [HE.out]; exact HT.out.mono fun k hk => .inl hk
    · have q1 : decide (65536 < x) = false := decide_eq_false h1
      by_cases h2 : (zs.length : Int) - p < x
      · have HE : Hid (rdRec L zs t = (0, 13, L)) := rdRec_take HR.out h1 h2
        have q2 : decide ((n : Int) - p < x) = true := decide_eq_true (by omega)
        generalize rdRec L zs t = R at HE ⊢
        clear hr h hl hp2 h2
        go_enter Try.func48, Try.ntmps48
        go_wp2_with fail
        refine HQ.out.mono ?_
        rintro e w1 ⟨rfl, rfl⟩
        go_wp2
        go_ret2
        refine ⟨by rw [HE.out]; rfl, ⟨v, mv, ?_⟩, But.refl _ _⟩
        rw [HE.out]; exact HT.out.mono fun k hk => .inl hk
      · have q2 : decide ((n : Int) - p < x) = false := decide_eq_false (by omega)
        obtain ⟨P, rfl⟩ := Int.eq_ofNat_of_zero_le hp3
        obtain ⟨X, rfl⟩ := Int.eq_ofNat_of_zero_le hx0
        have hPX : P + X ≤ n := by omega
        obtain ⟨b, off, rfl, hcl⟩ := hr.cells.resolve_left (by omega)
        have HR2 := HR.out
        have R1 : Hid _ := hide (fun h3 => rdRec_twice (L := L) HR2 h1 h2 h3)
        have R2 : Hid _ := hide (fun h3 h4 => rdRec_new (L := L) HR2 h1 h2 h3 h4)
        have R3 : Hid _ := hide (fun h3 h4 => rdRec_full (L := L) HR2 h1 h2 h3 h4)
        simp only [Int.toNat_natCast] at R1 R2 R3
        have hcv : ∀ c', (convert 31 9 (.slice (some ⟨b, off + P, none⟩) X c')).run Try.prog w = .ok (.string (cutS zs P X)) w := fun c' => conv_any c' (hr.cut hPX) (fun e => by cases e)
        have HSz : Hid ((cutS zs P X).size = X) := cutS_size (by omega)
        have c0 := h.cell0
        obtain ⟨a0, k0, rfl⟩ := own_form h.own
        have HX6 : Hid ((X : Int) ≤ 65536) := hide (by omega)
        by_cases hcP : c = P
        · have hX0 : X = 0 := by omega
          have hcv0 : ∀ c', (convert 31 9 (.slice (some ⟨b, off, none⟩) 0 c')).run Try.prog w = .ok (.string (cutS zs P X)) w := fun c' => by
            have e : strOfNums [] = cutS zs P X := by unfold cutS; rw [hX0]; rfl
            rw [← e]; exact conv_any (zs := []) c' ⟨rfl, fun i => by simp, .inl rfl⟩ (fun e => by cases e)
          subst hX0
          subst hcP
          generalize cutS zs c 0 = s at R1 R2 R3 hcv hcv0 HSz
          clear hr h hl hp2 h2 hcl HR2 HR
          go_enter Try.func48, Try.ntmps48
          go_wp2_with fail
          refine HQ.out.mono ?_
          rintro e w1 ⟨rfl, rfl⟩
          go_wp2_with fail
          have hsm : Hid (s.size ≤ maxLen) := hide (by rw [HSz.out]; have := HX6.out; unfold maxLen; omega)
          cases hin : isIn L s
          · cases hro : roomy L.length (total L) s.size
            · have HE : Hid (rdRec L zs t = (0, 3, L)) := R3.out hin hro
              refine (intern_full HT.out s hsm.out hin hro).mono ?_
              rintro e w2 ⟨rfl, ⟨v', mv', ht⟩, hb⟩
              have HT2 : Hid _ := hide ht
              have HB2 : Hid (But S w1 w2) := hb
              clear ht hb hin hro R1 R2 R3
              go_wp2
              go_ret2
              refine ⟨by rw [HE.out]; rfl, ⟨v', mv', ?_⟩, HB2.out⟩
              rw [HE.out]; exact HT2.out
            · have HE : Hid (rdRec L zs t = ((c : Int) + ((0 : Nat) : Int), 0, L ++ [s])) := R2.out hin hro
              refine (intern_new HT.out s hsm.out hin hro).mono ?_
              rintro e w2 ⟨rfl, ⟨v', mv', ht⟩, hb⟩
              have HT2 : Hid _ := hide ht
              have HB2 : Hid (But S w1 w2) := hb
              clear ht hb hin hro R1 R2 R3
              go_wp2
              go_ret2
              refine ⟨by rw [HE.out]; rfl, ⟨v', mv', ?_⟩, HB2.out⟩
              rw [HE.out]; exact HT2.out
          · have HE : Hid (rdRec L zs t = (0, 41, L)) := R1.out hin
            have hpl : ¬ (place L s : Int) = (L.length : Int) := by have := place_lt hin; omega
            refine (intern_old HT.out s hsm.out hin).mono ?_
            rintro e w2 ⟨rfl, ⟨v', mv', ht⟩, hb⟩
            have HT2 : Hid _ := hide ht
            have HB2 : Hid (But S w1 w2) := hb
            clear ht hb hin R1 R2 R3
            go_wp2
            go_ret2
            refine ⟨by rw [HE.out]; rfl, ⟨v', mv', ?_⟩, HB2.out⟩
            rw [HE.out]; exact HT2.out
        · generalize cutS zs P X = s at R1 R2 R3 hcv HSz
          clear hr h hl hp2 h2 hcl HR2 HR
          go_enter Try.func48, Try.ntmps48
          go_wp2_with fail
          refine HQ.out.mono ?_
          rintro e w1 ⟨rfl, rfl⟩
          go_wp2_with fail
          have hsm : Hid (s.size ≤ maxLen) := hide (by rw [HSz.out]; have := HX6.out; unfold maxLen; omega)
          cases hin : isIn L s
          · cases hro : roomy L.length (total L) s.size
            · have HE : Hid (rdRec L zs t = (0, 3, L)) := R3.out hin hro
              refine (intern_full HT.out s hsm.out hin hro).mono ?_
              rintro e w2 ⟨rfl, ⟨v', mv', ht⟩, hb⟩
              have HT2 : Hid _ := hide ht
              have HB2 : Hid (But S w1 w2) := hb
              clear ht hb hin hro R1 R2 R3
              go_wp2
              go_ret2
              refine ⟨by rw [HE.out]; rfl, ⟨v', mv', ?_⟩, HB2.out⟩
              rw [HE.out]; exact HT2.out
            · have HE : Hid (rdRec L zs t = ((P : Int) + X, 0, L ++ [s])) := R2.out hin hro
              refine (intern_new HT.out s hsm.out hin hro).mono ?_
              rintro e w2 ⟨rfl, ⟨v', mv', ht⟩, hb⟩
              have HT2 : Hid _ := hide ht
              have HB2 : Hid (But S w1 w2) := hb
              clear ht hb hin hro R1 R2 R3
              go_wp2
              go_ret2
              refine ⟨by rw [HE.out]; rfl, ⟨v', mv', ?_⟩, HB2.out⟩
              rw [HE.out]; exact HT2.out
          · have HE : Hid (rdRec L zs t = (0, 41, L)) := R1.out hin
            have hpl : ¬ (place L s : Int) = (L.length : Int) := by have := place_lt hin; omega
            refine (intern_old HT.out s hsm.out hin).mono ?_
            rintro e w2 ⟨rfl, ⟨v', mv', ht⟩, hb⟩
            have HT2 : Hid _ := hide ht
            have HB2 : Hid (But S w1 w2) := hb
            clear ht hb hin R1 R2 R3
            go_wp2
            go_ret2
            refine ⟨by rw [HE.out]; rfl, ⟨v', mv', ?_⟩, HB2.out⟩
            rw [HE.out]; exact HT2.out
  · have HE : Hid (rdRec L zs t = (0, f, L)) := rdRec_fault HR.out hf
    clear HR hbd hplc hr h
    generalize rdRec L zs t = R at HE ⊢
    go_enter Try.func48, Try.ntmps48
    go_wp2_with fail
    refine HQ.out.mono ?_
    rintro e w1 ⟨rfl, rfl⟩
    go_wp2
    go_ret2
    refine ⟨by rw [HE.out]; rfl, ⟨v, mv, ?_⟩, But.refl _ _⟩
    rw [HE.out]; exact HT.out.mono fun k hk => .inl hk
end Go.Proofs.Ytbcmheilgilipaa
