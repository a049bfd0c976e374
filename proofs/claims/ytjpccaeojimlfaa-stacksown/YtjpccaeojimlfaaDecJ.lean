/-
  Decode.
-/
import Derived.Test.YtjpccaeojimlfaaDecI
namespace Go.Proofs.Ytjpccaeojimlfaa
open Go.RowKit Go.Maps Go.Shelf
theorem same_f (a b : Option Addr) (n ca m cb : Nat) (A B : List (List Int)) (w : World) (hA : LRow w a n A) (hB : LRow w b m B) (hn : (n : Int) ≤ 9223372036854775806) :
    Calls Try.prog 41 #[.slice a n ca, .slice b m cb] w fun e w' => e = .returned (.bool (decide (A = B))) ∧ w' = w := by
  have HQ : Hid _ := hide (eqf_any a b n ca m cb A B w hA hB hn)
  clear hA hB
  go_enter Try.func41, Try.ntmps41
  go_wp2_with fail
  refine HQ.out.mono ?_
  rintro e w1 ⟨rfl, rfl⟩
  go_wp2
  go_ret
  exact ⟨rfl, rfl⟩
theorem bodiesN_ok {w : World} {fb tb : Nat} {S : Nat → Prop} {N : List Nd} {v : Value} {mb : Nat} (hF : Frs w fb tb S N v mb) (lim : Nat) : Wok lim (bodiesN N lim) N.length :=
  bodiesW_ok (recN_ok hF.len hF.small) (by have := hF.len; omega) N.length (Nat.le_refl _)
theorem rdAllN_step {m : Nat} {bs : List (List Int)} {k : Nat} {z : List Int} (hz : bs[k]? = some z) (N : List Nd) : rdAllN m (bs.drop k) N = if (rdBodyN m N z).1 ≠ 0 then rdBodyN m N z else rdAllN m (bs.drop (k + 1)) (rdBodyN m N z).2 := by
  have : bs.drop k = z :: bs.drop (k + 1) := by
    have hk := (List.getElem?_eq_some_iff.1 hz)
    rw [List.drop_eq_getElem_cons hk.1, hk.2]
  rw [this, rdAllN]
/-- What Decode answers. -/
def DecE (w w' : World) (T : Nat → Prop) (tb : Nat) (L : List ByteArray) (bs : List (List Int)) (lim : Int) (e : Ending) : Prop :=
  (¬ (64 ≤ lim ∧ lim ≤ 1048576) ∧ e = .returned (.tuple #[.pointer none, .int .i64 2])) ∨
  ((64 ≤ lim ∧ lim ≤ 1048576) ∧ (rdAllN L.length bs []).1 ≠ 0 ∧ e = .returned (.tuple #[.pointer none, .int .i64 (rdAllN L.length bs []).1])) ∨
  ((64 ≤ lim ∧ lim ≤ 1048576) ∧ (rdAllN L.length bs []).1 = 0 ∧ bodiesN (rdAllN L.length bs []).2 lim.toNat ≠ bs ∧ e = .returned (.tuple #[.pointer none, .int .i64 43])) ∨
  ((64 ≤ lim ∧ lim ≤ 1048576) ∧ (rdAllN L.length bs []).1 = 0 ∧ bodiesN (rdAllN L.length bs []).2 lim.toNat = bs ∧ ∃ fb S, e = .returned (.tuple #[.pointer (some ⟨fb, 0, none⟩), .int .i64 0]) ∧ FN w w' T S tb fb L (rdAllN L.length bs []).2)
theorem decode_nil (a : Option Addr) (n c : Nat) (lim : Int) (w : World) : Calls Try.prog 25 #[.pointer none, .slice a n c, .int .i64 lim] w fun e w' => e = .returned (.tuple #[.pointer none, .int .i64 1]) ∧ w' = w := by
  have HN : Hid _ := hide (new_f_nil w)
  have HM : Hid _ := hide (missing_nil w)
  go_enter Try.func25, Try.ntmps25
  go_wp2_with fail
  refine HN.out.mono ?_
  rintro e w1 ⟨rfl, hh⟩; rw [hh]; clear hh
  go_wp2_with fail
  refine HM.out.mono ?_
  rintro e w1 ⟨rfl, hh⟩; rw [hh]; clear hh
  go_wp2
  go_ret2
  exact ⟨rfl, rfl⟩
set_option maxHeartbeats 1000000 in
set_option maxRecDepth 4000 in
theorem decode_any {w : World} {T : Nat → Prop} {tb : Nat} {L : List ByteArray} {tv tm : Value} (hT : Tab w tb T L tv tm) (a : Option Addr) (n c : Nat) (bs : List (List Int)) (lim : Int) (hr : LRow w a n bs) (hn : (n : Int) ≤ 9223372036854775806) :
    Calls Try.prog 25 #[.pointer (some ⟨tb, 0, none⟩), .slice a n c, .int .i64 lim] w fun e w' => Below w.heap.size w w' ∧ DecE w w' T tb L bs lim e := by
  have HT : Hid (Tab w tb T L tv tm) := hT
  have HR : Hid (LRow w a n bs) := hr
  have HL : Hid (bs.length = n) := hr.len
  have HN : Hid _ := hide (new_f tb w)
  clear hT hr
  go_enter Try.func25, Try.ntmps25
  go_wp2_with fail
  refine HN.out.mono ?_
  rintro e w1 ⟨rfl, ⟨v1, mb1, hF1⟩, hb1⟩
  have HB1 : Hid (Below w.heap.size w w1) := hb1
  have HF1 : Hid (FN w w1 T (fun k => w.heap.size ≤ k ∧ k < w1.heap.size) tb (w.heap.size + 1) L []) := ⟨⟨tv, tm, HT.out⟩, ⟨v1, mb1, hF1⟩, fun k hk => hk, hb1, [], ⟨⟨by simp, by simp⟩, Rep.nil _, HT.out.nodup⟩⟩
  have HM : Hid _ := hide (missing_any (w.heap.size + 1) tb w1 hF1.cell0)
  have HLi : Hid _ := hide (limit_any lim w1)
  clear hF1 hb1
  generalize w.heap.size + 1 = fb at HF1 HM ⊢
  go_wp2_with fail
  refine HM.out.mono ?_
  rintro e w2 ⟨rfl, hh⟩; rw [hh]; clear hh
  by_cases hlim : 64 ≤ lim ∧ lim ≤ 1048576
  · rw [decide_eq_true hlim] at HLi
    obtain ⟨l, rfl⟩ := Int.eq_ofNat_of_zero_le (show 0 ≤ lim by omega)
    have HLim : Hid (64 ≤ (l : Int) ∧ (l : Int) ≤ 1048576) := hlim
    have hl2 : (l : Int) ≤ 1048576 := hlim.2
    clear hlim
    go_wp2_with fail
    refine HLi.out.mono ?_
    rintro e w2 ⟨rfl, hh⟩; rw [hh]; clear hh
    go_wp2
    go_loopw [21] (fun i wr => ∃ (k : Nat) (S : Nat → Prop) (N : List Nd), k ≤ n ∧ i = .int .i64 (k : Int) ∧ FN w wr T S tb fb L N ∧ rdAllN L.length bs [] = rdAllN L.length (bs.drop k) N) (fun i _ => n - (intOf i).toNat)
    case atStart => exact ⟨0, _, [], Nat.zero_le _, rfl, HF1.out, by simp⟩
    case round =>
      obtain ⟨k, S, N, hk, rfl, hF, hE⟩ := hrel
      have HF : Hid (FN w wr T S tb fb L N) := hF
      have HE : Hid _ := hide hE
      clear hF hE
      by_cases hlt : k < n
      · obtain ⟨b, off, z, ai, ci, ha, hz, hc, hrz, _, _, hzl⟩ := HR.out.at hlt
        subst ha
        have hcr : wr.cell? ⟨b, off + k, none⟩ = some (.slice ai z.length ci) := cell_block hc (HF.out.bel.block b (World.block_lt_of_cell? w _ hc))
        have HQ : Hid _ := hide (read_any HF.out ai z.length ci z hrz hzl)
        have HS : Hid _ := hide (rdAllN_step (m := L.length) hz N)
        clear hc hrz hz
        generalize rdBodyN L.length N z = R at HQ HS
        obtain ⟨f, N'⟩ := R
        dsimp only at HQ HS
        by_cases hf : f = 0
        · subst hf
          go_wp2_with fail
          refine HQ.out.mono ?_
          rintro e w3 ⟨rfl, S3, hF3, _, _⟩
          have HF3 : Hid _ := hide hF3
          clear hF3 hcr
          go_wp2
          exact ⟨⟨k + 1, S3, N', by omega, by go_num, HF3.out, by rw [HE.out, HS.out]; simp⟩, by simp [intOf]; omega⟩
        · have HX : Hid (rdAllN L.length bs [] = (f, N')) := hide (by rw [HE.out, HS.out, if_pos hf])
          go_wp2_with fail
          refine HQ.out.mono ?_
          rintro e w3 ⟨rfl, S3, hF3, _, _⟩
          have HF3 : Hid _ := hide hF3
          clear hF3 hcr
          go_wp2
          go_ret2
          exact ⟨HF3.out.bel, .inr (.inl ⟨HLim.out, by rw [HX.out]; exact hf, by rw [HX.out]; rfl⟩)⟩
      · have HX : Hid (rdAllN L.length bs [] = (0, N)) := hide (by rw [HE.out, List.drop_of_length_le (by have := HL.out; omega)]; rfl)
        obtain ⟨v, mb, hFr⟩ := HF.out.frs
        obtain ⟨P, hfit⟩ := HF.out.fit
        have HQ : Hid _ := hide (bodies_f hFr hfit.rep.anc l hl2)
        have HW : Hid _ := hide (bodiesN_ok hFr l)
        clear hFr hfit
        go_wp2_with fail
        refine HQ.out.mono ?_
        rintro e w3 ⟨a3, c3, vals, rfl, hls, hb3⟩
        have HSm : Hid _ := hide (same_f a a3 n c (bodiesN N l).length c3 bs (bodiesN N l) w3 (HR.out.below (HF.out.bel.trans (hb3.mono HF.out.bel.size))) (hls.lrow (fun z hz => by have := HW.out.each z hz; omega)) hn)
        have HF3 : Hid _ := hide (HF.out.below hb3)
        clear hls hb3
        by_cases heq : bodiesN N l = bs
        · rw [decide_eq_true heq.symm] at HSm
          have HEq : Hid (bodiesN N l = bs) := heq
          clear heq
          go_wp2_with fail
          refine HSm.out.mono ?_
          rintro e w4 ⟨rfl, hh⟩; rw [hh]; clear hh
          go_wp2
          go_ret2
          exact ⟨HF3.out.bel, .inr (.inr (.inr ⟨HLim.out, by rw [HX.out], by rw [HX.out]; exact HEq.out, fb, S, rfl, by rw [HX.out]; exact HF3.out⟩))⟩
        · rw [decide_eq_false (fun e => heq e.symm)] at HSm
          have HEq : Hid (bodiesN N l ≠ bs) := heq
          clear heq
          go_wp2_with fail
          refine HSm.out.mono ?_
          rintro e w4 ⟨rfl, hh⟩; rw [hh]; clear hh
          go_wp2
          go_ret2
          exact ⟨HF3.out.bel, .inr (.inr (.inl ⟨HLim.out, by rw [HX.out], by rw [HX.out]; exact HEq.out, rfl⟩))⟩
  · rw [decide_eq_false hlim] at HLi
    have HLim : Hid (¬ (64 ≤ lim ∧ lim ≤ 1048576)) := hlim
    clear hlim
    go_wp2_with fail
    refine HLi.out.mono ?_
    rintro e w2 ⟨rfl, hh⟩; rw [hh]; clear hh
    go_wp2
    go_ret2
    exact ⟨HB1.out, .inl ⟨HLim.out, rfl⟩⟩
end Go.Proofs.Ytjpccaeojimlfaa
