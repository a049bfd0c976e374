/-
  The document's New.
-/
import Derived.Test.YtdlpffbeladgaaaMgI
import Derived.Deep.DeepCutAuto
import Derived.Deep.AppendLies
namespace Go.Proofs.Ytdlpffbeladgaaa
open Go.RowKit
set_option maxRecDepth 8000 in
set_option maxHeartbeats 25600000 in
theorem rnew_any (w : World) (a : Option Addr) (n c : Nat) (rws : List Rw) (Gs : List (Int × List Rc)) (hr : Rdz w a n rws Gs) (hn : n * 32 ≤ 140737488355328) (hm : ∀ G ∈ Gs, G.2.length * 40 ≤ 140737488355328) :
    Calls Try.prog 11 #[.slice a n c] w fun r w' => ((rfault (-1) 0 Gs ≠ 0 ∧ r = .returned (.tuple #[.pointer none, .int .i64 (rfault (-1) 0 Gs)])) ∨ (rfault (-1) 0 Gs = 0 ∧ ∃ p vr va, r = .returned (.tuple #[.pointer (some ⟨p, 0, none⟩), .int .i64 0]) ∧ RMg w' w.heap.size p vr va Gs (List.replicate Gs.length 0) 0)) ∧ Below w.heap.size w w' := by
  obtain ⟨i0, hi0, hz0, hz1, hz2⟩ := info_parts Try.infoR
  obtain ⟨i1, hi1, hy0, hy1, hy2⟩ := info_parts Try.infoW
  obtain ⟨i2, hi2, hx0, hx1, hx2⟩ := info_parts Try.infoN
  have HR : Hid _ := hide hr
  have HL : Hid _ := hide hr.row.len
  have HG : Hid (Gs.length = n) := hide (by rw [← hr.len, hr.row.len])
  have HM : Hid _ := hide hm
  have HNb : Hid _ := hide hn
  have hnI : (n : Int) ≤ 4398046511104 := by omega
  obtain ⟨f, hf⟩ : ∃ f, f = rfault (-1) 0 Gs := ⟨_, rfl⟩
  rw [← hf]
  have HF : Hid _ := hide hf
  clear hr hf hm hn
  obtain ⟨w1, hw1⟩ : ∃ w1, w1 = w.alloc (.cells #[.slice none 0 0, .slice none 0 0, .int .i64 0] 77) := ⟨_, rfl⟩
  have HB1 : Hid (Below w.heap.size w w1) := hide (by rw [hw1]; exact below_alloc1 _ _)
  have HP1 : Hid (w1.heap[w.heap.size]? = some (.cells #[.slice none 0 0, .slice none 0 0, .int .i64 0] 77 (0, 0))) := hide (by rw [hw1]; exact heap_new _ _)
  have HW1 : Hid _ := hide hw1
  clear hw1
  go_enter Try.func11, Try.ntmps11
  go_wp2_with fail
  rw [← HW1.out]
  go_loopw [5, 6] (fun cn i wr => ∃ (k cnt : Nat) (ahead : Int) (vr va : Value) (rs : List Rw), cn = .int .i64 cnt ∧ i = .int .i64 k ∧ k ≤ n ∧ (k : Int) ≤ ahead + 1 ∧ ahead < 65536 ∧ Hid ((cnt : Int) ≤ (k : Int) * 3518437208884) ∧ Hid (f = rfault ahead cnt (Gs.drop k)) ∧ Hid (0 < k → ∃ G, Gs[k - 1]? = some G ∧ G.1 = ahead) ∧ Hid (k = 0 → ahead = -1) ∧ Hid (wr.heap[w.heap.size]? = some (.cells #[vr, va, .int .i64 0] 77 (0, 0))) ∧ Hid (Rowz wr w.heap.size vr rs (Gs.take k)) ∧ Hid (Own layN 3 wr w.heap.size va (List.replicate k 0)) ∧ Hid (Below w.heap.size w wr)) (fun _ i _ => n - numV i)
  case atStart =>
    refine ⟨0, 0, -1, _, _, [], rfl, rfl, Nat.zero_le _, by omega, by omega, hide (by omega), hide HF.out, hide (fun e => by omega), hide (fun _ => rfl), HP1, hide ⟨Own.nil _ _ _ _, rfl, fun k rw G h => by simp at h, fun i j p q b h => by simp at h⟩, hide (Own.nil _ _ _ _), HB1⟩
  case round =>
    obtain ⟨k, cnt, ahead, vr, va, rs, rfl, rfl, hk, hka, hah, HC, HK, HPV, HK0, HPM, HZ, HA, HB⟩ := hrel
    have hcnt : (cnt : Int) ≤ 300000000000000000 := by have := HC.out; omega
    by_cases hlt : k < n
    · have hltI : (k : Int) < (n : Int) := by omega
      obtain ⟨p, hp⟩ : ∃ r, rws[k]? = some r := ⟨_, List.getElem?_eq_getElem (by rw [HL.out]; exact hlt)⟩
      obtain ⟨G, hGk⟩ : ∃ r, Gs[k]? = some r := ⟨_, List.getElem?_eq_getElem (by rw [HG.out]; exact hlt)⟩
      have A1 := HR.out.below HB.out
      obtain ⟨lb, lo, rfl, hlb, hc⟩ := A1.row.at (by omega)
      obtain ⟨pg, pr, pz, -⟩ := A1.each k p G hp hGk
      have x0 := hc k p hp 0 _ rfl
      have x1 := hc k p hp 1 _ rfl
      have hGl := HM.out G (List.mem_of_getElem? hGk)
      have HPC : Hid (0 < k → wr.cell? ⟨lb, lo + (k - 1) * 2, none⟩ = some (.int .i64 ahead)) := hide (fun hpos => by
        obtain ⟨G9, hG9, e9⟩ := HPV.out hpos
        obtain ⟨p9, hp9⟩ : ∃ r, rws[k - 1]? = some r := ⟨_, List.getElem?_eq_getElem (by rw [HL.out]; omega)⟩
        obtain ⟨h4, _⟩ := A1.each (k - 1) p9 G9 hp9 hG9
        rw [← e9, ← h4]
        exact hc (k - 1) p9 hp9 0 _ rfl)
      have HD : Hid (f = if G.1 ≤ ahead ∨ 65536 ≤ G.1 ∨ G.2.length = 0 then 102 else if sfault (-1) G.2 ≠ 0 then sfault (-1) G.2 else rfault G.1 (cnt + G.2.length) (Gs.drop (k + 1))) := hide (by rw [HK.out, drop_at hGk]; rfl)
      have HT : Hid (Gs.take (k + 1) = Gs.take k ++ [G]) := hide (by rw [List.take_add_one, hGk]; rfl)
      have HGk : Hid _ := hide hGk
      obtain ⟨g, R⟩ := G
      obtain ⟨p0, pa, pn, pc⟩ := p
      dsimp only at pg pr pz hGl
      subst pg
      have hpn := pr.len
      rw [hpn] at hGl
      simp only [layW, Nat.add_zero] at x0 x1
      have hpI : (pn : Int) ≤ 3518437208884 := by omega
      have HDl : Hid (f = if p0 ≤ ahead ∨ 65536 ≤ p0 ∨ pn = 0 then 102 else if sfault (-1) R ≠ 0 then sfault (-1) R else rfault p0 (cnt + pn) (Gs.drop (k + 1))) := hide (by have h9 := HD.out; dsimp only at h9; rw [hpn] at h9; exact h9)
      obtain ⟨w3, hw3⟩ : ∃ w3, w3 = wr.alloc (.cells #[.int .i64 p0, .slice pa pn pc] 38) := ⟨_, rfl⟩
      have b3 : Below wr.heap.size wr w3 := by rw [hw3]; exact below_alloc1 _ _
      have s3 : wr.heap.size < w3.heap.size := by rw [hw3]; simp
      have r3 : w3.heap[wr.heap.size]? = some (.cells #[.int .i64 p0, .slice pa pn pc] 38 (0, 0)) := by rw [hw3]; exact heap_new _ _
      have z0 : w3.cell? ⟨wr.heap.size, 0, none⟩ = some (.int .i64 p0) := cell_at r3 rfl
      have z1 : w3.cell? ⟨wr.heap.size, 1, none⟩ = some (.slice pa pn pc) := cell_at r3 rfl
      have HPC3 : Hid (0 < k → w3.cell? ⟨lb, lo + (k - 1) * 2, none⟩ = some (.int .i64 ahead)) := hide (fun hpos => (b3.cell (p := ⟨lb, lo + (k - 1) * 2, none⟩) hlb).trans (HPC.out hpos))
      have HW3 : Hid _ := hide hw3
      have HR3 : Hid _ := hide r3
      have HB03 : Hid _ := hide b3
      have HS3 : Hid _ := hide s3
      have HPr : Hid _ := hide pr
      have HPz : Hid _ := hide pz
      have HPn : Hid _ := hide hpn
      have HGl : Hid _ := hide hGl
      have HB3 : Hid (Below w.heap.size w w3) := hide (HB.out.trans (b3.mono HB.out.size))
      obtain ⟨bd, hbd⟩ : ∃ bd : Bool, bd = decide (p0 ≤ ahead ∨ 65536 ≤ p0 ∨ pn = 0) := ⟨_, rfl⟩
      have HBD : Hid _ := hide hbd
      clear HD hc hp hGk pr hpn A1 hw3 r3 b3 hGl pz HPC hbd s3
      go_wp2_with fail
      rw [← HW3.out]
      go_cut [50] from 12 to 124 (fun s50 wx => s50 = .bool bd ∧ Hid (Below w3.heap.size w3 wx))
      case first =>
        clear x0 x1
        by_cases hA : p0 < 0
        · have e1 : decide (p0 < 0) = true := decide_eq_true hA
          have HE : Hid (bd = true) := hide (by rw [HBD.out]; exact decide_eq_true (.inl (by omega)))
          go_quiet (fail)
          go_wp2_with fail
          go_meet
          exact ⟨by rw [HE.out], hide (below_drewN (Below.refl _ _) _)⟩
        · have e1 : decide (p0 < 0) = false := decide_eq_false hA
          by_cases hC : 65536 ≤ p0
          · have e2 : decide (65536 ≤ p0) = true := decide_eq_true hC
            have HE : Hid (bd = true) := hide (by rw [HBD.out]; exact decide_eq_true (.inr (.inl hC)))
            go_quiet (fail)
            go_wp2_with fail
            go_meet
            exact ⟨by rw [HE.out], hide (below_drewN (Below.refl _ _) _)⟩
          · have e2 : decide (65536 ≤ p0) = false := decide_eq_false hC
            by_cases hE : pn = 0
            · subst hE
              have HE : Hid (bd = true) := hide (by rw [HBD.out]; exact decide_eq_true (.inr (.inr rfl)))
              go_quiet (fail)
              go_wp2_with fail
              go_meet
              exact ⟨by rw [HE.out], hide (below_drewN (Below.refl _ _) _)⟩
            · have hEb : ((pn : Int) == 0) = false := by simp [hE]
              have hEb2 : (pn == 0) = false := by simp [hE]
              by_cases hk0 : k = 0
              · have HE : Hid (bd = false) := hide (by rw [HBD.out]; have := HK0.out hk0; exact decide_eq_false (by omega))
                have hi5 : decide ((0 : Int) < (k : Int)) = false := decide_eq_false (by omega)
                have hi6 : decide (0 < k) = false := decide_eq_false (by omega)
                have hi2' : ¬ (0 : Int) < (k : Int) := by omega
                have hi4 : ¬ 0 < k := by omega
                clear hk0
                go_quiet (fail)
                go_wp2_with fail
                go_meet
                exact ⟨by rw [HE.out], hide (below_drewN (Below.refl _ _) _)⟩
              · have y0 := HPC3.out (by omega)
                have hi2' : (0 : Int) < (k : Int) := by omega
                have hi4 : 0 < k := by omega
                have hi6 : decide (0 < k) = true := decide_eq_true hi4
                have hi5 : decide ((0 : Int) < (k : Int)) = true := decide_eq_true hi2'
                have hi7 : (1 : Int) ≤ (k : Int) := by omega
                have hi8 : 1 ≤ k := by omega
                have hi9 : ¬ (k : Int) - 1 < 0 := by omega
                have hi10 : ¬ (k : Int) < 1 := by omega
                have hi0' : (k : Int) - 1 < (n : Int) := by omega
                have hi1' : k - 1 < n := by omega
                have hwr : IntKind.i64.wrap ((k : Int) - 1) = (k : Int) - 1 := by rw [IntKind.wrap_i64]; omega
                by_cases hF : p0 ≤ ahead
                · have HE : Hid (bd = true) := hide (by rw [HBD.out]; exact decide_eq_true (.inl hF))
                  have hdl : decide (p0 ≤ ahead) = true := decide_eq_true hF
                  clear hk0
                  go_quiet (fail)
                  go_wp2_with fail
                  go_meet
                  exact ⟨by rw [HE.out], hide (below_drewN (Below.refl _ _) _)⟩
                · have HE : Hid (bd = false) := hide (by rw [HBD.out]; exact decide_eq_false (by omega))
                  have hdl : decide (p0 ≤ ahead) = false := decide_eq_false hF
                  clear hk0
                  go_quiet (fail)
                  go_wp2_with fail
                  go_meet
                  exact ⟨by rw [HE.out], hide (below_drewN (Below.refl _ _) _)⟩
      case rest =>
        obtain ⟨rfl, HB4⟩ := hcut
        cases bd with
        | true =>
          have e9 : f = 102 := by rw [HDl.out, if_pos (of_decide_eq_true HBD.out.symm)]
          have HE9 : Hid _ := hide e9
          have HBc : Hid (Below w.heap.size w wc) := hide (HB3.out.trans (HB4.out.mono HB3.out.size))
          clear e9
          go_wp2
          go_ret2
          exact ⟨.inl ⟨by rw [HE9.out]; decide, by rw [HE9.out]; rfl⟩, HBc.out⟩
        | false =>
          have hno := of_decide_eq_false HBD.out.symm
          obtain ⟨sf, hsf⟩ : ∃ sf, sf = sfault (-1) R := ⟨_, rfl⟩
          have HDs : Hid (f = if sf ≠ 0 then sf else rfault p0 (cnt + pn) (Gs.drop (k + 1))) := hide (by rw [HDl.out, if_neg hno, hsf])
          have hp0a : ahead < p0 := by omega
          have hp0b : p0 < 65536 := by omega
          have HSF : Hid _ := hide hsf
          clear hno hsf x0 x1 z0 z1
          go_wp2_with fail
          go_loopw [8] (fun j wi => ∃ (q : Nat) (ah : Int), j = .int .i64 q ∧ q ≤ pn ∧ Hid (sf = sfault ah (R.drop q)) ∧ Hid (0 < q → ∃ r, R[q - 1]? = some r ∧ r.stamp = ah) ∧ Hid (q = 0 → ah = -1) ∧ Hid (Below w3.heap.size w3 wi)) (fun j _ => pn - numV j)
          case atStart => exact ⟨0, -1, rfl, Nat.zero_le _, hide HSF.out, hide (fun e => by omega), hide (fun _ => rfl), HB4⟩
          case round =>
            obtain ⟨q, ah, rfl, hq, HSK, HQP, HQ0, HBi⟩ := hrel
            rename World => wi
            have r4 := (HBi.out.block wr.heap.size HS3.out).trans HR3.out
            have z0 : wi.cell? ⟨wr.heap.size, 0, none⟩ = some (.int .i64 p0) := cell_at r4 rfl
            have z1 : wi.cell? ⟨wr.heap.size, 1, none⟩ = some (.slice pa pn pc) := cell_at r4 rfl
            have HR4 : Hid _ := hide r4
            have HBwi : Hid (Below w.heap.size w wi) := hide (HB3.out.trans (HBi.out.mono HB3.out.size))
            clear r4
            by_cases hlt2 : q < pn
            · have hltJ : (q : Int) < (pn : Int) := by omega
              obtain ⟨r, hr⟩ : ∃ r, R[q]? = some r := ⟨_, List.getElem?_eq_getElem (by rw [HPn.out]; exact hlt2)⟩
              have PR := (HPr.out.below HB03.out).below HBi.out
              obtain ⟨d1, f1, rfl, hd1, hc1⟩ := PR.at (by omega)
              have u0 := hc1 q r hr 0 _ rfl
              simp only [layR, Nat.add_zero] at u0
              have HQC : Hid (0 < q → wi.cell? ⟨d1, f1 + (q - 1) * 5, none⟩ = some (.int .i64 ah)) := hide (fun hpos => by
                obtain ⟨r9, h9, e9⟩ := HQP.out hpos
                rw [← e9]
                exact hc1 (q - 1) r9 h9 0 _ rfl)
              have HSd : Hid (sf = if r.stamp < 0 ∨ 1048576 ≤ r.stamp then 70 else if r.stamp ≤ ah then 80 else sfault r.stamp (R.drop (q + 1))) := hide (by rw [HSK.out, drop_at hr]; rfl)
              have HRq : Hid _ := hide hr
              obtain ⟨st, r1, r2, r3', r4'⟩ := r
              dsimp only at u0 HSd
              clear hc1 hr PR
              by_cases hA : st < 0
              · have HE9 : Hid (f = 70) := hide (by have hs : sf = 70 := (by rw [HSd.out, if_pos (.inl hA)]); rw [HDs.out, hs]; rfl)
                go_wp2
                go_ret2
                exact ⟨.inl ⟨by rw [HE9.out]; decide, by rw [HE9.out]; rfl⟩, HBwi.out⟩
              · by_cases hC : 1048576 ≤ st
                · have HE9 : Hid (f = 70) := hide (by have hs : sf = 70 := (by rw [HSd.out, if_pos (.inr hC)]); rw [HDs.out, hs]; rfl)
                  go_wp2
                  go_ret2
                  exact ⟨.inl ⟨by rw [HE9.out]; decide, by rw [HE9.out]; rfl⟩, HBwi.out⟩
                · by_cases hq0 : q = 0
                  · have HN9 : Hid (sf = sfault st (R.drop (q + 1))) := hide (by rw [HSd.out, if_neg (by omega), if_neg (by have := HQ0.out hq0; omega)])
                    have hi5 : decide ((0 : Int) < (q : Int)) = false := decide_eq_false (by omega)
                    have hi6 : decide (0 < q) = false := decide_eq_false (by omega)
                    have hi2' : ¬ (0 : Int) < (q : Int) := by omega
                    have hi4 : ¬ 0 < q := by omega
                    clear hq0
                    go_wp2_with fail
                    go_quiet (fail)
                    go_wp2
                    exact ⟨⟨q + 1, st, by go_num, by omega, HN9, hide (fun _ => ⟨_, by rw [Nat.add_sub_cancel]; exact HRq.out, rfl⟩), hide (fun e => by omega), hide (below_drewN HBi.out _)⟩, by simp [numV]; omega⟩
                  · have y0 := HQC.out (by omega)
                    have hi2' : (0 : Int) < (q : Int) := by omega
                    have hi4 : 0 < q := by omega
                    have hi6 : decide (0 < q) = true := decide_eq_true hi4
                    have hi5 : decide ((0 : Int) < (q : Int)) = true := decide_eq_true hi2'
                    have hi7 : (1 : Int) ≤ (q : Int) := by omega
                    have hi8 : 1 ≤ q := by omega
                    have hi9 : ¬ (q : Int) - 1 < 0 := by omega
                    have hi10 : ¬ (q : Int) < 1 := by omega
                    have hi0' : (q : Int) - 1 < (pn : Int) := by omega
                    have hi1' : q - 1 < pn := by omega
                    have hwr : IntKind.i64.wrap ((q : Int) - 1) = (q : Int) - 1 := by rw [IntKind.wrap_i64]; omega
                    by_cases hF : st ≤ ah
                    · have HE9 : Hid (f = 80) := hide (by have hs : sf = 80 := (by rw [HSd.out, if_neg (by omega), if_pos hF]); rw [HDs.out, hs]; rfl)
                      have hdl : decide (st ≤ ah) = true := decide_eq_true hF
                      clear hq0
                      go_wp2_with fail
                      go_quiet (fail)
                      go_wp2
                      go_ret2
                      exact ⟨.inl ⟨by rw [HE9.out]; decide, by rw [HE9.out]; rfl⟩, below_drewN HBwi.out _⟩
                    · have HN9 : Hid (sf = sfault st (R.drop (q + 1))) := hide (by rw [HSd.out, if_neg (by omega), if_neg hF])
                      have hdl : decide (st ≤ ah) = false := decide_eq_false hF
                      clear hq0
                      go_wp2_with fail
                      go_quiet (fail)
                      go_wp2
                      exact ⟨⟨q + 1, st, by go_num, by omega, HN9, hide (fun _ => ⟨_, by rw [Nat.add_sub_cancel]; exact HRq.out, rfl⟩), hide (fun e => by omega), hide (below_drewN HBi.out _)⟩, by simp [numV]; omega⟩
            · have hltJ : ¬ (q : Int) < (pn : Int) := by omega
              obtain rfl : q = pn := by omega
              have HFn : Hid (f = rfault p0 (cnt + q) (Gs.drop (k + 1))) := hide (by rw [HDs.out, if_neg]; rw [HSK.out, List.drop_of_length_le (by rw [HPn.out]; exact Nat.le_refl _)]; exact fun e => e rfl)
              have hq0I : (0 : Int) ≤ (q : Int) := by omega
              obtain ⟨w5, hw5⟩ : ∃ w5, w5 = wi.alloc (.cells #[.int .i64 p0, .slice none 0 0] 38) := ⟨_, rfl⟩
              have b5 : Below wi.heap.size wi w5 := by rw [hw5]; exact below_alloc1 _ _
              have s5 : wi.heap.size < w5.heap.size := by rw [hw5]; simp
              have r5 : w5.heap[wi.heap.size]? = some (.cells #[.int .i64 p0, .slice none 0 0] 38 (0, 0)) := by rw [hw5]; exact heap_new _ _
              have c5 : w5.cell? ⟨wi.heap.size, 1, none⟩ = some (.slice none 0 0) := cell_at r5 rfl
              have q5 := (b5.block wr.heap.size (by have := get_lt' HR4.out; omega)).trans HR4.out
              have d5 : w5.cell? ⟨wr.heap.size, 1, none⟩ = some (.slice pa q pc) := cell_at q5 rfl
              have HPr5 : Hid _ := hide (((HPr.out.below HB03.out).below HBi.out).below b5)
              have HW5 : Hid _ := hide hw5
              have HR5 : Hid _ := hide r5
              have HQ5 : Hid _ := hide q5
              have HS5 : Hid _ := hide s5
              have HB5 : Hid _ := hide b5
              have HBw5 : Hid (Below w.heap.size w w5) := hide (HBwi.out.trans (b5.mono HBwi.out.size))
              clear hw5 b5 s5 r5 q5
              go_upto_region 17 with fail
              rw [← HW5.out]
              clear z0 z1
              go_wp2_with (
                at_builtin
                refine append_lay layR _ 36 41 i0 _ 40 Try.underlying36 hi0 hz0 hz1 hz2 rfl rfl (.tmp 96) (.tmp 98) rfl w.heap.size (.slice none 0 0) [] rfl (Own.nil layR 41 w5 w.heap.size) _ _ _ R rfl HPr5.out HPz.out (by simp; unfold maxLen; omega) (by simp; exact HGl.out) HBw5.out.size ?_
                intro v6 w6 o6 g6 l6
                rw [List.nil_append] at o6
                have b6 : Below w5.heap.size w5 w6 := (Below.refl _ _).grown g6 (Nat.le_refl _) (fun _ e9 => by cases e9)
                have L6 : ∀ g, v6.ownBlock = some g → w5.heap.size ≤ g := fun g hg => by
                  rcases l6 with l6 | l6
                  · rw [l6] at hg; simp [Value.ownBlock] at hg
                  · rw [l6] at hg; exact Nat.le_of_eq (Option.some.inj hg)
                obtain ⟨na, nc, hv6, -, -⟩ := own_form o6
                rw [HPn.out] at hv6
                subst hv6
                have r6 := (b6.block wi.heap.size HS5.out).trans HR5.out
                have c6 : w6.cell? ⟨wi.heap.size, 1, none⟩ = some (.slice none 0 0) := cell_at r6 rfl
                have f6 := frz r6 1
                have HB6 : Hid _ := hide b6
                have HR6 : Hid _ := hide r6
                have HO6 : Hid _ := hide o6
                have HL6 : Hid _ := hide L6
                clear b6 r6 o6 g6 l6 L6 c5 d5)
              clear c6 f6
              have sb := but_setC w6 ⟨wi.heap.size, 1, none⟩ (.slice na q nc)
              have r7 : (w6.setCell ⟨wi.heap.size, 1, none⟩ (.slice na q nc)).heap[wi.heap.size]? = some (.cells #[.int .i64 p0, .slice na q nc] 38 (0, 0)) := set1_heap (i := 1) _ HR6.out
              have b57 : Below wi.heap.size wi (w6.setCell ⟨wi.heap.size, 1, none⟩ (.slice na q nc)) := (HB5.out.trans (HB6.out.mono (Nat.le_of_lt HS5.out))).trans (sb.below (by have := HB6.out.size; have := HS5.out; omega) (fun k hk => by have e : k = wi.heap.size := hk; omega))
              have o7 : Own layR 41 (w6.setCell ⟨wi.heap.size, 1, none⟩ (.slice na q nc)) w.heap.size (.slice na q nc) R := HO6.out.but sb (fun g hg e => by have := HL6.out g hg; have e9 : g = wi.heap.size := e; have := HS5.out; omega)
              generalize hw7 : w6.setCell ⟨wi.heap.size, 1, none⟩ (.slice na q nc) = w7 at r7 b57 o7
              have HR7 : Hid _ := hide r7
              have HB7 : Hid _ := hide b57
              have HO7 : Hid _ := hide o7
              have HBr7 : Hid (Below wr.heap.size wr w7) := hide ((HB03.out.trans (HBi.out.mono (Nat.le_of_lt HS3.out))).trans (b57.mono (by have := HBi.out.size; have := HS3.out; omega)))
              have HBw7 : Hid (Below w.heap.size w w7) := hide (HBwi.out.trans (b57.mono HBwi.out.size))
              have HPM7 : Hid _ := hide ((HBr7.out.block w.heap.size (get_lt' HPM.out)).trans HPM.out)
              have HQ7 : Hid _ := hide ((b57.block wr.heap.size (get_lt' HR4.out)).trans HR4.out)
              have HZ7 : Hid _ := hide (HZ.out.own.below HBr7.out)
              have HRl : Hid (rs.length = k) := hide (by rw [HZ.out.len, List.length_take, HG.out]; omega)
              have hrw : ¬ wi.heap.size = w.heap.size := by have := get_lt' HPM.out; have := HBi.out.size; have := HS3.out; omega
              have HSV : Hid (∀ X, But (fun q => q = w.heap.size ∨ vr.ownBlock = some q) w7 X → X.cell? ⟨wi.heap.size, 0, none⟩ = some (.int .i64 p0) ∧ X.cell? ⟨wi.heap.size, 1, none⟩ = some (.slice na q nc)) := hide (fun X hX => by
                have r9 := (hX.block wi.heap.size (get_lt' HR7.out) (fun e => by
                  rcases e with e | e
                  · exact hrw e
                  · have := (HZ.out.own.lt _ e).2; have := HBi.out.size; have := HS3.out; omega)).trans HR7.out
                exact ⟨cell_at r9 rfl, cell_at r9 rfl⟩)
              clear sb r7 b57 o7 hw7
              go_cut [7] from 12 to 124 (fun s7 wx => s7 = .pointer (some ⟨wr.heap.size, 0, none⟩) ∧ ∃ v9 rs9, Hid (wx.heap[w.heap.size]? = some (.cells #[v9, va, .int .i64 0] 77 (0, 0))) ∧ Hid (Rowz wx w.heap.size v9 rs9 (Gs.take (k + 1))) ∧ Hid (Own layN 3 wx w.heap.size va (List.replicate k 0)) ∧ Hid (wx.heap[wr.heap.size]? = some (.cells #[.int .i64 p0, .slice pa q pc] 38 (0, 0))) ∧ Hid (Below w.heap.size w wx))
              case first =>
                refine wp_region_noPanic ?_
                refine wp_region_held_drew (S := fun X => X.cell? ⟨wi.heap.size, 0, none⟩ = some (.int .i64 p0) ∧ X.cell? ⟨wi.heap.size, 1, none⟩ = some (.slice na q nc)) (by kernel_rfl) (HSV.out _ (But.refl _ _).drew) (fun hHeld => ?_)
                refine wpAnyH_take (i := 0) (oi := _) (v := ?v0j) rfl (by kernel_rfl) (by kernel_rfl) (by kernel_rfl) (fun _ _ _ h => h) (Or.inl ⟨by rfl, ?y0j⟩) (by assumption) ?r0j
                case y0j => (intro w' hSw; (try dsimp only at hSw); go_simp; try with_reducible rfl)
                refine wpAnyH_take (i := 1) (oi := _) (v := ?v1j) rfl (by kernel_rfl) (by kernel_rfl) (by kernel_rfl) (fun _ _ _ h => h) (Or.inl ⟨by rfl, ?y1j⟩) (by assumption) ?r1j
                case y1j => (intro w' hSw; (try dsimp only at hSw); go_simp; try with_reducible rfl)
                refine wpAnyH_take (i := 2) (oi := _) (v := ?v2j) rfl (by kernel_rfl) (by kernel_rfl) (by kernel_rfl) (fun _ _ _ h => h) (Or.inl ⟨by rfl, ?y2j⟩) (by assumption) ?r2j
                case y2j => (intro w' hSw; (try dsimp only at hSw); go_simp; try with_reducible rfl)
                refine wpAnyH_take (i := 3) (oi := _) (v := ?v3j) rfl (by kernel_rfl) (by kernel_rfl) (by kernel_rfl) (fun _ _ _ h => h) (Or.inl ⟨by rfl, ?y3j⟩) (by assumption) ?r3j
                case y3j => (intro w' hSw; (try dsimp only at hSw); go_simp; try with_reducible rfl)
                refine wpAnyH_take (i := 5) (oi := _) (v := ?v5j) rfl (by kernel_rfl) (by kernel_rfl) (by kernel_rfl) (fun _ _ _ h => h) (Or.inl ⟨by rfl, ?y5j⟩) (by assumption) ?r5j
                case y5j => (intro w' hSw; (try dsimp only at hSw); go_simp; try with_reducible rfl)
                have cm0 : w7.cell? ⟨w.heap.size, 0, none⟩ = some vr := cell_at HPM7.out rfl
                have hwl : w.heap.size < w7.heap.size := get_lt' HPM7.out
                refine wpAnyH_ready (rs := [4, 6]) (by kernel_rfl) (by simp) ?_
                refine AllReadyH.cons (o := _) rfl (fun KK hKK => ?_) (AllReadyH.cons (o := _) rfl (fun KK hKK => ?_) AllReadyH.nil)
                · go_simp
                  refine hKK.out _ _ (HSV.out _ (But.refl _ _).drew) (fun hHeld4 => ?_)
                  clear hKK KK
                  refine wpAnyH_ready (rs := [6]) (by kernel_rfl) (by simp) ?_
                  refine AllReadyH.cons (o := _) rfl (fun KK hKK => ?_) AllReadyH.nil
                  go_simp
                  refine hKK.out _ _ (HSV.out _ ((But.of_below (S := fun q => q = w.heap.size ∨ vr.ownBlock = some q) (below_alloc1 w7 _)).drew)) (fun hHeld6 => ?_)
                  clear hKK KK
                  clear cm0 hwl
                  refine wpAnyH_ready (rs := [7]) (by kernel_rfl) (by simp) ?_
                  refine AllReadyH.cons (o := _) rfl (fun KK hKK => ?_) AllReadyH.nil
                  refine step_append_lies _ rfl (.tmp 105) (.tmp 107) 22 rfl w.heap.size 38 i1 _ 2 32 Try.underlying22 hi1 hy0 hy1 hy2 rfl (by decide) vr rs.length _ rfl (HZ7.out.below ((below_alloc1 w7 _).drew)) ⟨w7.heap.size, 0, none⟩ 1 1 (layW.cs ⟨p0, ⟨na, q, nc⟩⟩) rfl rfl (World.news_of_block (show _ = _ from heap_new w7 _)) (layW.one _) (by decide) (by rw [HRl.out]; unfold maxLen; omega) (by rw [HRl.out]; have := HNb.out; omega) (by simp; have := HBw7.out.size; omega) _ rfl ?_
                  intro g9 cap9 w8 o8 g8 l8 lt8
                  have gb : But (fun q => q = w.heap.size ∨ vr.ownBlock = some q) w7 w8 := ((But.of_below (S := fun q => q = w.heap.size ∨ vr.ownBlock = some q) (below_alloc1 w7 (.cells #[.int .i64 p0, .slice na q nc] 38))).drew).trans (But.of_grown (S := fun q => q = w.heap.size ∨ vr.ownBlock = some q) g8 (fun k hk => .inr hk)) (fun _ _ e => e)
                  have hnm : vr.ownBlock ≠ some w.heap.size := own_ne_cells HZ7.out HPM7.out (by decide)
                  have m8 := (by
                    have gb2 : But (fun q => vr.ownBlock = some q) w7 w8 := ((But.of_below (S := fun q => vr.ownBlock = some q) (below_alloc1 w7 (.cells #[.int .i64 p0, .slice na q nc] 38))).drew).trans (But.of_grown (S := fun q => vr.ownBlock = some q) g8 (fun k hk => hk)) (fun _ _ e => e)
                    exact (gb2.block w.heap.size (get_lt' HPM7.out) hnm).trans HPM7.out : w8.heap[w.heap.size]? = some (.cells #[vr, va, .int .i64 0] 77 (0, 0)))
                  have z8 : Rowz w8 w.heap.size (.slice (some ⟨g9, 0, none⟩) (rs.length + 1) cap9) (rs ++ [⟨p0, ⟨na, q, nc⟩⟩]) (Gs.take (k + 1)) := by
                    rw [HT.out]
                    exact HZ.out.snoc (s := ⟨na, q, nc⟩) (w1 := (w7.alloc (.cells #[.int .i64 p0, .slice na q nc] 38)).drew) ((HBr7.out.alloc HBr7.out.size _).drew) (HO7.out.below (below_alloc1 w7 _).drew) (fun g hg => by have := HL6.out g hg; have := HS5.out; have := HBi.out.size; have := HS3.out; omega) (by unfold Own; rw [List.length_append, layW.fl_app, layW.fl_one]; exact o8) g8
                  have bw8 : Below w.heap.size w w8 := HBw7.out.trans (gb.below HBw7.out.size (fun k hk => by rcases hk with e | e; exact Nat.le_of_eq e.symm; exact (HZ.out.own.lt _ e).1))
                  have a8 : Own layN 3 w8 w.heap.size va (List.replicate k 0) := (HA.out.below HBr7.out).but gb (fun g hg e => by
                    rcases e with e | e
                    · exact own_ne_cells HA.out HPM.out (by decide) (by rw [hg, e])
                    · obtain ⟨c1', h1'⟩ := own_ty HA.out hg
                      obtain ⟨c2', h2'⟩ := own_ty HZ.out.own e
                      rw [h1'] at h2'; cases h2')
                  have q8 := (gb.block wr.heap.size (get_lt' HQ7.out) (fun e => by
                    rcases e with e | e
                    · have := get_lt' HPM.out; omega
                    · have := (HZ.out.own.lt _ e).2; omega)).trans HQ7.out
                  have cm : w8.cell? ⟨w.heap.size, 0, none⟩ = some vr := cell_at m8 rfl
                  have fm := frz m8 0
                  have HM8 : Hid _ := hide m8
                  have HZ8 : Hid _ := hide z8
                  have HW8 : Hid _ := hide bw8
                  have HA8 : Hid _ := hide a8
                  have HQ8 : Hid _ := hide q8
                  have HGB : Hid _ := hide gb
                  clear o8 g8 l8 lt8 gb hnm m8 z8 bw8 a8 q8
                  refine hKK.out _ _ (HSV.out _ HGB.out) (fun hHeld7 => ?_)
                  clear hKK KK
                  refine wpAnyH_take (i := 8) (oi := _) (v := ?v8ja) rfl (by kernel_rfl) (by kernel_rfl) (by kernel_rfl) (fun _ _ _ h => h) (Or.inl ⟨by rfl, ?y8ja⟩) (by assumption) ?r8ja
                  case y8ja => (intro w' hSw; (try dsimp only at hSw); go_simp; try with_reducible rfl)
                  refine wpAnyH_take (i := 9) (oi := _) (v := ?v9ja) rfl (by kernel_rfl) (by kernel_rfl) (by kernel_rfl) (fun _ _ _ h => h) (Or.inl ⟨by rfl, ?y9ja⟩) (by assumption) ?r9ja
                  case y9ja => (intro w' hSw; (try dsimp only at hSw); go_simp; try with_reducible rfl)
                  refine wpAnyH_ready (rs := [10]) (by kernel_rfl) (by simp) ?_
                  refine AllReadyH.cons (o := _) rfl (fun KK hKK => ?_) AllReadyH.nil
                  go_simp
                  have sb := but_setC w8 ⟨w.heap.size, 0, none⟩ (.slice (some ⟨g9, 0, none⟩) (rs.length + 1) cap9)
                  refine hKK.out _ _ (HSV.out _ (HGB.out.trans sb (fun _ _ e => .inl e))) (fun hHeld10 => ?_)
                  clear hKK KK
                  refine wpAnyH_done (by kernel_rfl) ?_ _
                  refine NoPanic.normal ?_
                  have sb := but_setC w8 ⟨w.heap.size, 0, none⟩ (.slice (some ⟨g9, 0, none⟩) (rs.length + 1) cap9)
                  have G1 : Hid ((w8.setCell ⟨w.heap.size, 0, none⟩ (.slice (some ⟨g9, 0, none⟩) (rs.length + 1) cap9)).heap[w.heap.size]? = some (.cells #[.slice (some ⟨g9, 0, none⟩) (rs.length + 1) cap9, va, .int .i64 0] 77 (0, 0))) := hide (set1_heap (i := 0) _ HM8.out)
                  have G2 : Hid (Rowz (w8.setCell ⟨w.heap.size, 0, none⟩ (.slice (some ⟨g9, 0, none⟩) (rs.length + 1) cap9)) w.heap.size (.slice (some ⟨g9, 0, none⟩) (rs.length + 1) cap9) (rs ++ [⟨p0, ⟨na, q, nc⟩⟩]) (Gs.take (k + 1))) := hide (HZ8.out.but sb (fun q cur T h1 h2 e => by
                    have e9 : q = w.heap.size := e
                    rw [e9, HM8.out] at h1
                    cases h1
                    rcases h2 with h2 | h2 <;> exact absurd h2 (by decide)))
                  have G3 : Hid (Own layN 3 (w8.setCell ⟨w.heap.size, 0, none⟩ (.slice (some ⟨g9, 0, none⟩) (rs.length + 1) cap9)) w.heap.size va (List.replicate k 0)) := hide (HA8.out.but sb (fun g hg e => own_ne_cells HA8.out HM8.out (by decide) (by have e9 : g = w.heap.size := e; rw [hg, e9])))
                  have G4 : Hid ((w8.setCell ⟨w.heap.size, 0, none⟩ (.slice (some ⟨g9, 0, none⟩) (rs.length + 1) cap9)).heap[wr.heap.size]? = some (.cells #[.int .i64 p0, .slice pa q pc] 38 (0, 0))) := hide ((sb.block wr.heap.size (get_lt' HQ8.out) (fun e => by have e9 : wr.heap.size = w.heap.size := e; have := get_lt' HPM.out; omega)).trans HQ8.out)
                  have G5 : Hid (Below w.heap.size w (w8.setCell ⟨w.heap.size, 0, none⟩ (.slice (some ⟨g9, 0, none⟩) (rs.length + 1) cap9))) := hide (HW8.out.trans (sb.below HW8.out.size (fun k hk => Nat.le_of_eq (show w.heap.size = k from Eq.symm hk))))
                  clear cm fm sb
                  generalize (w8.setCell ⟨w.heap.size, 0, none⟩ (.slice (some ⟨g9, 0, none⟩) (rs.length + 1) cap9)) = w9 at G1 G2 G3 G4 G5
                  go_wp2_with fail
                  go_meet
                  exact ⟨rfl, _, _, G1, G2, G3, G4, G5⟩
                · go_simp
                  refine hKK.out _ _ (HSV.out _ ((But.of_below (S := fun q => q = w.heap.size ∨ vr.ownBlock = some q) (below_alloc1 w7 _)).drew)) (fun hHeld6 => ?_)
                  clear hKK KK
                  refine wpAnyH_ready (rs := [4]) (by kernel_rfl) (by simp) ?_
                  refine AllReadyH.cons (o := _) rfl (fun KK hKK => ?_) AllReadyH.nil
                  go_simp
                  refine hKK.out _ _ (HSV.out _ ((But.of_below (S := fun q => q = w.heap.size ∨ vr.ownBlock = some q) (below_alloc1 w7 _)).drew)) (fun hHeld4 => ?_)
                  clear hKK KK
                  clear cm0 hwl
                  refine wpAnyH_ready (rs := [7]) (by kernel_rfl) (by simp) ?_
                  refine AllReadyH.cons (o := _) rfl (fun KK hKK => ?_) AllReadyH.nil
                  refine step_append_lies _ rfl (.tmp 105) (.tmp 107) 22 rfl w.heap.size 38 i1 _ 2 32 Try.underlying22 hi1 hy0 hy1 hy2 rfl (by decide) vr rs.length _ rfl (HZ7.out.below ((below_alloc1 w7 _).drew)) ⟨w7.heap.size, 0, none⟩ 1 1 (layW.cs ⟨p0, ⟨na, q, nc⟩⟩) rfl rfl (World.news_of_block (show _ = _ from heap_new w7 _)) (layW.one _) (by decide) (by rw [HRl.out]; unfold maxLen; omega) (by rw [HRl.out]; have := HNb.out; omega) (by simp; have := HBw7.out.size; omega) _ rfl ?_
                  intro g9 cap9 w8 o8 g8 l8 lt8
                  have gb : But (fun q => q = w.heap.size ∨ vr.ownBlock = some q) w7 w8 := ((But.of_below (S := fun q => q = w.heap.size ∨ vr.ownBlock = some q) (below_alloc1 w7 (.cells #[.int .i64 p0, .slice na q nc] 38))).drew).trans (But.of_grown (S := fun q => q = w.heap.size ∨ vr.ownBlock = some q) g8 (fun k hk => .inr hk)) (fun _ _ e => e)
                  have hnm : vr.ownBlock ≠ some w.heap.size := own_ne_cells HZ7.out HPM7.out (by decide)
                  have m8 := (by
                    have gb2 : But (fun q => vr.ownBlock = some q) w7 w8 := ((But.of_below (S := fun q => vr.ownBlock = some q) (below_alloc1 w7 (.cells #[.int .i64 p0, .slice na q nc] 38))).drew).trans (But.of_grown (S := fun q => vr.ownBlock = some q) g8 (fun k hk => hk)) (fun _ _ e => e)
                    exact (gb2.block w.heap.size (get_lt' HPM7.out) hnm).trans HPM7.out : w8.heap[w.heap.size]? = some (.cells #[vr, va, .int .i64 0] 77 (0, 0)))
                  have z8 : Rowz w8 w.heap.size (.slice (some ⟨g9, 0, none⟩) (rs.length + 1) cap9) (rs ++ [⟨p0, ⟨na, q, nc⟩⟩]) (Gs.take (k + 1)) := by
                    rw [HT.out]
                    exact HZ.out.snoc (s := ⟨na, q, nc⟩) (w1 := (w7.alloc (.cells #[.int .i64 p0, .slice na q nc] 38)).drew) ((HBr7.out.alloc HBr7.out.size _).drew) (HO7.out.below (below_alloc1 w7 _).drew) (fun g hg => by have := HL6.out g hg; have := HS5.out; have := HBi.out.size; have := HS3.out; omega) (by unfold Own; rw [List.length_append, layW.fl_app, layW.fl_one]; exact o8) g8
                  have bw8 : Below w.heap.size w w8 := HBw7.out.trans (gb.below HBw7.out.size (fun k hk => by rcases hk with e | e; exact Nat.le_of_eq e.symm; exact (HZ.out.own.lt _ e).1))
                  have a8 : Own layN 3 w8 w.heap.size va (List.replicate k 0) := (HA.out.below HBr7.out).but gb (fun g hg e => by
                    rcases e with e | e
                    · exact own_ne_cells HA.out HPM.out (by decide) (by rw [hg, e])
                    · obtain ⟨c1', h1'⟩ := own_ty HA.out hg
                      obtain ⟨c2', h2'⟩ := own_ty HZ.out.own e
                      rw [h1'] at h2'; cases h2')
                  have q8 := (gb.block wr.heap.size (get_lt' HQ7.out) (fun e => by
                    rcases e with e | e
                    · have := get_lt' HPM.out; omega
                    · have := (HZ.out.own.lt _ e).2; omega)).trans HQ7.out
                  have cm : w8.cell? ⟨w.heap.size, 0, none⟩ = some vr := cell_at m8 rfl
                  have fm := frz m8 0
                  have HM8 : Hid _ := hide m8
                  have HZ8 : Hid _ := hide z8
                  have HW8 : Hid _ := hide bw8
                  have HA8 : Hid _ := hide a8
                  have HQ8 : Hid _ := hide q8
                  have HGB : Hid _ := hide gb
                  clear o8 g8 l8 lt8 gb hnm m8 z8 bw8 a8 q8
                  refine hKK.out _ _ (HSV.out _ HGB.out) (fun hHeld7 => ?_)
                  clear hKK KK
                  refine wpAnyH_take (i := 8) (oi := _) (v := ?v8jb) rfl (by kernel_rfl) (by kernel_rfl) (by kernel_rfl) (fun _ _ _ h => h) (Or.inl ⟨by rfl, ?y8jb⟩) (by assumption) ?r8jb
                  case y8jb => (intro w' hSw; (try dsimp only at hSw); go_simp; try with_reducible rfl)
                  refine wpAnyH_take (i := 9) (oi := _) (v := ?v9jb) rfl (by kernel_rfl) (by kernel_rfl) (by kernel_rfl) (fun _ _ _ h => h) (Or.inl ⟨by rfl, ?y9jb⟩) (by assumption) ?r9jb
                  case y9jb => (intro w' hSw; (try dsimp only at hSw); go_simp; try with_reducible rfl)
                  refine wpAnyH_ready (rs := [10]) (by kernel_rfl) (by simp) ?_
                  refine AllReadyH.cons (o := _) rfl (fun KK hKK => ?_) AllReadyH.nil
                  go_simp
                  have sb := but_setC w8 ⟨w.heap.size, 0, none⟩ (.slice (some ⟨g9, 0, none⟩) (rs.length + 1) cap9)
                  refine hKK.out _ _ (HSV.out _ (HGB.out.trans sb (fun _ _ e => .inl e))) (fun hHeld10 => ?_)
                  clear hKK KK
                  refine wpAnyH_done (by kernel_rfl) ?_ _
                  refine NoPanic.normal ?_
                  have sb := but_setC w8 ⟨w.heap.size, 0, none⟩ (.slice (some ⟨g9, 0, none⟩) (rs.length + 1) cap9)
                  have G1 : Hid ((w8.setCell ⟨w.heap.size, 0, none⟩ (.slice (some ⟨g9, 0, none⟩) (rs.length + 1) cap9)).heap[w.heap.size]? = some (.cells #[.slice (some ⟨g9, 0, none⟩) (rs.length + 1) cap9, va, .int .i64 0] 77 (0, 0))) := hide (set1_heap (i := 0) _ HM8.out)
                  have G2 : Hid (Rowz (w8.setCell ⟨w.heap.size, 0, none⟩ (.slice (some ⟨g9, 0, none⟩) (rs.length + 1) cap9)) w.heap.size (.slice (some ⟨g9, 0, none⟩) (rs.length + 1) cap9) (rs ++ [⟨p0, ⟨na, q, nc⟩⟩]) (Gs.take (k + 1))) := hide (HZ8.out.but sb (fun q cur T h1 h2 e => by
                    have e9 : q = w.heap.size := e
                    rw [e9, HM8.out] at h1
                    cases h1
                    rcases h2 with h2 | h2 <;> exact absurd h2 (by decide)))
                  have G3 : Hid (Own layN 3 (w8.setCell ⟨w.heap.size, 0, none⟩ (.slice (some ⟨g9, 0, none⟩) (rs.length + 1) cap9)) w.heap.size va (List.replicate k 0)) := hide (HA8.out.but sb (fun g hg e => own_ne_cells HA8.out HM8.out (by decide) (by have e9 : g = w.heap.size := e; rw [hg, e9])))
                  have G4 : Hid ((w8.setCell ⟨w.heap.size, 0, none⟩ (.slice (some ⟨g9, 0, none⟩) (rs.length + 1) cap9)).heap[wr.heap.size]? = some (.cells #[.int .i64 p0, .slice pa q pc] 38 (0, 0))) := hide ((sb.block wr.heap.size (get_lt' HQ8.out) (fun e => by have e9 : wr.heap.size = w.heap.size := e; have := get_lt' HPM.out; omega)).trans HQ8.out)
                  have G5 : Hid (Below w.heap.size w (w8.setCell ⟨w.heap.size, 0, none⟩ (.slice (some ⟨g9, 0, none⟩) (rs.length + 1) cap9))) := hide (HW8.out.trans (sb.below HW8.out.size (fun k hk => Nat.le_of_eq (show w.heap.size = k from Eq.symm hk))))
                  clear cm fm sb
                  generalize (w8.setCell ⟨w.heap.size, 0, none⟩ (.slice (some ⟨g9, 0, none⟩) (rs.length + 1) cap9)) = w9 at G1 G2 G3 G4 G5
                  go_wp2_with fail
                  go_meet
                  exact ⟨rfl, _, _, G1, G2, G3, G4, G5⟩
              case rest =>
                obtain ⟨rfl, v9, rs9, G1, G2, G3, G4, G5⟩ := hcut
                rename World => wy
                have cm1 : wy.cell? ⟨w.heap.size, 1, none⟩ = some va := cell_at G1.out rfl
                have hwc : IntKind.i64.wrap ((cnt : Int) + (q : Int)) = (cnt : Int) + (q : Int) := by rw [IntKind.wrap_i64]; omega
                have hwk : IntKind.i64.wrap ((k : Int) + 1) = (k : Int) + 1 := by rw [IntKind.wrap_i64]; omega
                have hne1 : ¬ w.heap.size = wr.heap.size := by have := get_lt' HPM.out; omega
                have hne2 : ¬ wr.heap.size = w.heap.size := by have := get_lt' HPM.out; omega
                have HP0 : Hid _ := hide hp0a
                have HP1' : Hid _ := hide hp0b
                have HQI : Hid _ := hide hpI
                have HKA : Hid _ := hide hka
                have HAH : Hid _ := hide hah
                have HCT : Hid _ := hide hcnt
                clear hp0a hp0b hpI hka hah hcnt
                go_wp2_with (
                  at_builtin
                  refine append_lay layN _ 23 3 i2 _ 8 Try.underlying23 hi2 hx0 hx1 hx2 rfl rfl (.tmp 115) (.tmp 116) rfl w.heap.size va (List.replicate k 0) rfl (G3.out.below (below_alloc1 _ _)) _ _ _ [(0 : Int)] rfl (TRow.one (heap_new _ _)) (fun e => by cases e) (by rw [List.length_replicate]; unfold maxLen; omega) (by rw [List.length_replicate]; omega) (by simp; have := G5.out.size; omega) ?_
                  intro v10 w10 o10 g10 l10
                  have b10 : But (fun q => va.ownBlock = some q) wy w10 := (But.of_below (S := fun q => va.ownBlock = some q) (below_alloc1 wy _)).trans (But.of_grown (S := fun q => va.ownBlock = some q) g10 (fun k hk => hk)) (fun _ _ e => e)
                  have ty10 : ∀ q cur T, wy.heap[q]? = some (.cells cur T (0, 0)) → T ≠ 3 → ¬ va.ownBlock = some q := fun q cur T hq hT e => own_ne_cells G3.out hq (fun e9 => hT e9.symm) e
                  have m10 := (b10.block w.heap.size (get_lt' G1.out) (ty10 _ _ _ G1.out (by decide))).trans G1.out
                  have q10 := (b10.block wr.heap.size (get_lt' G4.out) (ty10 _ _ _ G4.out (by decide))).trans G4.out
                  have HZ10 : Hid (Rowz w10 w.heap.size v9 rs9 (Gs.take (k + 1))) := hide (G2.out.but b10 (fun q cur T h1 h2 => ty10 q cur T h1 (by rcases h2 with h2 | h2 <;> subst h2 <;> decide)))
                  have HW10 : Hid (Below w.heap.size w w10) := hide (G5.out.trans (b10.below G5.out.size (fun k hk => (G3.out.lt k hk).1)))
                  obtain ⟨a10, c10, hv10, -, -⟩ := own_form o10
                  have HO10 : Hid _ := hide o10
                  have HM10 : Hid _ := hide m10
                  rw [List.length_append, List.length_replicate, List.length_singleton] at hv10
                  subst hv10
                  have cm2 : w10.cell? ⟨w.heap.size, 1, none⟩ = some va := cell_at m10 rfl
                  have fm2 := frz m10 1
                  have d10 : w10.cell? ⟨wr.heap.size, 1, none⟩ = some (.slice pa q pc) := cell_at q10 rfl
                  clear o10 g10 l10 b10 ty10 m10 q10 cm1)
                have sb := but_setC w10 ⟨w.heap.size, 1, none⟩ (.slice a10 (k + 1) c10)
                refine ⟨⟨k + 1, cnt + q, p0, v9, .slice a10 (k + 1) c10, rs9, by go_num, by go_num, by omega, ?_, HP1'.out, hide ?_, HFn, hide (fun _ => ⟨(p0, R), by rw [Nat.add_sub_cancel]; exact HGk.out, rfl⟩), hide (fun e => by omega), hide (set1_heap (i := 1) _ HM10.out), hide ?_, hide ?_, hide ?_⟩, by simp [numV]; omega⟩
                · have := HP0.out; have := HKA.out; omega
                · have := HC.out; have := HQI.out; push_cast; omega
                · exact HZ10.out.but sb (fun q cur T h1 h2 e => by
                    have e9 : q = w.heap.size := e
                    rw [e9, HM10.out] at h1
                    cases h1
                    rcases h2 with h2 | h2 <;> exact absurd h2 (by decide))
                · rw [List.replicate_succ']
                  exact HO10.out.but sb (fun g hg e => own_ne_cells HO10.out HM10.out (by decide) (by have e9 : g = w.heap.size := e; rw [hg, e9]))
                · exact HW10.out.trans (sb.below HW10.out.size (fun k hk => Nat.le_of_eq (show w.heap.size = k from Eq.symm hk)))
    · have hltI : ¬ (k : Int) < (n : Int) := by omega
      obtain rfl : k = n := by omega
      have HE : Hid (f = if 1048576 < cnt then 3 else 0) := hide (by rw [HK.out, List.drop_of_length_le (by rw [HG.out]; exact Nat.le_refl _)]; rfl)
      by_cases hL : 1048576 < cnt
      · have hLI : (1048576 : Int) < (cnt : Int) := by omega
        have e1 : decide ((1048576 : Int) < (cnt : Int)) = true := decide_eq_true hLI
        have HE9 : Hid (f = 3) := hide (by rw [HE.out, if_pos hL])
        clear hL
        go_wp2
        go_ret2
        exact ⟨.inl ⟨by rw [HE9.out]; decide, by rw [HE9.out]; rfl⟩, HB.out⟩
      · have hLI : ¬ (1048576 : Int) < (cnt : Int) := by omega
        have e1 : decide ((1048576 : Int) < (cnt : Int)) = false := decide_eq_false hLI
        have HE9 : Hid (f = 0) := hide (by rw [HE.out, if_neg hL])
        clear hL
        go_wp2
        go_ret2
        refine ⟨.inr ⟨HE9.out, w.heap.size, rfl, vr, va, ⟨HPM.out, ⟨rs, ?_⟩, ?_, by simp, fun j m G h1 h2 => ?_, Nat.le_refl _⟩⟩, HB.out⟩
        · have h9 := HZ.out
          rw [List.take_of_length_le (by rw [HG.out]; exact Nat.le_refl _)] at h9
          exact h9
        · rw [List.map_replicate, HG.out]
          exact HA.out
        · have := List.mem_of_getElem? h1
          rw [List.eq_of_mem_replicate this]
          exact Nat.zero_le _
end Go.Proofs.Ytdlpffbeladgaaa
