/-
  Why rows can't be put together: stampsFault, rowsFault.
-/
import Derived.Test.YtdlpffbeladgaabMgM
namespace Go.Proofs.Ytdlpffbeladgaab
open Go.RowKit
theorem drop_at {α : Type} {L : List α} {k : Nat} {x : α} (h : L[k]? = some x) : L.drop k = x :: L.drop (k + 1) := by
  have hl := get_lt h
  rw [List.drop_eq_getElem_cons hl]
  rw [List.getElem?_eq_getElem hl] at h
  rw [Option.some.inj h]
set_option maxRecDepth 8000 in
set_option maxHeartbeats 1600000 in
theorem sf_any (w : World) (a : Option Addr) (n c : Nat) (R : List Rc) (hr : TRow layR w a n R) (hn : (n : Int) ≤ 9000000000000000000) :
    Calls Try.prog 37 #[.slice a n c] w fun r w' => r = .returned (.int .i64 (sfault (-1) R)) ∧ Below w.heap.size w w' := by
  have HR : Hid _ := hide hr
  have HL : Hid _ := hide hr.len
  obtain ⟨f, hf⟩ : ∃ f, f = sfault (-1) R := ⟨_, rfl⟩
  rw [← hf]
  have HF : Hid _ := hide hf
  clear hr hf
  go_enter Try.func37, Try.ntmps37
  go_wp2_with fail
  go_loopw [3, 8] (fun ah i wr => ∃ (k : Nat) (ahead : Int), ah = .int .i64 ahead ∧ i = .int .i64 k ∧ k ≤ n ∧ Hid (f = sfault ahead (R.drop k)) ∧ Hid (Below w.heap.size w wr)) (fun _ i _ => n - numV i)
  case atStart => exact ⟨0, -1, rfl, rfl, Nat.zero_le _, hide HF.out, hide (Below.refl _ _)⟩
  case round =>
    obtain ⟨k, ahead, rfl, rfl, hk, HK, HB⟩ := hrel
    by_cases hlt : k < n
    · have hltI : (k : Int) < (n : Int) := by omega
      obtain ⟨r, hr⟩ : ∃ r, R[k]? = some r := ⟨_, List.getElem?_eq_getElem (by rw [HL.out]; exact hlt)⟩
      obtain ⟨lb, lo, rfl, _, hc⟩ := (HR.out.below HB.out).at (by omega)
      have x0 := hc k r hr 0 _ rfl
      have x1 := hc k r hr 1 _ rfl
      have x2 := hc k r hr 2 _ rfl
      have x3 := hc k r hr 3 _ rfl
      have x4 := hc k r hr 4 _ rfl
      simp only [layR, Nat.add_zero] at x0 x1 x2 x3 x4
      have HD : Hid (f = if r.stamp < 0 ∨ 1048576 ≤ r.stamp then 70 else if r.stamp ≤ ahead then 80 else sfault r.stamp (R.drop (k + 1))) := hide (by rw [HK.out, drop_at hr]; rfl)
      have HBA : Hid (∀ o, Below w.heap.size w (wr.alloc o)) := hide (fun o => HB.out.alloc HB.out.size o)
      clear hc hr
      obtain ⟨r0, r1, r2, r3, r4⟩ := r
      dsimp only at x0 x1 x2 x3 x4
      by_cases hA : r0 < 0
      · go_wp2
        go_ret
        exact ⟨ret_int (by rw [HD.out, if_pos (.inl hA)]), HBA.out _⟩
      · by_cases hC : 1048576 ≤ r0
        · go_wp2
          go_ret
          exact ⟨ret_int (by rw [HD.out, if_pos (.inr hC)]), HBA.out _⟩
        · by_cases hE : r0 ≤ ahead
          · go_wp2
            go_ret
            exact ⟨ret_int (by rw [HD.out, if_neg (by omega), if_pos hE]), HBA.out _⟩
          · go_wp2
            go_roundw
            case rel => exact ⟨k + 1, r0, rfl, by go_num, by omega, hide (by rw [HD.out, if_neg (by dsimp only; omega), if_neg hE]), hide (HBA.out _)⟩
            case measure => simp [numV]; omega
    · have hltI : ¬ (k : Int) < (n : Int) := by omega
      obtain rfl : k = n := by omega
      go_wp2
      go_ret
      refine ⟨ret_int ?_, HB.out⟩
      rw [HK.out, List.drop_of_length_le (by rw [HL.out]; exact Nat.le_refl _)]; rfl
set_option maxRecDepth 8000 in
set_option maxHeartbeats 3200000 in
theorem rf_any (w : World) (a : Option Addr) (n c : Nat) (rws : List Rw) (Gs : List (Int × List Rc)) (hr : Rdz w a n rws Gs) (hn : (n : Int) ≤ 9000000000000000000) (hm : ∀ G ∈ Gs, G.2.length * 40 ≤ 140737488355328) :
    Calls Try.prog 26 #[.slice a n c] w fun r w' => r = .returned (.int .i64 (rfault (-1) 0 Gs)) ∧ Below w.heap.size w w' := by
  have HR : Hid _ := hide hr
  have HL : Hid _ := hide hr.row.len
  have HG : Hid (Gs.length = n) := hide (by rw [← hr.len, hr.row.len])
  have HM : Hid _ := hide hm
  obtain ⟨f, hf⟩ : ∃ f, f = rfault (-1) 0 Gs := ⟨_, rfl⟩
  rw [← hf]
  have HF : Hid _ := hide hf
  clear hr hf hm
  go_enter Try.func26, Try.ntmps26
  go_wp2_with fail
  go_loopw [3, 4, 10] (fun ah cn i wr => ∃ (k cnt : Nat) (ahead : Int), ah = .int .i64 ahead ∧ cn = .int .i64 cnt ∧ i = .int .i64 k ∧ k ≤ n ∧ (k : Int) ≤ ahead + 1 ∧ ahead < 65536 ∧ (cnt : Int) ≤ (k : Int) * 3518437208884 ∧ Hid (f = rfault ahead cnt (Gs.drop k)) ∧ Hid (Below w.heap.size w wr)) (fun _ _ i _ => n - numV i)
  case atStart => exact ⟨0, 0, -1, rfl, rfl, rfl, Nat.zero_le _, by omega, by omega, by omega, hide HF.out, hide (Below.refl _ _)⟩
  case round =>
    obtain ⟨k, cnt, ahead, rfl, rfl, rfl, hk, hka, hah, hcn, HK, HB⟩ := hrel
    have hcnt : (cnt : Int) ≤ 300000000000000000 := by omega
    have HCN : Hid _ := hide hcn
    clear hcn
    by_cases hlt : k < n
    · have hltI : (k : Int) < (n : Int) := by omega
      obtain ⟨p, hp⟩ : ∃ r, rws[k]? = some r := ⟨_, List.getElem?_eq_getElem (by rw [HL.out]; exact hlt)⟩
      obtain ⟨G, hGk⟩ : ∃ r, Gs[k]? = some r := ⟨_, List.getElem?_eq_getElem (by rw [HG.out]; exact hlt)⟩
      have A1 := HR.out.below HB.out
      obtain ⟨lb, lo, rfl, _, hc⟩ := A1.row.at (by omega)
      obtain ⟨pg, pr, -, -⟩ := A1.each k p G hp hGk
      have x0 := hc k p hp 0 _ rfl
      have x1 := hc k p hp 1 _ rfl
      have hGl := HM.out G (List.mem_of_getElem? hGk)
      have HD : Hid (f = if G.1 ≤ ahead ∨ 65536 ≤ G.1 ∨ G.2.length = 0 then 102 else if sfault (-1) G.2 ≠ 0 then sfault (-1) G.2 else rfault G.1 (cnt + G.2.length) (Gs.drop (k + 1))) := hide (by rw [HK.out, drop_at hGk]; rfl)
      obtain ⟨g, R⟩ := G
      obtain ⟨p0, pa, pn, pc⟩ := p
      dsimp only at pg pr hGl
      subst pg
      have hpn := pr.len
      rw [hpn] at hGl
      simp only [layW, Nat.add_zero] at x0 x1
      have hpI : (pn : Int) ≤ 3518437208884 := by omega
      have HDl : Hid (f = if p0 ≤ ahead ∨ 65536 ≤ p0 ∨ pn = 0 then 102 else if sfault (-1) R ≠ 0 then sfault (-1) R else rfault p0 (cnt + pn) (Gs.drop (k + 1))) := hide (by have h9 := HD.out; dsimp only at h9; rw [hpn] at h9; exact h9)
      obtain ⟨w3, hw3⟩ : ∃ w3, w3 = wr.alloc (.cells #[.int .i64 p0, .slice pa pn pc] 40) := ⟨_, rfl⟩
      have b3 : Below wr.heap.size wr w3 := by rw [hw3]; exact below_alloc1 _ _
      have s3 : wr.heap.size < w3.heap.size := by rw [hw3]; simp
      have r3 : w3.heap[wr.heap.size]? = some (.cells #[.int .i64 p0, .slice pa pn pc] 40 (0, 0)) := by rw [hw3]; exact heap_new _ _
      have SF := sf_any w3 pa pn pc R (pr.below b3) (by omega)
      have z0 : w3.cell? ⟨wr.heap.size, 0, none⟩ = some (.int .i64 p0) := cell_at r3 rfl
      have z1 : w3.cell? ⟨wr.heap.size, 1, none⟩ = some (.slice pa pn pc) := cell_at r3 rfl
      have HW3 : Hid _ := hide hw3
      have HR3 : Hid _ := hide r3
      have HB3 : Hid (Below w.heap.size w w3) := hide (HB.out.trans (b3.mono HB.out.size))
      clear HD hc hp hGk pr hpn A1 hw3 r3 b3 hGl
      by_cases hA : p0 ≤ ahead
      · clear SF
        go_wp2
        go_ret
        exact ⟨ret_int (by rw [HDl.out, if_pos (.inl hA)]), by rw [← HW3.out]; exact HB3.out⟩
      · by_cases hC : 65536 ≤ p0
        · clear SF
          go_wp2
          go_ret
          exact ⟨ret_int (by rw [HDl.out, if_pos (.inr (.inl hC))]), by rw [← HW3.out]; exact HB3.out⟩
        · by_cases hE : pn = 0
          · subst hE
            clear SF
            go_wp2
            go_ret
            exact ⟨ret_int (by rw [HDl.out, if_pos (by simp)]), by rw [← HW3.out]; exact HB3.out⟩
          · have hEb : ((pn : Int) == 0) = false := by simp [hE]
            have hEb2 : (pn == 0) = false := by simp [hE]
            obtain ⟨sf, hsf⟩ : ∃ sf, sf = sfault (-1) R := ⟨_, rfl⟩
            rw [← hsf] at SF
            have HDs : Hid (f = if sf ≠ 0 then sf else rfault p0 (cnt + pn) (Gs.drop (k + 1))) := hide (by rw [HDl.out, if_neg (by omega), hsf])
            clear hsf
            go_wp2_with fail
            rw [← HW3.out]
            refine SF.mono ?_
            rintro r w4 ⟨rfl, b4⟩
            clear SF
            have HB4 : Hid (Below w.heap.size w w4) := hide (HB3.out.trans (b4.mono HB3.out.size))
            have r4 := (b4.block wr.heap.size s3).trans HR3.out
            have q0 : w4.cell? ⟨wr.heap.size, 0, none⟩ = some (.int .i64 p0) := cell_at r4 rfl
            have q1 : w4.cell? ⟨wr.heap.size, 1, none⟩ = some (.slice pa pn pc) := cell_at r4 rfl
            clear b4 r4
            by_cases hS : sf = 0
            · subst hS
              have hsum : (cnt : Int) + (pn : Int) ≤ 400000000000000000 := by omega
              go_wp2_with fail
              go_quiet (fail)
              go_wp2
              go_roundw
              case rel =>
                refine ⟨k + 1, cnt + pn, p0, rfl, by go_num, by go_num, by omega, by omega, by omega, ?_, hide (by rw [HDs.out]; simp), hide (below_drewN HB4.out _)⟩
                have := HCN.out
                push_cast
                omega
              case measure => simp [numV]; omega
            · have hSb : (sf == 0) = false := by simp [hS]
              go_wp2
              go_ret
              exact ⟨ret_int (by rw [HDs.out, if_pos hS]), HB4.out⟩
    · have hltI : ¬ (k : Int) < (n : Int) := by omega
      obtain rfl : k = n := by omega
      have HE : Hid (f = if 1048576 < cnt then 3 else 0) := hide (by rw [HK.out, List.drop_of_length_le (by rw [HG.out]; exact Nat.le_refl _)]; rfl)
      by_cases hC : 1048576 < cnt
      · have hCI : (1048576 : Int) < (cnt : Int) := by omega
        go_wp2
        go_ret
        exact ⟨ret_int (by rw [HE.out, if_pos hC]), HB.out⟩
      · have hCI : ¬ (1048576 : Int) < (cnt : Int) := by omega
        go_wp2
        go_ret
        exact ⟨ret_int (by rw [HE.out, if_neg hC]), HB.out⟩
end Go.Proofs.Ytdlpffbeladgaab
