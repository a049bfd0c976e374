/-
  A merger's fault, Left; New.
-/
import Derived.Test.YtdlpffbeladgaabMgB
namespace Go.Proofs.Ytdlpffbeladgaab
open Go.RowKit
theorem Mgr.cells {w : World} {base p ph : Nat} {rv : Value} {gs : List Int} {s : MSt} (h : Mgr w base p rv ph gs s) : w.cell? ⟨p, 0, none⟩ = some rv ∧ w.cell? ⟨p, 1, none⟩ = some (.pointer (some ⟨ph, 0, none⟩)) ∧ w.cell? ⟨p, 2, none⟩ = some (.int .i64 s.at_) ∧ w.cell? ⟨p, 3, none⟩ = some (.int .i64 (tot s.Ls : Int)) ∧ p < w.heap.size :=
  ⟨cell_at h.blk rfl, cell_at h.blk rfl, cell_at h.blk rfl, cell_at h.blk rfl, (Array.getElem?_eq_some_iff.1 h.blk).1⟩
theorem left_nil (w : World) : Calls Try.prog 18 #[.pointer none] w fun r w' => r = .returned (.int .i64 0) ∧ w' = w := by
  go_enter Try.func18, Try.ntmps18
  go_wp2
  go_ret
  exact ⟨rfl, rfl⟩
theorem left_any {w : World} {base p ph : Nat} {rv : Value} {gs : List Int} {s : MSt} (h : Mgr w base p rv ph gs s) : Calls Try.prog 18 #[.pointer (some ⟨p, 0, none⟩)] w fun r w' => r = .returned (.int .i64 (tot s.Ls : Int)) ∧ w' = w := by
  obtain ⟨_, _, _, c3, hp⟩ := h.cells
  clear h
  go_enter Try.func18, Try.ntmps18
  go_wp2
  go_ret
  exact ⟨rfl, rfl⟩
set_option maxRecDepth 8000 in
set_option maxHeartbeats 1600000 in
theorem fault_any {w : World} {base p ph : Nat} {rv : Value} {gs : List Int} {s : MSt} (h : Mgr w base p rv ph gs s) : Calls Try.prog 21 #[.pointer (some ⟨p, 0, none⟩)] w fun r w' => ∃ f, r = .returned (.int .i64 f) ∧ Flt s.Ls s.at_ f ∧ Below w.heap.size w w' := by
  obtain ⟨S, hs, hd, hl⟩ := h.heap
  obtain ⟨_, c1, c2, _, hp⟩ := h.cells
  have HM : Hid _ := hide h
  clear h
  cases S with
  | nil =>
    have PK := hpeek0H hs
    have HF : Hid (Flt s.Ls s.at_ 90) := hide (.inl ⟨rfl, hd.nil⟩)
    clear hs hd
    go_enter Try.func21, Try.ntmps21
    go_wp2_with fail
    refine PK.mono ?_
    rintro r w1 ⟨rfl, b1⟩
    have HB : Hid _ := hide b1
    clear PK b1
    go_wp2
    go_ret
    exact ⟨90, rfl, HF.out, HB.out.alloc HB.out.size _⟩
  | cons e S =>
    have PK := hpeekH hs
    obtain ⟨k, r, t, hpk, he⟩ := hd.pick hs.srt
    rw [he] at PK
    dsimp only at PK
    have HP : Hid _ := hide hpk
    clear hs hd hpk he
    go_enter Try.func21, Try.ntmps21
    go_wp2_with fail
    refine PK.mono ?_
    rintro rr w1 ⟨rfl, b1⟩
    obtain ⟨w2, hw2⟩ : ∃ w2, w2 = w1.alloc (.cells #[.int .i64 r.stamp, .int .i64 (k : Int)] 72) := ⟨_, rfl⟩
    have b2 : Below w.heap.size w w2 := by rw [hw2]; exact b1.alloc b1.size _
    have r2 : w2.heap[w1.heap.size]? = some (.cells #[.int .i64 r.stamp, .int .i64 (k : Int)] 72 (0, 0)) := by rw [hw2]; exact heap_new _ _
    have z0 : w2.cell? ⟨w1.heap.size, 0, none⟩ = some (.int .i64 r.stamp) := cell_at r2 rfl
    have z2 : w2.cell? ⟨p, 2, none⟩ = some (.int .i64 s.at_) := (b2.cell (p := ⟨p, 2, none⟩) hp).trans c2
    have HB : Hid _ := hide b2
    have HW : Hid _ := hide hw2
    clear PK b1 b2 hw2 r2
    go_wp2_with fail
    rw [← HW.out]
    by_cases h1 : r.stamp < s.at_
    · have h1d : decide (r.stamp < s.at_) = true := decide_eq_true h1
      go_quiet (fail)
      go_wp2
      go_ret
      exact ⟨101, rfl, .inr ⟨k, r, t, HP.out, by rw [if_pos h1]⟩, below_drewN HB.out _⟩
    · have h1d : decide (r.stamp < s.at_) = false := decide_eq_false h1
      go_quiet (fail)
      go_wp2_with fail
      generalize hwd : w2.drewN _ = w3
      have b3 : Below w2.heap.size w2 w3 := by rw [← hwd]; exact below_drewN (Below.refl _ _) _
      have y0 : w3.cell? ⟨w1.heap.size, 0, none⟩ = some (.int .i64 r.stamp) := (b3.cell (p := ⟨w1.heap.size, 0, none⟩) (World.block_lt_of_cell? _ _ z0)).trans z0
      have y2 : w3.cell? ⟨p, 2, none⟩ = some (.int .i64 s.at_) := (b3.cell (p := ⟨p, 2, none⟩) (World.block_lt_of_cell? _ _ z2)).trans z2
      have HB3 : Hid (Below w.heap.size w w3) := hide (HB.out.trans (b3.mono HB.out.size))
      clear hwd b3 z0 z2
      by_cases h2 : s.at_ < r.stamp
      · have h2d : decide (s.at_ < r.stamp) = true := decide_eq_true h2
        go_quiet (fail)
        go_wp2
        go_ret
        exact ⟨100, rfl, .inr ⟨k, r, t, HP.out, by rw [if_neg (by omega), if_pos h2]⟩, below_drewN HB3.out _⟩
      · have h2d : decide (s.at_ < r.stamp) = false := decide_eq_false h2
        go_quiet (fail)
        go_wp2
        go_ret
        exact ⟨0, rfl, .inr ⟨k, r, t, HP.out, by rw [if_neg (by omega), if_neg (by omega)]⟩, below_drewN HB3.out _⟩
end Go.Proofs.Ytdlpffbeladgaab
