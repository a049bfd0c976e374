/-
  ownFrames.
-/
import Derived.Test.YtkjmmcpjdjjmlaaDoorRgN
namespace Go.Proofs.YtkjmmcpjdjjmlaaDoor
open Go.RowKit Go.Maps Go.Shelf
set_option maxRecDepth 8000 in
theorem frames_any (sa : Option Addr) (sn sc : Nat) (ls : List ByteArray) (w : World) (hr : SRow w sa sn ls) (hn : (sn : Int) ≤ 16) (hz : ∀ s ∈ ls, s.size ≤ 65536) :
    Calls Tryd.prog 14 #[.slice sa sn sc] w fun e w' => e = .returned (.slice (some ⟨w.heap.size, 0, .none⟩) sn sn) ∧ Own layB 9 w' w.heap.size (.slice (some ⟨w.heap.size, 0, .none⟩) sn sn) ls ∧ Below w.heap.size w w' := by
  obtain ⟨i0, hi, hz0, hz1, hz2⟩ := info_parts Tryd.infoB
  have HR := hide hr
  have HZ := hide hz
  have HL := hide hr.len
  clear hr hz
  go_enter Tryd.func14, Tryd.ntmps14
  go_wp2_with (at_make; refine wpList_make_full _ rfl _ _ 30 rfl w.heap.size 9 i0 (.string ⟨#[]⟩) 1 Tryd.underlying30 hi hz0 hz1 _ _ _ _ sn rfl rfl rfl rfl ?b2 ?b3 (Nat.le_refl _) ?_)
  case b2 => rw [hz2]; omega
  case b3 => unfold maxLen; omega
  intro w1 hown1 hgr1
  have O1 : Own layB 9 w1 w.heap.size (.slice (some ⟨w.heap.size, 0, .none⟩) sn sn) (ls.take 0 ++ List.replicate (sn - 0) ⟨#[]⟩) := by
    have h9 := made_fl layB ⟨#[]⟩ sn
    unfold Own
    rw [List.take_zero, List.nil_append, Nat.sub_zero, List.length_replicate, ← h9]
    have h8 : w1.ownsRow w.heap.size 9 1 (.slice (some ⟨w.heap.size, 0, .none⟩) sn sn) sn (madeCells #[.string ⟨#[]⟩] (sn * 1)).toList := by rw [Nat.mul_one]; exact hown1
    exact h8
  have HO1 := hide O1
  have HB1 := hide ((Below.refl w.heap.size w).grown hgr1 (Nat.le_refl _) (fun k h => by cases h))
  clear O1 hown1 hgr1
  go_wp2_with fail
  go_loopw [11] (fun si wr => ∃ j : Nat, si = .int .i64 j ∧ j ≤ sn ∧ Own layB 9 wr w.heap.size (.slice (some ⟨w.heap.size, 0, .none⟩) sn sn) (ls.take j ++ List.replicate (sn - j) ⟨#[]⟩) ∧ Below w.heap.size w wr) (fun si _ => sn - (intOf si).toNat)
  case atStart => exact ⟨0, rfl, Nat.zero_le _, HO1.out, HB1.out⟩
  case round =>
    obtain ⟨j, rfl, hj, hown, hbel⟩ := hrel
    have HO := hide hown
    have HB := hide hbel
    clear hown hbel
    by_cases hlt : j < sn
    · have hjI : (j : Int) < sn := by omega
      have hll : (ls.take j).length = j := by have := HL.out; rw [List.length_take]; omega
      have HLL := hide hll
      obtain ⟨b1, o1, rfl, hc1⟩ := (HR.out.bel HB.out).at hlt
      have hsz : (ls.getD j ByteArray.empty).size ≤ 65536 := HZ.out _ (List.mem_of_getElem? (getD_get (by rw [HL.out]; exact hlt)))
      have HG := hide (getD_get (L := ls) (k := j) (by rw [HL.out]; exact hlt))
      generalize ls.getD j ByteArray.empty = x at hc1 hsz HG
      have HC := hide (clone_any x wr hsz)
      clear hsz hll
      go_wp2_with fail
      refine HC.out.mono ?_
      rintro e w2 ⟨rfl, hb2⟩
      have OL := HO.out.below hb2
      have hcz : (ls.take j ++ List.replicate (sn - j) (⟨#[]⟩ : ByteArray))[j]? = some ⟨#[]⟩ := by have h9 := getElem_append_replicate (ls.take j) sn (⟨#[]⟩ : ByteArray) (by rw [HLL.out]; exact hlt); rw [HLL.out] at h9; exact h9
      have x0 := OL.cell hcz 0 rfl
      have e1 : j * layB.z + 0 = j := by show j * 1 + 0 = j; omega
      rw [e1] at x0
      have z0 := OL.frozen j
      have S2 := OL.setU (i := j) (t := 0) (u := .string x) (a' := x) (by simp; have := HL.out; omega) hcz (by decide) rfl
      rw [e1] at S2
      have hset : (ls.take j ++ List.replicate (sn - j) (⟨#[]⟩ : ByteArray)).set j x = ls.take (j + 1) ++ List.replicate (sn - (j + 1)) ⟨#[]⟩ := by
        have h9 := set_append_replicate (ls.take j) sn (⟨#[]⟩ : ByteArray) x (by rw [HLL.out]; exact hlt)
        rw [HLL.out] at h9
        rw [h9, List.take_add_one, HG.out]
        simp only [Option.toList_some, List.length_append, HLL.out, List.length_cons, List.length_nil]
      rw [hset] at S2
      have HS2 := hide S2
      have HB2 := hide (But.below (((But.of_below (S := fun k => k = w.heap.size) (Below.on HB.out hb2))).setCell ⟨w.heap.size, j, .none⟩ (fun _ => rfl) (.string x)) (Nat.le_refl _) (fun k e => by have e9 : k = w.heap.size := e; omega))
      clear OL hcz S2 hset hb2 HC HO e1
      go_wp2
      exact ⟨⟨j + 1, by go_num, by omega, HS2.out, HB2.out⟩, by simp [intOf]; omega⟩
    · have hjn : j = sn := by omega
      subst hjn
      have e9 : ls.take j ++ List.replicate (j - j) (⟨#[]⟩ : ByteArray) = ls := by rw [Nat.sub_self, List.replicate_zero, List.append_nil, List.take_of_length_le (by rw [HL.out]; exact Nat.le_refl _)]
      rw [e9] at HO
      go_wp2
      go_ret
      exact ⟨rfl, HO.out, HB.out⟩
end Go.Proofs.YtkjmmcpjdjjmlaaDoor
