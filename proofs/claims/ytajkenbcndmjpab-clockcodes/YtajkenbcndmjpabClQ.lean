/-
  The law's roomy and kept.
-/
import Derived.Test.YtajkenbcndmjpabClJ
namespace Go.Proofs.Ytajkenbcndmjpab
open Go.RowKit
/-- What stands in the room behind. -/
def marks : List Tk := (List.range 70).map fun i : Nat => ⟨-900 - (i : Int), -1⟩
theorem marks_len : marks.length = 70 := by simp [marks]
theorem marks_at {i : Nat} (h : i < 70) : marks[i]? = some ⟨-900 - (i : Int), -1⟩ := by
  unfold marks
  rw [List.getElem?_map, List.getElem?_range h]; rfl
/-- A list with marked room behind it. -/
structure RM (w : World) (base : Nat) (v : Value) (L : List Tk) : Prop where
  ex : ∃ g c, v = .slice (some ⟨g, 0, none⟩) L.length c ∧ Own layT 43 w base (.slice (some ⟨g, 0, none⟩) (L.length + 70) c) (L ++ marks)
  big : (L.length : Int) ≤ 8796093022208
theorem RM.below {w w' : World} {base : Nat} {v : Value} {L : List Tk} (h : RM w base v L) (hb : Below w.heap.size w w') : RM w' base v L := by
  obtain ⟨g, c, hv, ho⟩ := h.ex
  exact ⟨⟨g, c, hv, ho.below hb⟩, h.big⟩
theorem RM.cl {w : World} {base : Nat} {v : Value} {L : List Tk} (h : RM w base v L) : CL w v L := by
  obtain ⟨g, c, rfl, ho⟩ := h.ex
  have hl : (L ++ marks).length = L.length + 70 := by rw [List.length_append, marks_len]
  have h1 := (ho.row hl).cut L.length (by omega)
  rw [List.take_left] at h1
  obtain ⟨g', c', hv, _, _, hc⟩ := ho.frm (by omega)
  rw [hl] at hv hc
  cases hv
  exact ⟨_, _, _, rfl, ⟨h1, by omega, fun e => (by cases e), h.big⟩⟩
set_option maxRecDepth 8000 in
set_option maxHeartbeats 1000000 in
theorem roomy_any (a : Option Addr) (n c : Nat) (L : List Tk) (w : World) (h : TRow layT w a n L) (h0 : a = none → n = 0 ∧ c = 0) (hb : n * 16 ≤ 140737488351232) :
    Calls Try.prog 6 #[.slice a n c] w fun e w' => ∃ v, e = .returned v ∧ RM w' w.heap.size v L ∧ Below w.heap.size w w' := by
  obtain ⟨i0, hi, hz0, hz1, hz2⟩ := info_parts Try.infoT
  have HT := hide h
  have H0 := hide h0
  have HN : Hid (n * 16 ≤ 140737488351232) := hide hb
  have hnI : (n : Int) ≤ 8796093022000 := by omega
  clear h h0 hb
  go_enter Try.func6, Try.ntmps6
  go_wp2_with (at_builtin; refine append_lay layT _ 22 43 i0 _ 16 Try.underlying22 hi hz0 hz1 hz2 rfl rfl (.tmp 5) (.tmp 6) rfl w.heap.size (.slice none 0 0) [] rfl (Own.nil _ _ _ _) a n c L rfl HT.out H0.out ?b1 ?b2 (Nat.le_refl _) ?_)
  case b1 => unfold maxLen; have := HN.out; simp; omega
  case b2 => have := HN.out; simp; omega
  intro v1 w1 o1 g1 l1
  have HO1 : Hid (Own layT 43 w1 w.heap.size v1 L) := hide (by simpa using o1)
  have HB1 := hide ((Below.refl w.heap.size w).grown g1 (Nat.le_refl _) (fun q hq => by cases hq))
  clear o1 g1 l1
  go_wp2
  go_loopw [3, 4] (fun o i wr => ∃ k : Nat, k ≤ 70 ∧ i = .int .i64 k ∧ Hid (Own layT 43 wr w.heap.size o (L ++ marks.take k)) ∧ Hid (Below w.heap.size w wr)) (fun _ i _ => 70 - (intOf i).toNat)
  case atStart => exact ⟨0, by omega, rfl, hide (by rw [List.take_zero, List.append_nil]; exact HO1.out), HB1⟩
  case round =>
    obtain ⟨k, hk, rfl, HO, HBr⟩ := hrel
    by_cases hlt : k < 70
    · have hltI : (k : Int) < 70 := by omega
      have HNx := hide (take_next (marks_at hlt))
      have hl : (L ++ marks.take k).length = n + k := by rw [List.length_append, HT.out.len, List.length_take, marks_len]; omega
      have HLn := hide hl
      generalize hF : L ++ marks.take k = F at HO HLn
      have HF := hide hF
      clear hl hF
      go_wp2_with (at_builtin; refine append_lay layT _ 22 43 i0 _ 16 Try.underlying22 hi hz0 hz1 hz2 rfl rfl (.tmp 12) (.tmp 16) rfl w.heap.size _ F rfl (HO.out.below (below_alloc1 _ _)) (some ⟨wr.heap.size, 0, none⟩) 1 1 [⟨-900 - (k : Int), -1⟩] rfl (TRow.one (y := layT) (x := ⟨-900 - (k : Int), -1⟩) (e := 43) (heap_new _ _)) (by intro e; cases e) ?b1 ?b2 ?b3 ?_)
      case b1 => rw [HLn.out]; unfold maxLen; omega
      case b2 => rw [HLn.out]; have := HN.out; omega
      case b3 => have := HBr.out.size; simp; omega
      intro v' w' o1 g1 l1
      have HO2 := hide o1
      have HB2 := hide ((HBr.out.alloc HBr.out.size (.cells #[.int .i64 (-900 - (k : Int)), .int .i64 (-1)] 43)).grown g1 (by have := HBr.out.size; simp; omega) (fun q hq => (HO.out.lt q hq).1))
      clear o1 g1 l1
      go_wp2
      exact ⟨⟨k + 1, by omega, by go_num, hide (by rw [HNx.out, ← List.append_assoc, HF.out]; exact HO2.out), HB2⟩, by simp [intOf]; omega⟩
    · have hk70 : k = 70 := by omega
      subst hk70
      have hm : marks.take 70 = marks := List.take_of_length_le (by rw [marks_len]; exact Nat.le_refl _)
      rw [hm] at HO
      have hl : (L ++ marks).length = n + 70 := by rw [List.length_append, HT.out.len, marks_len]
      obtain ⟨g, cc, hv, hg1, hg2, hcc⟩ := HO.out.frm (by omega)
      rw [hl] at hv hcc
      subst hv
      have hccI : (n : Int) + 70 ≤ cc := by omega
      have hnc : (n : Int) ≤ cc := by omega
      clear hm hl hg1 hg2
      go_wp2
      go_ret
      have hL := HT.out.len
      exact ⟨_, rfl, ⟨⟨g, cc, by rw [hL]; rfl, by rw [hL]; exact HO.out⟩, by rw [hL]; omega⟩, HBr.out⟩
set_option maxRecDepth 8000 in
set_option maxHeartbeats 2000000 in
theorem kept_any {w : World} {base : Nat} {v u : Value} {L : List Tk} (h : RM w base v L) (k : CL w u L) : Calls Try.prog 13 #[v, u] w fun e w' => e = .returned (.bool true) ∧ Below w.heap.size w w' := by
  have HS := hide (csame_any h.cl k)
  have HRM := hide h
  obtain ⟨b, m, d, rfl, k1⟩ := k.ex
  have hm := k1.row.len
  have hbig := h.big
  obtain ⟨g, c, rfl, ho⟩ := h.ex
  rw [hm] at HS HRM ho hbig ⊢
  obtain ⟨g', c', hv, _, _, hc⟩ := ho.frm (by rw [List.length_append, marks_len]; omega)
  rw [List.length_append, marks_len, hm] at hv hc
  cases hv
  have e1 : decide (L = L) = true := decide_eq_true rfl
  rw [e1] at HS
  have hccI : (m : Int) + 70 ≤ c := by omega
  have HO := hide ho
  have HLn := hide hm
  clear h k k1 ho hm e1 hc
  go_enter Try.func13, Try.ntmps13
  go_wp2_with fail
  refine HS.out.mono ?_
  rintro e w1 ⟨rfl, hb⟩
  have HB := hide hb
  have HO1 := hide (HO.out.below hb)
  clear hb HS
  go_wp2
  go_loopw [6] (fun i wr => ∃ k : Nat, k ≤ 70 ∧ i = .int .i64 k ∧ wr = w1) (fun i _ => 70 - (intOf i).toNat)
  case atStart => exact ⟨0, by omega, rfl, rfl⟩
  case round =>
    obtain ⟨k, hk, rfl, hw⟩ := hrel
    rw [hw]
    clear hw wr
    by_cases hlt : k < 70
    · have hltI : (k : Int) < 70 := by omega
      have hx : (L ++ marks)[m + k]? = some ⟨-900 - (k : Int), -1⟩ := by
        rw [List.getElem?_append_right (by rw [HLn.out]; omega), HLn.out, Nat.add_sub_cancel_left]
        exact marks_at hlt
      have c0 : w1.cell? ⟨g, (m + k) * 2, none⟩ = some (.int .i64 (-900 - (k : Int))) := HO1.out.cell hx 0 rfl
      have c1 : w1.cell? ⟨g, (m + k) * 2 + 1, none⟩ = some (.int .i64 (-1)) := HO1.out.cell hx 1 rfl
      have e1 : ((m : Int) + (k : Int)).toNat = m + k := by omega
      have e2 : (m : Int) + (k : Int) < (m : Int) + 70 := by omega
      clear hx
      go_wp2
      exact ⟨⟨k + 1, by omega, by go_num, trivial⟩, by simp [intOf]; omega⟩
    · have hk70 : k = 70 := by omega
      subst hk70
      go_wp2
      go_ret
      exact ⟨rfl, HB.out⟩
theorem croomyB_any {w : World} {v : Value} {L : List Tk} (h : CL w v L) (hb : L.length * 16 ≤ 140737488351232) : Calls Try.prog 6 #[v] w fun e w' => ∃ x, e = .returned x ∧ RM w' w.heap.size x L ∧ Below w.heap.size w w' := by
  obtain ⟨a, n, c, rfl, h1⟩ := h.ex
  exact roomy_any a n c L w h1.row h1.frm (by rw [← h1.row.len]; exact hb)
end Go.Proofs.Ytajkenbcndmjpab
