/-
  strconv.unquote, strconv.Unquote.
-/
import Derived.Test.YtpnacioliccglaaDoorDvK
import Derived.Test.YtpnacioliccglaaDoorDvM
namespace Go.Proofs.YtpnacioliccglaaDoor
open Go.RowKit Go.Maps Go.Shelf
set_option linter.unusedVariables false
theorem wrd_two {z t : ByteArray} (h : z.data.toList = wrd t) : 1 < z.size ∧ bA z 0 = 34 ∧ ∃ o : Nat, Lib.indexByte (z.extract 1 z.size).data.toList 34 = (o : Int) := by
  obtain ⟨W, hW, _⟩ := wq_wrd t
  have e : z.size = z.data.toList.length := (Array.length_toList).symm
  rw [hW] at h
  have h2 : (z.extract 1 z.size).data.toList = W ++ [34] := ext_app h
  refine ⟨by rw [e, h]; simp, (list_at (z := z) (i := 0) (b := 34) (by rw [h]; rfl)).2, ?_⟩
  rcases idx_cases (z.extract 1 z.size).data.toList 34 with hc | hc
  · have := Lib.indexByte_none hc W.length
    rw [h2] at this
    simp at this
  · exact hc
theorem get0 (z : ByteArray) {q : Nat} (h : bA z 0 = q) : z.get! 0 = UInt8.ofNat q := by
  rw [← h]; unfold bA; simp
theorem uq_any (z : ByteArray) (T : TypeId) (vE : Value) (w : World) (hE : w.cell? ⟨3, 0, none⟩ = some (.iface T vE)) (hT : Lib.Utf8Tabs 6 7 w) (hs : z.size ≤ 1073741824) :
    Calls Tryd.prog 69 #[.string z, .bool true] w fun e w' => UqP z (.iface T vE) e ∧ Below w.heap.size w w' := by
  by_cases h1 : z.size < 2
  · exact (uq_short z _ w hE h1).mono fun e w' h => ⟨⟨.inl h.1, fun t ht => by have := (wrd_two ht).1; omega⟩, h.2⟩
  have h2 : 1 < z.size := by omega
  rcases idx_cases (z.extract 1 z.size).data.toList (z.get! 0) with hc | ⟨o, hc⟩
  · refine (uq_noend z _ w hE h2 hs hc).mono fun e w' h => ⟨⟨.inl h.1, fun t ht => ?_⟩, h.2⟩
    obtain ⟨_, h0, o, ho⟩ := wrd_two ht
    rw [get0 z h0] at hc
    rw [show UInt8.ofNat 34 = 34 from rfl, ho] at hc
    omega
  by_cases c1 : bA z 0 = 96
  · rw [get0 z c1] at hc
    exact (uq_raw z w hs h2 c1 o hc).mono fun e w' h => ⟨⟨.inr h.1, fun t ht => by have := (wrd_two ht).2.1; omega⟩, h.2⟩
  by_cases c2 : bA z 0 = 34
  · rw [get0 z c2] at hc
    exact uq_quo34 z _ w T vE rfl hE hT hs h2 c2 o hc
  by_cases c3 : bA z 0 = 39
  · rw [get0 z c3] at hc
    exact uq_quo39 z _ w T vE rfl hE hT hs h2 c3 o hc
  · exact (uq_other z _ w hE h2 hs o hc c1 c2 c3).mono fun e w' h => ⟨⟨.inl h.1, fun t ht => by have := (wrd_two ht).2.1; omega⟩, h.2⟩
/-- What strconv.Unquote answers. -/
structure UnP (z : ByteArray) (E : Value) (e : Ending) : Prop where
  gen : (∃ out, e = .returned (.tuple #[.string out, E])) ∨ ∃ out, e = .returned (.tuple #[.string out, .nilIface]) ∧ out.size ≤ 4 * z.size
  can : ∀ t : ByteArray, z.data.toList = wrd t → e = .returned (.tuple #[.string t, .nilIface])
set_option maxRecDepth 100000 in
theorem un_any (z : ByteArray) (T : TypeId) (vE : Value) (w : World) (hE : w.cell? ⟨3, 0, none⟩ = some (.iface T vE)) (hT : Lib.Utf8Tabs 6 7 w) (hs : z.size ≤ 1073741824) :
    Calls Tryd.prog 51 #[.string z] w fun e w' => UnP z (.iface T vE) e ∧ Below w.heap.size w w' := by
  have HU := hide (uq_any z T vE w hE hT hs)
  have HE := hide (fun (X : World) (hX : Below w.heap.size w X) => (hX.cell (World.block_lt_of_cell? w _ hE)).trans hE)
  clear hE hT hs
  go_enter Tryd.func51, Tryd.ntmps51
  go_wp2_with fail
  refine HU.out.mono ?_
  intro e w2 hUU
  obtain ⟨hU, hb⟩ := hUU
  have HB := hide hb
  have HUc := hide hU.can
  have hE2 := HE.out w2 hb
  clear hb
  rcases hU.gen with ⟨rm, he⟩ | ⟨out, rm, he, hsz⟩
  · subst he
    have HV : Hid (∀ t : ByteArray, z.data.toList ≠ wrd t) := hide (fun t ht => by have := HUc.out t ht; simp at this)
    by_cases hr : rm.size = 0
    · have hrI : ¬ (0 : Int) < ((rm.size : Nat) : Int) := by omega
      clear hU
      go_wp2
      (try go_quiet (fail))
      (try go_wp2)
      (try simp only [Exit.inBlock, Exit.then])
      refine bodyPost_ret (results_tmp2 rfl _ _ _) rfl ?_
      exact ⟨⟨.inl ⟨_, rfl⟩, fun t ht => absurd ht (HV.out t)⟩, by first | exact below_drewN HB.out _ | exact HB.out⟩
    · have hrI : (0 : Int) < ((rm.size : Nat) : Int) := by omega
      clear hU
      go_wp2
      (try go_quiet (fail))
      (try go_wp2)
      (try simp only [Exit.inBlock, Exit.then])
      refine bodyPost_ret (results_tmp2 rfl _ _ _) rfl ?_
      exact ⟨⟨.inl ⟨_, rfl⟩, fun t ht => absurd ht (HV.out t)⟩, by first | exact below_drewN HB.out _ | exact HB.out⟩
  · subst he
    have HV : Hid (∀ t : ByteArray, z.data.toList = wrd t → out = t ∧ rm = ⟨#[]⟩) := hide (fun t ht => by have := HUc.out t ht; simpa using this)
    have HS := hide hsz
    clear hU hsz
    by_cases hr : rm.size = 0
    · have hrI : ¬ (0 : Int) < ((rm.size : Nat) : Int) := by omega
      go_wp2
      (try go_quiet (fail))
      (try go_wp2)
      (try simp only [Exit.inBlock, Exit.then])
      refine bodyPost_ret (results_tmp2 rfl _ _ _) rfl ?_
      exact ⟨⟨.inr ⟨_, rfl, HS.out⟩, fun t ht => by rw [← (HV.out t ht).1]; rfl⟩, by first | exact below_drewN HB.out _ | exact HB.out⟩
    · have hrI : (0 : Int) < ((rm.size : Nat) : Int) := by omega
      have HRN := hide hr
      go_wp2
      (try go_quiet (fail))
      (try go_wp2)
      (try simp only [Exit.inBlock, Exit.then])
      refine bodyPost_ret (results_tmp2 rfl _ _ _) rfl ?_
      exact ⟨⟨.inl ⟨_, rfl⟩, fun t ht => by have h9 := (HV.out t ht).2; exact absurd (by rw [h9]; rfl) HRN.out⟩, by first | exact below_drewN HB.out _ | exact HB.out⟩
end Go.Proofs.YtpnacioliccglaaDoor
