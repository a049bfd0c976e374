/-
  Quote and Unquote, the program's.
-/
import Derived.Test.YtpnacioliccglaaDoorDvN
import Derived.Test.YtpnacioliccglaaDoorDvO
import Derived.Test.YtpnacioliccglaaDoorDvQ
import Derived.Test.YtpnacioliccglaaDoorDvR
namespace Go.Proofs.YtpnacioliccglaaDoor
open Go.RowKit Go.Maps Go.Shelf
set_option linter.unusedVariables false
theorem quote_any (s : ByteArray) (w : World) (hb : 4 * s.size + 18 ≤ 140737488355328) :
    Calls Tryd.prog 10 #[.string s] w fun e w' => e = .returned (.string ⟨(wrd s).toArray⟩) ∧ Below w.heap.size w w' := by
  have HW := hide (word_any w.heap.size (.slice none 0 0) [] s w (Own.nil _ _ _ _) (by simp only [List.length_nil]; omega) (Nat.le_refl _))
  go_enter Tryd.func10, Tryd.ntmps10
  go_wp2_with fail
  refine HW.out.mono ?_
  rintro e w2 ⟨v, rfl, ho, hf⟩
  rw [List.nil_append] at ho
  have hcv := conv_own ho
  have HF := hide hf.bel
  clear ho hf
  go_wp2
  go_ret
  exact ⟨rfl, HF.out⟩
theorem clone_any (s : ByteArray) (w : World) (hb : s.size ≤ 281474976710656) :
    Calls Tryd.prog 52 #[.string s] w fun e w' => e = .returned (.string s) ∧ Below w.heap.size w w' := by
  have HC := hide (Tryd.stringslite_Clone s w hb)
  go_enter Tryd.func52, Tryd.ntmps52
  go_wp2_with fail
  refine HC.out.mono ?_
  rintro e w2 ⟨rfl, hf⟩
  have HF := hide hf
  clear hf
  go_wp2
  go_ret
  exact ⟨rfl, HF.out⟩
theorem wrd_bytes {z s : ByteArray} : z.data.toList = wrd s ↔ (⟨(wrd s).toArray⟩ : ByteArray) = z := by
  constructor
  · intro h; exact ba_ext (by rw [h])
  · intro h; rw [← h]
theorem bne_bytes {a b : ByteArray} (h : a ≠ b) : (a.toList != b.toList) = true := by
  rw [bne_iff_ne, ByteArray.toList_eq, ByteArray.toList_eq]
  exact fun e => h (ba_ext e)
theorem beq_bytes {a b : ByteArray} (h : a ≠ b) : (a.toList == b.toList) = false := by
  rw [beq_eq_false_iff_ne, ByteArray.toList_eq, ByteArray.toList_eq]
  exact fun e => h (ba_ext e)
theorem bne_self (a : ByteArray) : (a.toList != a.toList) = false := by simp
/-- What readWord answers. -/
structure RwP (z : ByteArray) (E : Value) (e : Ending) : Prop where
  yes : ∀ t : ByteArray, z.data.toList = wrd t → e = .returned (.tuple #[.string t, .nilIface])
  no : (∀ t : ByteArray, z.data.toList ≠ wrd t) → e = .returned (.tuple #[.string ⟨#[]⟩, E])
/-- The sentinels and the tables of utf8. -/
structure Sn (T : TypeId) (vE : Value) (a : Addr) (w : World) : Prop where
  line : w.cell? ⟨0, 0, none⟩ = some (.iface 187 (.pointer (some a)))
  syn : w.cell? ⟨3, 0, none⟩ = some (.iface T vE)
  tab : Lib.Utf8Tabs 6 7 w
theorem Sn.below {T : TypeId} {vE : Value} {a : Addr} {w w' : World} (h : Sn T vE a w) (hb : Below w.heap.size w w') : Sn T vE a w' :=
  ⟨(hb.cell (World.block_lt_of_cell? w _ h.line)).trans h.line, (hb.cell (World.block_lt_of_cell? w _ h.syn)).trans h.syn, Utf8Tabs_below h.tab hb⟩
set_option maxRecDepth 100000 in
set_option maxHeartbeats 4000000 in
theorem rword_any (z : ByteArray) (T : TypeId) (vE : Value) (a : Addr) (w : World) (hS : Sn T vE a w) (hs : z.size ≤ 1073741824) :
    Calls Tryd.prog 26 #[.string z] w fun e w' => RwP z (.iface 187 (.pointer (some a))) e ∧ Below w.heap.size w w' := by
  have HU := hide (un_any z T vE w hS.syn hS.tab hs)
  have HS := hide (fun (X : World) (hX : Below w.heap.size w X) => (hS.below hX).line)
  have HZ := hide hs
  clear hS hs
  go_enter Tryd.func26, Tryd.ntmps26
  go_wp2_with fail
  refine HU.out.mono ?_
  intro e w2 hUU
  obtain ⟨hU, hb⟩ := hUU
  have HB := hide hb
  have HC := hide hU.can
  have hl := HS.out w2 hb
  have hEN := fun X => run_neq_iface_nil (P := Tryd.prog) T vE Tryd.underlying48 X
  clear hb
  rcases hU.gen with ⟨out, he⟩ | ⟨out, he, hsz⟩
  · subst he
    have HV : Hid (∀ t : ByteArray, z.data.toList ≠ wrd t) := hide (fun t ht => by have := HC.out t ht; simp at this)
    clear hU
    go_wp2
    (try go_quiet (fail))
    (try go_wp2)
    (try simp only [Exit.inBlock, Exit.then])
    refine bodyPost_ret (results_tmp2 rfl _ _ _) rfl ?_
    exact ⟨⟨fun t ht => absurd ht (HV.out t), fun _ => rfl⟩, by first | exact below_drewN HB.out _ | exact HB.out⟩
  · subst he
    have HT : Hid (∀ t : ByteArray, z.data.toList = wrd t → out = t) := hide (fun t ht => by have := HC.out t ht; simpa using this)
    have HQ := hide (quote_any out w2 (by have := HZ.out; omega))
    have HSz : Hid (out.size ≤ 281474976710656) := hide (by have := HZ.out; omega)
    have HS2 := hide (fun (X : World) (hX : Below w2.heap.size w2 X) => HS.out X (Below.on HB.out hX))
    clear hU hsz
    obtain ⟨qq, hqq⟩ : ∃ qq : ByteArray, (⟨(wrd out).toArray⟩ : ByteArray) = qq := ⟨_, rfl⟩
    rw [hqq] at HQ
    have HQQ := hide hqq
    clear hqq
    by_cases hz : qq = z
    · subst hz
      have hbn := bne_self qq
      go_wp2_with fail
      refine HQ.out.mono ?_
      rintro e w3 ⟨rfl, hb3⟩
      have HB3 := hide (Below.on HB.out hb3)
      have hl3 := HS2.out w3 hb3
      have HCl := hide (clone_any out w3 HSz.out)
      clear hb3
      go_wp2_with fail
      refine HCl.out.mono ?_
      rintro e w4 ⟨rfl, hb4⟩
      have HB4 := hide (Below.on HB3.out hb4)
      clear hb4
      go_wp2
      (try go_quiet (fail))
      (try go_wp2)
      (try simp only [Exit.inBlock, Exit.then])
      refine bodyPost_ret (results_tmp2 rfl _ _ _) rfl ?_
      exact ⟨⟨fun t ht => by rw [← HT.out t ht]; rfl, fun hn => absurd (wrd_bytes.2 HQQ.out) (hn out)⟩, by first | exact below_drewN HB4.out _ | exact HB4.out⟩
    · have hbn := beq_bytes hz
      have HZN := hide hz
      clear hz
      go_wp2_with fail
      refine HQ.out.mono ?_
      rintro e w3 ⟨rfl, hb3⟩
      have HB3 := hide (Below.on HB.out hb3)
      have hl3 := HS2.out w3 hb3
      clear hb3
      go_wp2
      (try go_quiet (fail))
      (try go_wp2)
      (try simp only [Exit.inBlock, Exit.then])
      refine bodyPost_ret (results_tmp2 rfl _ _ _) rfl ?_
      exact ⟨⟨fun t ht => by have h9 := HT.out t ht; subst h9; exact absurd (HQQ.out.symm.trans (wrd_bytes.1 ht)) HZN.out, fun _ => rfl⟩, by first | exact below_drewN HB3.out _ | exact HB3.out⟩
/-- What Unquote answers. -/
structure UoP (z : ByteArray) (e : Ending) : Prop where
  yes : ∀ t : ByteArray, z.data.toList = wrd t → e = .returned (.tuple #[.string t, .int .i64 0])
  no : (∀ t : ByteArray, z.data.toList ≠ wrd t) → e = .returned (.tuple #[.string ⟨#[]⟩, .int .i64 230])
set_option maxRecDepth 100000 in
set_option maxHeartbeats 4000000 in
theorem unquote_any (z : ByteArray) (T : TypeId) (vE : Value) (a : Addr) (w : World) (hS : Sn T vE a w) (hs : z.size ≤ 1073741824) :
    Calls Tryd.prog 12 #[.string z] w fun e w' => UoP z e ∧ Below w.heap.size w w' := by
  have HR := hide (rword_any z T vE a w hS hs)
  have HS := hide (fun (X : World) (hX : Below w.heap.size w X) => (hS.below hX).line)
  clear hS hs
  by_cases hz : ∃ t : ByteArray, z.data.toList = wrd t
  · obtain ⟨t, ht⟩ := hz
    have HT := hide ht
    clear ht
    go_enter Tryd.func12, Tryd.ntmps12
    go_wp2_with fail
    refine HR.out.mono ?_
    intro e w2 hUU
    obtain ⟨hU, hb⟩ := hUU
    have he := hU.yes t HT.out
    subst he
    have HB := hide hb
    have HN := hide (errno_nil a w2 (HS.out w2 hb))
    clear hb hU
    go_wp2_with fail
    refine HN.out.mono ?_
    rintro e w3 ⟨rfl, hb3⟩
    have HB3 := hide (Below.on HB.out hb3)
    clear hb3
    go_wp2
    (try go_quiet (fail))
    (try go_wp2)
    (try simp only [Exit.inBlock, Exit.then])
    refine bodyPost_ret (results_tmp2 rfl _ _ _) rfl ?_
    refine ⟨⟨fun t2 ht2 => ?_, fun hn => absurd HT.out (hn t)⟩, by first | exact below_drewN HB3.out _ | exact HB3.out⟩
    have := wrd_inj (HT.out.symm.trans ht2)
    subst this
    rfl
  · have HN0 : Hid (∀ t : ByteArray, z.data.toList ≠ wrd t) := hide (fun t ht => hz ⟨t, ht⟩)
    clear hz
    go_enter Tryd.func12, Tryd.ntmps12
    go_wp2_with fail
    refine HR.out.mono ?_
    intro e w2 hUU
    obtain ⟨hU, hb⟩ := hUU
    have he := hU.no HN0.out
    subst he
    have HB := hide hb
    have HN := hide (errno_line a w2 (HS.out w2 hb))
    clear hb hU
    go_wp2_with fail
    refine HN.out.mono ?_
    rintro e w3 ⟨rfl, hb3⟩
    have HB3 := hide (Below.on HB.out hb3)
    clear hb3
    go_wp2
    (try go_quiet (fail))
    (try go_wp2)
    (try simp only [Exit.inBlock, Exit.then])
    refine bodyPost_ret (results_tmp2 rfl _ _ _) rfl ?_
    exact ⟨⟨fun t2 ht2 => absurd ht2 (HN0.out t2), fun _ => rfl⟩, by first | exact below_drewN HB3.out _ | exact HB3.out⟩
end Go.Proofs.YtpnacioliccglaaDoor
