/-
  The document's Unquote; the walk of DumpQuotes.
-/
import Derived.Test.YtpnacioliccglaaDoorDvP
import Derived.Test.YtpnacioliccglaaDoorDvT
namespace Go.Proofs.YtpnacioliccglaaDoor
open Go.RowKit Go.Maps Go.Shelf
set_option linter.unusedVariables false
set_option maxRecDepth 100000 in
set_option maxHeartbeats 4000000 in
theorem runquote_any (z : ByteArray) (w : World) (hs : z.size ≤ 1073741824) :
    Calls Tryd.prog 13 #[.string z] w fun e w' => UoP z e ∧ Below w.heap.size w w' := by
  have HP := hide (plain_any z 0 w hs (Nat.zero_le _))
  have HZ := hide hs
  clear hs
  go_enter Tryd.func13, Tryd.ntmps13
  go_wp2_with fail
  refine HP.out.mono ?_
  intro e w2 hUU
  obtain ⟨hU, hb⟩ := hUU
  have HB := hide hb
  have HC : Hid (∀ t : ByteArray, z.data.toList = wrd t → e = .returned (.tuple #[.string t, .int .i64 (z.size : Int)])) := hide (fun t ht => by
    have h1 := hU.can t [] (by rw [List.drop_zero, List.append_nil]; exact ht)
    rw [h1, Nat.zero_add, ← ht, Array.length_toList]
    rfl)
  clear hb
  rcases hU.gen with he | ⟨out, k, he, hsz, _, hk⟩
  · subst he
    have HV : Hid (∀ t : ByteArray, z.data.toList ≠ wrd t) := hide (fun t ht => by
      have := HC.out t ht
      simp at this)
    have hne : ((-1 : Int) == ((z.size : Nat) : Int)) = false := by rw [beq_eq_false_iff_ne]; omega
    clear hU
    go_wp2
    go_ret2
    exact ⟨⟨fun t ht => absurd ht (HV.out t), fun _ => rfl⟩, HB.out⟩
  · subst he
    have HT : Hid (∀ t : ByteArray, z.data.toList = wrd t → out = t ∧ k = z.size) := hide (fun t ht => by
      have := HC.out t ht
      simp at this
      exact ⟨this.1, by omega⟩)
    by_cases hkz : k = z.size
    rotate_left
    · have hne : ((k : Int) != ((z.size : Nat) : Int)) = true := by rw [bne_iff_ne]; omega
      have HKZ := hide hkz
      clear hU hkz
      go_wp2
      go_ret2
      exact ⟨⟨fun t ht => absurd (HT.out t ht).2 HKZ.out, fun _ => rfl⟩, HB.out⟩
    have hne : ((k : Int) != ((z.size : Nat) : Int)) = false := by rw [bne_eq_false_iff_eq]; omega
    have HQ := hide (rquote_any out w2 (by have := HZ.out; omega))
    clear hU hkz hsz hk
    obtain ⟨qq, hqq⟩ : ∃ qq : ByteArray, (⟨(wrd out).toArray⟩ : ByteArray) = qq := ⟨_, rfl⟩
    rw [hqq] at HQ
    have HQQ := hide hqq
    clear hqq
    by_cases hz : qq = z
    · subst hz
      have hbn : (qq.toList == qq.toList) = true := by simp
      go_wp2_with fail
      refine HQ.out.mono ?_
      rintro e w3 ⟨rfl, hf3⟩
      have HB3 := hide (Below.on HB.out hf3.bel)
      clear hf3
      go_wp2
      go_ret2
      exact ⟨⟨fun t ht => by rw [← (HT.out t ht).1]; rfl, fun hn => absurd (wrd_bytes.2 HQQ.out) (hn out)⟩, HB3.out⟩
    · have hbn := beq_bytes hz
      have HZN := hide hz
      clear hz
      go_wp2_with fail
      refine HQ.out.mono ?_
      rintro e w3 ⟨rfl, hf3⟩
      have HB3 := hide (Below.on HB.out hf3.bel)
      clear hf3
      go_wp2
      go_ret2
      exact ⟨⟨fun t ht => by have h9 := (HT.out t ht).1; subst h9; exact absurd (HQQ.out.symm.trans (wrd_bytes.1 ht)) HZN.out, fun _ => rfl⟩, HB3.out⟩
theorem uoP_form {z : ByteArray} : ∃ S F, ∀ e, UoP z e → e = .returned (.tuple #[.string S, .int .i64 F]) := by
  by_cases h : ∃ t : ByteArray, z.data.toList = wrd t
  · obtain ⟨t, ht⟩ := h
    exact ⟨t, 0, fun e he => he.yes t ht⟩
  · exact ⟨⟨#[]⟩, 230, fun e he => he.no (fun t ht => h ⟨t, ht⟩)⟩
set_option maxRecDepth 100000 in
set_option maxHeartbeats 4000000 in
theorem quotes_any (s z : ByteArray) (T : TypeId) (vE : Value) (a : Addr) (w : World) (hS : Sn T vE a w) (hs : s.size ≤ 1073741824) (hz : z.size ≤ 1073741824) :
    Calls Tryd.prog 4 #[.string s, .string z] w fun e w' => e = .returned (.bool true) ∧ Below w.heap.size w w' := by
  have HA := hide (quote_any s w (by omega))
  have HB := hide (fun (X : World) => rquote_any s X (by omega))
  have HC := hide (fun (X : World) (hX : Below w.heap.size w X) => unquote_any z T vE a X (hS.below hX) hz)
  have HD := hide (fun (X : World) => runquote_any z X hz)
  obtain ⟨S, F, hSF⟩ := uoP_form (z := z)
  have HSF := hide hSF
  obtain ⟨Q, hQ⟩ : ∃ Q : ByteArray, (⟨(wrd s).toArray⟩ : ByteArray) = Q := ⟨_, rfl⟩
  rw [hQ] at HA HB
  have e1 : (Q.toList == Q.toList) = true := by simp
  have e2 : (S.toList == S.toList) = true := by simp
  have e3 : (F == F) = true := by simp
  clear hS hs hz hSF hQ
  go_enter Tryd.func4, Tryd.ntmps4
  go_wp2_with fail
  refine HA.out.mono ?_
  rintro e w2 ⟨rfl, b2⟩
  have HB2 := hide b2
  clear b2
  go_wp2_with fail
  refine (HB.out w2).mono ?_
  rintro e w3 ⟨rfl, f3⟩
  have HB3 := hide (Below.on HB2.out f3.bel)
  clear f3
  go_wp2_with fail
  refine (HC.out w3 HB3.out).mono ?_
  intro e w4 hUU
  obtain ⟨hU, b4⟩ := hUU
  have he := HSF.out e hU
  subst he
  have HB4 := hide (Below.on HB3.out b4)
  clear b4 hU
  go_wp2_with fail
  refine (HD.out w4).mono ?_
  intro e w5 hUU
  obtain ⟨hU, b5⟩ := hUU
  have he := HSF.out e hU
  subst he
  have HB5 := hide (Below.on HB4.out b5)
  clear b5 hU
  go_wp2
  go_ret
  exact ⟨rfl, HB5.out⟩
end Go.Proofs.YtpnacioliccglaaDoor
