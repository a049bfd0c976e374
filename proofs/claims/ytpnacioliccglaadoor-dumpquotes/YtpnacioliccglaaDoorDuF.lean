/-
  Words: the document's.
-/
import Derived.Test.YtpnacioliccglaaDoorDuD
import Derived.Test.YtpnacioliccglaaDoorDuE
import Derived.Lib.BufferRead
namespace Go.Proofs.YtpnacioliccglaaDoor
open Go.RowKit Go.Maps Go.Shelf
set_option linter.unusedVariables false
theorem conv_own {w : World} {B : Nat} {v : Value} {L : List UInt8} (h : Ou w B v L) : (convert 41 9 v).run Tryd.prog w = .ok (.string ⟨L.toArray⟩) w := by
  have h1 := ou_row h
  rcases h1.2 with ⟨rfl, h2⟩ | ⟨g, cap, cur, rfl, _, hh, _, _, _, ht⟩
  · have e : L = [] := List.length_eq_zero_iff.1 h2
    subst e
    exact Lib.run_convert_nil_bytes w 41 9 5 0 Tryd.underlying41 Tryd.underlying5 Tryd.underlying9
  · exact run_convert_bytes_back w 41 9 5 ⟨g, 0, none⟩ cap L Tryd.underlying41 Tryd.underlying5 Tryd.underlying9 (Lib.bytes_of_row hh (by simpa using ht))
theorem own_34 (w : World) : Ou (w.alloc (.cells #[.int .u8 34] 5)) w.heap.size (.slice (some ⟨w.heap.size, 0, none⟩) 1 1) [34] :=
  ⟨rfl, .inr ⟨w.heap.size, 1, #[.int .u8 34], rfl, Nat.le_refl _, heap_new _ _, Nat.le_refl _, by unfold maxLen; omega, rfl, rfl⟩⟩
set_option maxRecDepth 8000 in
set_option maxHeartbeats 4000000 in
theorem rquote_any (s : ByteArray) (w : World) (hb : 4 * s.size + 18 ≤ 140737488355328) :
    Calls Tryd.prog 11 #[.string s] w fun e w' => e = .returned (.string ⟨(wrd s).toArray⟩) ∧ Fr w.heap.size w w' := by
  obtain ⟨n, hn⟩ : ∃ n, s.size = n := ⟨_, rfl⟩
  have HN := hide hn
  have hnI : (n : Int) ≤ 9223372036854775000 := by omega
  have HQ0 : Hid (wrd s = [34] ++ qtF s n 0 ++ [34]) := hide (by rw [← hn]; rfl)
  rw [hn] at hb
  have HB := hide hb
  have HZ := hide (qt_len s)
  rw [hn] at HZ
  have hsI : (s.size : Int) = n := by omega
  clear hb hn
  go_enter Tryd.func11, Tryd.ntmps11
  go_wp2
  go_loopw [3, 4, 5] (fun s3 s4 _ wr => ∃ pos fuel : Nat, s4 = .int .i64 pos ∧ pos ≤ n ∧ n ≤ pos + fuel ∧ Hid (∃ D, Ou wr w.heap.size s3 ([34] ++ D) ∧ D ++ qtF s fuel pos = qtF s n 0 ∧ Fr w.heap.size w wr)) (fun _ s _ _ => n - (intOf s).toNat)
  case atStart => exact ⟨0, n, rfl, by omega, by omega, hide ⟨[], by rw [List.append_nil]; exact own_34 w, rfl, (Fr.refl _ w).alloc (Nat.le_refl _) _⟩⟩
  case round =>
    obtain ⟨pos, fuel, rfl, hp0, hpf, HJ⟩ := hrel
    by_cases hp : pos < n
    · have hps : pos < s.size := by rw [HN.out]; exact hp
      have hpI : (pos : Int) < n := by omega
      have hp00 : (0 : Int) ≤ pos := by omega
      obtain ⟨fuel, rfl⟩ : ∃ f', fuel = f' + 1 := ⟨fuel - 1, by omega⟩
      obtain ⟨D, q1, q2, q3⟩ := HJ.out
      have hlen : (D ++ qtF s (fuel + 1) pos).length ≤ 4 * n := by rw [q2]; have := HZ.out n 0 (Nat.zero_le _); omega
      rw [qtF_on hps] at q2 hlen
      have hin := stp_in hps
      have hst1 := stp_pos s pos
      have hwl4 := wl_le s pos
      have hDl : D.length ≤ 4 * n := by rw [List.length_append] at hlen; omega
      have HW := hide (well_any s pos wr hps (by omega))
      have HS := hide (sign_any w.heap.size u3 ([34] ++ D) s pos wr hps (by omega) q1 (by rw [List.length_append, List.length_singleton]; have := HB.out; omega) q3.size)
      have HNx : Hid (∀ (wz : World) (v2 : Value) (m : Nat), m = stp s pos → Ou wz w.heap.size v2 ([34] ++ D ++ sg s pos) → Fr w.heap.size wr wz → ∃ pos' fuel' : Nat, Value.int .i64 ((pos : Int) + (m : Int)) = .int .i64 pos' ∧ pos' ≤ n ∧ n ≤ pos' + fuel' ∧ Hid (∃ D, Ou wz w.heap.size v2 ([34] ++ D) ∧ D ++ qtF s fuel' pos' = qtF s n 0 ∧ Fr w.heap.size w wz)) := hide (fun wz v2 m hm h1 h2 =>
        ⟨pos + stp s pos, fuel, by rw [hm]; congr 1, by have := HN.out; omega, by omega, hide ⟨D ++ sg s pos, by rw [← List.append_assoc]; exact h1, by rw [← q2, List.append_assoc], q3.trans h2⟩⟩)
      obtain ⟨k, hk⟩ : ∃ k, wl s pos = k := ⟨_, rfl⟩
      have HSt : Hid (stp s pos = if k = 0 then 1 else k) := hide (by unfold stp; rw [hk])
      rw [hk] at HW HS hwl4
      have hin2 : Hid (pos + stp s pos ≤ n) := hide (by have := HN.out; omega)
      clear q1 q2 q3 hlen hDl hin hst1 HJ hps hk
      go_wp2_with fail
      refine HW.out.mono ?_
      rintro x w2 ⟨rfl, hw2⟩
      obtain rfl : wr = w2 := hw2.symm
      clear hw2 HW
      go_wp2_with fail
      refine HS.out.mono ?_
      rintro x w3 ⟨v3, rfl, o3, f3⟩
      have HO3 := hide o3
      have HF3 := hide f3
      clear o3 f3 HS
      by_cases hk0 : k = 0
      · subst hk0
        have HR := hide (HNx.out _ _ 1 (by rw [HSt.out, if_pos rfl]) HO3.out HF3.out)
        have hw1 : IntKind.i64.wrap ((pos : Int) + 1) = (pos : Int) + 1 := by rw [IntKind.wrap_i64]; omega
        clear HNx HSt hin2
        go_wp2
        exact ⟨HR.out, by simp [intOf]; omega⟩
      · have hkb : ((k : Int) == 0) = false := by rw [beq_eq_false_iff_ne]; omega
        have HR := hide (HNx.out _ _ k (by rw [HSt.out, if_neg hk0]) HO3.out HF3.out)
        have hkn : pos + k ≤ n := by have := hin2.out; rw [HSt.out, if_neg hk0] at this; exact this
        have hw1 : IntKind.i64.wrap ((pos : Int) + k) = (pos : Int) + k := by rw [IntKind.wrap_i64]; omega
        have hkp : 1 ≤ k := by omega
        clear HNx HSt hin2 hk0
        go_wp2
        exact ⟨HR.out, by simp [intOf]; omega⟩
    · have hps : ¬ pos < s.size := by rw [HN.out]; exact hp
      have hpI : ¬ (pos : Int) < n := by omega
      obtain ⟨D, q1, q2, q3⟩ := HJ.out
      rw [qtF_end hps, List.append_nil] at q2
      subst q2
      have HO2 := hide q1
      have HF2 := hide q3
      have HLn : Hid (([34] ++ qtF s n 0).length + 1 ≤ 140737488355328) := hide (by rw [List.length_append, List.length_singleton]; have := HB.out; have := HZ.out n 0 (Nat.zero_le _); omega)
      clear q1 q3 hps HJ
      go_wp2_with (at_builtin; go_loud (refine append_u _ rfl _ _ rfl w.heap.size _ ([34] ++ qtF s n 0) rfl (ou_fr HO2.out) wr.heap.size 1 1 _ [34] rfl (heap_new _ _) rfl rfl HLn.out (by rw [World.size_alloc]; exact Nat.le_succ_of_le HF2.out.size) ?_); intro v3 w3 o3 f3; have HF3 := hide (HF2.out.trans (((Fr.refl _ wr).alloc HF2.out.size _).trans f3)); have hcv := conv_own o3; rw [← HQ0.out] at hcv; clear o3 f3)
      go_ret
      exact ⟨rfl, HF3.out⟩
end Go.Proofs.YtpnacioliccglaaDoor
