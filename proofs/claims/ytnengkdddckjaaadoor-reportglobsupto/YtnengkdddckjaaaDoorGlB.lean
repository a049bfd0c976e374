/-
  The program's Match.
-/
import Derived.Test.YtnengkdddckjaaaDoorGlA
import Derived.Test.YtnengkdddckjaaaDoorReL
import Derived.Test.YtnengkdddckjaaaDoorHpW
namespace Go.Proofs.YtnengkdddckjaaaDoor
open Go.RowKit Go.Shelf
set_option linter.unusedVariables false
/-- A variable that the cutting reads. -/
def Mx (w : World) : Prop := ∃ m, w.cell? ⟨0, 0, none⟩ = some (.int .i64 m)
theorem Mx.drew {w : World} (h : Mx w) (n : Nat) : Mx (w.drewN n) := h
theorem size_l (l : List UInt8) : (⟨l.toArray⟩ : ByteArray).size = l.length := by
  show l.toArray.size = l.length
  simp
theorem scut_any (l a : List UInt8) (w : World) (hm : Mx w) (hs : l.length ≤ 1073741824) :
    Calls Tryd.prog 9 #[.string ⟨l.toArray⟩, .string ⟨a.toArray⟩] w fun e w' => e = .returned (.tuple #[.string ⟨(Lib.cut l a).1.toArray⟩, .string ⟨(Lib.cut l a).2.1.toArray⟩, .bool (Lib.cut l a).2.2]) ∧ ∃ n, w' = w.drewN n := by
  obtain ⟨m, h⟩ := hm
  have := Tryd.strings_Cut ⟨l.toArray⟩ ⟨a.toArray⟩ m w (by rw [size_l]; omega) h
  simpa using this
theorem spre_any (l a : List UInt8) (w : World) :
    Calls Tryd.prog 10 #[.string ⟨l.toArray⟩, .string ⟨a.toArray⟩] w fun e w' => e = .returned (.tuple #[.string ⟨(Lib.trimPrefix l a).toArray⟩, .bool (Lib.hasPrefix l a)]) ∧ w' = w := by
  have := Tryd.strings_CutPrefix ⟨l.toArray⟩ ⟨a.toArray⟩ w
  simpa using this
theorem strim_any (l : List UInt8) (w : World) :
    Calls Tryd.prog 11 #[.string ⟨l.toArray⟩, .string ⟨#[42]⟩] w fun e w' => e = .returned (.string ⟨(Lib.trimLeftB l 42).toArray⟩) ∧ w' = w := by
  have := Tryd.strings_TrimLeft_one ⟨l.toArray⟩ 42 (by decide) w
  simpa using this
theorem ssuf_any (l a : List UInt8) (w : World) (hs : l.length ≤ 1073741824) :
    Calls Tryd.prog 12 #[.string ⟨l.toArray⟩, .string ⟨a.toArray⟩] w fun e w' => e = .returned (.bool (Lib.hasSuffix l a)) ∧ w' = w := by
  have := Tryd.strings_HasSuffix ⟨l.toArray⟩ ⟨a.toArray⟩ w (by rw [size_l]; omega)
  simpa using this
theorem cut_le (t a : List UInt8) : (Lib.cut t a).2.1.length ≤ t.length := by
  unfold Lib.cut
  split
  · show (t.drop _).length ≤ _
    rw [List.length_drop]; omega
  · exact Nat.zero_le _
set_option maxRecDepth 8000 in
set_option maxHeartbeats 2000000 in
theorem match_l (p t : List UInt8) (w : World) (hm : Mx w) (hp : p.length ≤ 1073741824) (ht : t.length ≤ 1073741824) :
    Calls Tryd.prog 5 #[.string ⟨p.toArray⟩, .string ⟨t.toArray⟩] w fun e w' => e = .returned (.bool (glB p t)) ∧ ∃ n, w' = w.drewN n := by
  have HM := hide hm
  have HT := hide ht
  have HC := hide (scut_any p [42] w hm hp)
  rcases cut_star p with ⟨a, b, hpa, ha, hcut⟩ | ⟨hps, hcut⟩
  · rw [hcut] at HC
    have hG : glB p t = glB (a ++ 42 :: b) t := by rw [hpa]
    have hbl : b.length ≤ 1073741824 := by rw [hpa] at hp; simp at hp; omega
    have HB := hide hbl
    have HG : Hid (glB p t = (Lib.hasPrefix t a && glB (42 :: b) (Lib.trimPrefix t a))) := hide (by
      rw [hG]
      refine glB_of ?_
      rw [gl_plain_app _ _ _ ha, Bool.and_eq_true, glB_iff]
      unfold Lib.trimPrefix Lib.hasPrefix
      constructor
      · rintro ⟨v, rfl, h⟩
        have h1 : a.isPrefixOf (a ++ v) = true := List.isPrefixOf_iff_prefix.2 ⟨v, rfl⟩
        rw [h1, if_pos rfl, List.drop_left]
        exact ⟨rfl, h⟩
      · rintro ⟨h1, h⟩
        rw [h1, if_pos rfl] at h
        obtain ⟨v, rfl⟩ := List.isPrefixOf_iff_prefix.1 h1
        rw [List.drop_left] at h
        exact ⟨v, rfl, h⟩)
    have HTl : Hid ((Lib.trimPrefix t a).length ≤ 1073741824) := hide (by
      have : (Lib.trimPrefix t a).length ≤ t.length := by
        unfold Lib.trimPrefix
        split
        · rw [List.length_drop]; omega
        · exact Nat.le_refl _
      omega)
    have HP := hide (fun n => spre_any t a (w.drewN n))
    generalize glB p t = R at HG ⊢
    generalize Lib.hasPrefix t a = f0 at HG HP
    generalize Lib.trimPrefix t a = t0 at HG HTl HP
    clear hm hp ht hcut hpa ha hG hbl
    go_enter Tryd.func5, Tryd.ntmps5
    go_wp2_with fail
    refine HC.out.mono ?_
    rintro x w1 ⟨rfl, n1, rfl⟩
    go_wp2_with fail
    refine (HP.out n1).mono ?_
    rintro x w1 ⟨rfl, rfl⟩
    clear HC HP
    go_wp2
    go_loopw [0, 1, 7] (fun u v f wr => ∃ (q s : List UInt8) (g : Bool) (n : Nat), u = .string ⟨q.toArray⟩ ∧ v = .string ⟨s.toArray⟩ ∧ f = .bool g ∧ wr = w.drewN n ∧ Hid (R = (g && glB (42 :: q) s)) ∧ Hid (q.length ≤ 1073741824) ∧ Hid (s.length ≤ 1073741824)) (fun u _ _ _ => match u with | .string z => z.size | _ => 0)
    case atStart => exact ⟨b, t0, f0, n1, rfl, rfl, rfl, rfl, HG, HB, HTl⟩
    case round =>
      obtain ⟨q, s, g, n, rfl, rfl, rfl, rfl, HR, HQ, HS⟩ := hrel
      clear HG HTl HB
      cases g with
      | false =>
        have HR2 : Hid (R = false) := hide (by rw [HR.out]; rfl)
        clear HR
        go_wp2
        (try simp only [Exit.inBlock, Exit.then])
        refine bodyPost_ret (results_tmp rfl _ _ _) rfl ?_
        exact ⟨by rw [HR2.out]; rfl, n, rfl⟩
      | true =>
        have HR2 : Hid (R = glB (42 :: Lib.trimLeftB q 42) s) := hide (by rw [HR.out, Bool.true_and]; exact glB_eq (gl_trim s q).symm)
        have HL2 : Hid ((Lib.trimLeftB q 42).length ≤ q.length) := hide (trim_le q)
        have HTr := hide (strim_any q (w.drewN n))
        generalize Lib.trimLeftB q 42 = q2 at HR2 HL2 HTr
        have HC := hide (scut_any q2 [42] (w.drewN n) (HM.out.drew n) (Nat.le_trans HL2.out HQ.out))
        clear HR
        go_wp2_with fail
        refine HTr.out.mono ?_
        rintro x w1 ⟨rfl, rfl⟩
        clear HTr
        rcases cut_star q2 with ⟨a2, b2, hqa, ha2, hcut2⟩ | ⟨hqs, hcut2⟩
        · rw [hcut2] at HC
          have HLen : Hid (b2.length < q.length) := hide (by have := HL2.out; rw [hqa] at this; simp at this; omega)
          have HS2 : Hid ((Lib.cut s a2).2.1.length ≤ 1073741824) := hide (Nat.le_trans (cut_le s a2) HS.out)
          have HR3 : Hid (R = ((Lib.cut s a2).2.2 && glB (42 :: b2) (Lib.cut s a2).2.1)) := hide (by
            rw [HR2.out, hqa]
            refine glB_of ?_
            rw [gl_cut _ _ _ ha2, Bool.and_eq_true, glB_iff])
          have HCt := hide (fun n => scut_any s a2 (w.drewN n) (HM.out.drew n) HS.out)
          generalize (Lib.cut s a2).2.2 = f3 at HR3 HCt
          generalize (Lib.cut s a2).2.1 = s3 at HR3 HCt HS2
          generalize (Lib.cut s a2).1 = s4 at HCt
          clear hcut2 hqa ha2 HR2 HL2
          go_wp2_with fail
          refine HC.out.mono ?_
          rintro x w1 ⟨rfl, n2, rfl⟩
          go_wp2_with fail
          refine (HCt.out _).mono ?_
          rintro x w1 ⟨rfl, n3, rfl⟩
          go_wp2
          exact ⟨⟨b2, s3, f3, _, rfl, rfl, rfl, rfl, HR3, hide (by have := HLen.out; have := HQ.out; omega), HS2⟩, by show (⟨b2.toArray⟩ : ByteArray).size < (⟨q.toArray⟩ : ByteArray).size; rw [size_l, size_l]; exact HLen.out⟩
        · rw [hcut2] at HC
          have HR3 : Hid (R = Lib.hasSuffix s q2) := hide (by
            rw [HR2.out]
            exact glB_of (gl_last q2 s hqs))
          have HSf := hide (fun n => ssuf_any s q2 (w.drewN n) HS.out)
          clear hcut2 hqs HR2 HL2
          go_wp2_with fail
          refine HC.out.mono ?_
          rintro x w1 ⟨rfl, n2, rfl⟩
          go_wp2_with fail
          refine (HSf.out _).mono ?_
          rintro x w1 ⟨rfl, rfl⟩
          go_wp2
          (try simp only [Exit.inBlock, Exit.then])
          refine bodyPost_ret (results_tmp rfl _ _ _) rfl ?_
          exact ⟨by rw [HR3.out]; rfl, _, rfl⟩
  · rw [hcut] at HC
    have HG : Hid (glB p t = (t == p)) := hide (by
      refine glB_of ?_
      rw [gl_plain p t hps, beq_iff_eq])
    generalize glB p t = R at HG ⊢
    clear hm hp ht hcut hps
    go_enter Tryd.func5, Tryd.ntmps5
    go_wp2_with fail
    refine HC.out.mono ?_
    rintro x w1 ⟨rfl, n1, rfl⟩
    go_wp2
    go_ret
    exact ⟨by rw [HG.out]; rfl, _, rfl⟩
end Go.Proofs.YtnengkdddckjaaaDoor
