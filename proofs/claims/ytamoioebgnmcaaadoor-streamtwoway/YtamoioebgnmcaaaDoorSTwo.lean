/-
  StreamTwoWay.
-/
import Derived.Test.YtamoioebgnmcaaaDoorSAwk
namespace Go.Proofs.YtamoioebgnmcaaaDoor
open Go.RowKit
set_option maxHeartbeats 1600000 in
set_option maxRecDepth 8000 in
theorem twoway_any (a : Option Addr) (n c : Nat) (bs : List (List Int)) (lim : Int) (w : World) (hK : Kn w) (hw : 0 < w.heap.size) (hr : LRow w a n bs) (hn : (n : Int) ≤ 9223372036854775000) :
    Calls Tryd.prog 5 #[.slice a n c, .int .i64 lim] w fun e w' => e = .returned (.bool true) ∧ Below w.heap.size w w' := by
  have HA := awake_any w hK hw
  have HR : Hid _ := hide hr
  have HNU := num_any
  clear hr
  by_cases hlim : 64 ≤ lim ∧ lim ≤ 1048576
  · have HLI := limits_any lim
    rw [decide_eq_true hlim] at HLI
    have HLM : Hid _ := hide hlim
    clear hlim
    by_cases he : (decV lim.toNat bs).2 = 0
    · obtain ⟨L, hL⟩ : ∃ L, decV lim.toNat bs = (L, 0) := ⟨(decV lim.toNat bs).1, Prod.ext rfl he⟩
      obtain ⟨hs, hok, hcut⟩ := decV_inv HR.out.u8 hL
      have HLL : Hid _ := hide hL
      have HE : Hid _ := hide he
      have HS : Hid _ := hide hs
      have HOK : Hid _ := hide hok
      have HCUT : Hid _ := hide hcut
      have HLN : Hid _ := hide (strE_len L 0 (by decide) (by decide) hs)
      clear hL he hs hok hcut
      go_enter Tryd.func5, Tryd.ntmps5
      go_wp2_with fail
      refine HA.mono ?_
      rintro e w1 ⟨rfl, hb1⟩
      have hs1 := hb1.size
      have HD := dec_any a n c bs lim w1 (hK.below hb1 (by omega)) (by omega) (HR.out.below hb1) HLM.out hn
      have HB1 : Hid _ := hide hb1
      clear hb1 HA
      go_wp2_with fail
      refine HD.mono ?_
      rintro e w2 ⟨hb2, -, hg⟩
      obtain ⟨v, rfl, hO2⟩ := hg HE.out
      rw [HLL.out] at hO2
      obtain ⟨av, cv, e9⟩ := own_formR hO2
      subst e9
      have hO2' : w2.ownsRow w1.heap.size 52 5 (.slice av L.length cv) L.length (flat L) := hO2
      have hs2 := hb2.size
      have hB2 : Below w.heap.size w w2 := HB1.out.trans (hb2.mono hs1)
      have HEN := enc_any av L.length cv L lim w2 (hK.below hB2 (by omega)) (by omega) (RRow.of_own hO2') HOK.out HLM.out (by have := HLN.out; omega)
      rw [HCUT.out] at HEN
      have HO2 : Hid _ := hide hO2'
      have HB2 : Hid _ := hide hB2
      clear hg hO2 hO2' hb2 hB2 HD
      go_wp2_with (go_at_call 22; refine (HNU _ _).mono ?_; rintro e w9 ⟨rfl, hw9⟩; rw [hw9]; clear hw9 w9)
      refine HEN.mono ?_
      rintro e w3 ⟨hb3, -, hg⟩
      obtain ⟨ao, co, vals, rfl, hBd, hsm, -⟩ := hg HS.out
      have hs3 := hb3.size
      have hB3 : Below w.heap.size w w3 := HB2.out.trans (hb3.mono (by omega))
      have HGD := good_ok av L.length cv L w3 (hK.below hB3 (by omega)) (by omega) (RRow.of_own (own_below HO2.out hb3)) HS.out HOK.out (by have := HLN.out; omega)
      have HLR : Hid _ := hide (hBd.lrow rfl (fun x hx => by have h1 := hsm x hx; have h2 := HLM.out.2; omega))
      have HB3 : Hid _ := hide hB3
      clear hg hBd hsm hb3 hB3 HEN
      go_wp2_with fail
      refine HGD.mono ?_
      rintro e w4 ⟨rfl, hb4⟩
      have hs4 := hb4.size
      have hB4 : Below w.heap.size w w4 := HB3.out.trans (hb4.mono (by omega))
      have HSL := sl_any ao a bs.length co n c bs bs w4 (HLR.out.below hb4) (HR.out.below hB4) (by have := HR.out.len; omega)
      rw [decide_eq_true rfl] at HSL
      have HB4 : Hid _ := hide hB4
      clear hb4 hB4 HGD
      go_wp2_with (go_at_call 22; refine (HNU _ _).mono ?_; rintro e w9 ⟨rfl, hw9⟩; rw [hw9]; clear hw9 w9)
      refine HSL.mono ?_
      rintro e w5 ⟨rfl, m, hw5⟩
      have HB5 : Hid (Below w.heap.size w w5) := hide (by rw [hw5]; exact below_drewN HB4.out m)
      clear hw5 HSL
      go_wp2
      go_ret
      exact ⟨rfl, HB5.out⟩
    · have hE2 := decV_ne2 (lim := lim.toNat) HR.out.u8
      go_enter Tryd.func5, Tryd.ntmps5
      go_wp2_with fail
      refine HA.mono ?_
      rintro e w1 ⟨rfl, hb1⟩
      have hs1 := hb1.size
      have HD := dec_any a n c bs lim w1 (hK.below hb1 (by omega)) (by omega) (HR.out.below hb1) HLM.out hn
      generalize (decV lim.toNat bs).2 = E at HD he hE2
      have HB1 : Hid _ := hide hb1
      have hq : (E == 2) = false := by simpa using hE2
      clear hb1 HA
      go_wp2_with fail
      refine HD.mono ?_
      rintro e w2 ⟨hb2, hbad, -⟩
      obtain rfl := hbad he
      have HB2 : Hid _ := hide (HB1.out.trans (hb2.mono hs1))
      clear hbad hb2 HD
      go_wp2_with (first | (go_at_call 22; refine (HNU _ _).mono ?_; rintro e w9 ⟨rfl, hw9⟩; rw [hw9]; clear hw9 w9) | (go_at_call 23; refine (HLI _).mono ?_; rintro e w9 ⟨rfl, hw9⟩; rw [hw9]; clear hw9 w9))
      go_ret
      exact ⟨rfl, HB2.out⟩
  · have HLI := limits_any lim
    rw [decide_eq_false hlim] at HLI
    have HD := fun W => dec_lim a n c lim W hlim
    clear hlim
    go_enter Tryd.func5, Tryd.ntmps5
    go_wp2_with fail
    refine HA.mono ?_
    rintro e w1 ⟨rfl, hb1⟩
    have HB1 : Hid _ := hide hb1
    clear hb1 HA
    go_wp2_with fail
    refine (HD w1).mono ?_
    rintro e w2 ⟨rfl, hw2⟩
    rw [hw2]
    clear hw2 w2 HD
    go_wp2_with (first | (go_at_call 22; refine (HNU _ _).mono ?_; rintro e w9 ⟨rfl, hw9⟩; rw [hw9]; clear hw9 w9) | (go_at_call 23; refine (HLI _).mono ?_; rintro e w9 ⟨rfl, hw9⟩; rw [hw9]; clear hw9 w9))
    go_ret
    exact ⟨rfl, HB1.out⟩
end Go.Proofs.YtamoioebgnmcaaaDoor
