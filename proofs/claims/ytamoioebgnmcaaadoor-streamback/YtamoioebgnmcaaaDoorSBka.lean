/-
  StreamBack: what is refused; all of it.
-/
import Derived.Test.YtamoioebgnmcaaaDoorSBck
namespace Go.Proofs.YtamoioebgnmcaaaDoor
open Go.RowKit
set_option maxHeartbeats 1600000 in
set_option maxRecDepth 8000 in
theorem back_any (a : Option Addr) (n c : Nat) (L : List Rc) (lim : Int) (w : World) (hK : Kn w) (hw : 0 < w.heap.size) (hr : RRow w a n L) (hnc : n ≤ c) (hok : ∀ r ∈ L, r.ok) (hn : (n : Int) ≤ 9223372036854775000) :
    Calls Tryd.prog 6 #[.slice a n c, .int .i64 lim] w fun e w' => e = .returned (.bool true) ∧ Below w.heap.size w w' := by
  by_cases hlim : 64 ≤ lim ∧ lim ≤ 1048576
  · by_cases hs : strE 0 L = 0
    · exact back_ok a n c L lim w hK hw hr hnc hok hs hlim
    · have HA := awake_any w hK hw
      have HLI := limits_any lim
      rw [decide_eq_true hlim] at HLI
      have hE2 := strE_ne2 L 0
      have HR : Hid _ := hide hr
      have HOK : Hid _ := hide hok
      have HLM : Hid _ := hide hlim
      have HNU := num_any
      clear hr hlim hok hnc
      go_enter Tryd.func6, Tryd.ntmps6
      go_wp2_with fail
      refine HA.mono ?_
      rintro e w1 ⟨rfl, hb1⟩
      have hs1 := hb1.size
      have HEN := enc_any a n c L lim w1 (hK.below hb1 (by omega)) (by omega) (HR.out.below hb1) HOK.out HLM.out hn
      have HGX := fun W (hW : Below w.heap.size w W) => good_any a n c L W (hK.below hW (by omega)) (by have := hW.size; omega) (HR.out.below hW) HOK.out hn
      rw [decide_eq_false hs] at HGX
      generalize strE 0 L = E at HEN hs hE2
      have HGX : Hid _ := hide HGX
      have HB1 : Hid _ := hide hb1
      have hq0 : (E == 0) = false := by simpa using hs
      have hq2 : (E == 2) = false := by simpa using hE2
      clear hb1 HA
      go_wp2_with fail
      refine HEN.mono ?_
      rintro e w2 ⟨hb2, hbad, -⟩
      obtain rfl := hbad hs
      have hB2 : Below w.heap.size w w2 := HB1.out.trans (hb2.mono hs1)
      have HGD := HGX.out w2 hB2
      have HB2 : Hid _ := hide hB2
      clear hbad hb2 hB2 HEN HGX
      go_wp2_with fail
      refine HGD.mono ?_
      rintro e w3 ⟨rfl, hb3⟩
      have HB3 : Hid _ := hide (HB2.out.trans (hb3.mono HB2.out.size))
      clear hb3 HGD
      go_wp2_with (first | (go_at_call 22; refine (HNU _ _).mono ?_; rintro e w9 ⟨rfl, hw9⟩; rw [hw9]; clear hw9 w9) | (go_at_call 23; refine (HLI _).mono ?_; rintro e w9 ⟨rfl, hw9⟩; rw [hw9]; clear hw9 w9))
      go_ret
      exact ⟨rfl, HB3.out⟩
  · have HA := awake_any w hK hw
    have HLI := limits_any lim
    rw [decide_eq_false hlim] at HLI
    have HEN := fun W => enc_lim a n c lim W hlim
    have HR : Hid _ := hide hr
    have HOK : Hid _ := hide hok
    have HNU := num_any
    have HGX : Hid _ := hide (fun W (hW : Below w.heap.size w W) => good_any a n c L W (hK.below hW (by omega)) (by have := hW.size; omega) (HR.out.below hW) HOK.out hn)
    clear hr hlim hok hnc
    go_enter Tryd.func6, Tryd.ntmps6
    go_wp2_with fail
    refine HA.mono ?_
    rintro e w1 ⟨rfl, hb1⟩
    have HB1 : Hid _ := hide hb1
    clear hb1 HA
    go_wp2_with fail
    refine (HEN w1).mono ?_
    rintro e w2 ⟨rfl, hw2⟩
    rw [hw2]
    clear hw2 w2 HEN
    have HGD := HGX.out w1 HB1.out
    generalize decide (strE 0 L = 0) = g at HGD
    cases g
    · go_wp2_with fail
      refine HGD.mono ?_
      rintro e w3 ⟨rfl, hb3⟩
      have HB3 : Hid _ := hide (HB1.out.trans (hb3.mono HB1.out.size))
      clear hb3 HGD
      go_wp2_with (first | (go_at_call 22; refine (HNU _ _).mono ?_; rintro e w9 ⟨rfl, hw9⟩; rw [hw9]; clear hw9 w9) | (go_at_call 23; refine (HLI _).mono ?_; rintro e w9 ⟨rfl, hw9⟩; rw [hw9]; clear hw9 w9))
      go_ret
      exact ⟨rfl, HB3.out⟩
    · go_wp2_with fail
      refine HGD.mono ?_
      rintro e w3 ⟨rfl, hb3⟩
      have HB3 : Hid _ := hide (HB1.out.trans (hb3.mono HB1.out.size))
      clear hb3 HGD
      go_wp2_with (first | (go_at_call 22; refine (HNU _ _).mono ?_; rintro e w9 ⟨rfl, hw9⟩; rw [hw9]; clear hw9 w9) | (go_at_call 23; refine (HLI _).mono ?_; rintro e w9 ⟨rfl, hw9⟩; rw [hw9]; clear hw9 w9))
      go_ret
      exact ⟨rfl, HB3.out⟩
end Go.Proofs.YtamoioebgnmcaaaDoor
