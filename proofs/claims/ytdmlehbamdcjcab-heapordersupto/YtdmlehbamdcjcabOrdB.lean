/-
  Whether items are in their order: the law's own look.
-/
import Derived.Test.YtdmlehbamdcjcabOrdA
namespace Go.Proofs.Ytdmlehbamdcjcab
open Go.RowKit
set_option maxRecDepth 8000 in
set_option maxHeartbeats 6400000 in
theorem ordered_any (w : World) (aM aK : Option Addr) (N cM cK : Nat) (M : List It) (K : List Int) (hM : TRow layI w aM N M) (hK : TRow layN w aK N K) (ho : Ordd M K) (hN : (N : Int) ≤ 5000000000000) :
    Calls Try.prog 9 #[.slice aM N cM, .slice aK N cK] w fun r w' => r = .returned (.bool true) ∧ Below w.heap.size w w' := by
  obtain ⟨i0, hi, hz0, hz1, hz2⟩ := info_parts Try.info4
  have HM : Hid _ := hide hM
  have HK : Hid _ := hide hK
  have HLM : Hid _ := hide hM.len
  have HLK : Hid _ := hide hK.len
  have HO : Hid _ := hide ho
  clear hM hK ho
  go_enter Try.func9, Try.ntmps9
  go_wp2_with (at_make; refine wpList_make_full _ rfl _ _ 53 rfl w.heap.size 4 i0 (.bool false) 1 Try.underlying53 hi hz0 hz1 _ _ _ _ N rfl rfl rfl rfl ?b2 ?b3 (Nat.le_refl _) ?_)
  case b2 => rw [hz2]; omega
  case b3 => unfold maxLen; omega
  intro w1 hown1 hgr1
  have O1 : Own layB 4 w1 w.heap.size (.slice (some ⟨w.heap.size, 0, none⟩) N N) (List.replicate N false) := by
    have h9 := made_fl layB false N
    rw [show N * layB.z = N from Nat.mul_one N] at h9
    unfold Own
    rw [List.length_replicate, ← h9]
    exact hown1
  have B1 : Below w.heap.size w w1 := (Below.refl _ _).grown hgr1 (Nat.le_refl _) (fun k h => by cases h)
  have HO1 : Hid _ := hide O1
  have HB1 : Hid _ := hide B1
  clear O1 B1 hown1 hgr1
  go_wp2_with fail
  go_loopw [6] (fun si wr => ∃ (i : Nat) (SB : List Bool), si = .int .i64 i ∧ i ≤ N ∧ Hid (SB.length = N) ∧ Own layB 4 wr w.heap.size (.slice (some ⟨w.heap.size, 0, none⟩) N N) SB ∧ (∀ j : Nat, SB[j]? = some true → ∃ (i' : Nat) (x : It), i' < i ∧ M[i']? = some x ∧ x.t = j) ∧ Below w.heap.size w wr) (fun si _ => N - (intOf si).toNat)
  case atStart =>
    refine ⟨0, List.replicate N false, rfl, Nat.zero_le _, hide (by simp), HO1.out, fun j hj => ?_, HB1.out⟩
    rw [List.getElem?_replicate] at hj
    split at hj <;> simp at hj
  case round =>
    obtain ⟨i, SB, rfl, hiN, HSB, hso, hse, hb⟩ := hrel
    have HSO : Hid _ := hide hso
    have HSE : Hid _ := hide hse
    have HB : Hid _ := hide hb
    clear hso hse hb
    by_cases hlt : i < N
    · have hltI : (i : Int) < (N : Int) := by omega
      obtain ⟨x, hx⟩ : ∃ x, M[i]? = some x := ⟨_, List.getElem?_eq_getElem (by rw [HLM.out]; exact hlt)⟩
      obtain ⟨j, hj, hKj⟩ := HO.out.key i x hx
      have hjN : j < N := by have := get_lt hKj; rw [HLK.out] at this; exact this
      have hjI : (j : Int) < (N : Int) := by omega
      obtain ⟨bM, oM, rfl, _, hcM⟩ := (HM.out.below HB.out).at (by omega)
      obtain ⟨bK, oK, rfl, _, hcK⟩ := (HK.out.below HB.out).at (by omega)
      have x0 := hcM i x hx 0 _ rfl
      have x1 := hcM i x hx 1 _ rfl
      have y0 := hcK j _ hKj 0 _ rfl
      have hsf : SB[j]? = some false := by
        have hjl : j < SB.length := by rw [HSB.out]; exact hjN
        cases hq : SB[j] with
        | false => rw [List.getElem?_eq_getElem hjl, hq]
        | true =>
          obtain ⟨i', x', h1, h2, h3⟩ := HSE.out j (by rw [List.getElem?_eq_getElem hjl, hq])
          have := HO.out.uni i' i x' x h2 hx (by rw [h3, hj])
          omega
      have s0 := HSO.out.cell hsf 0 rfl
      have f0 := HSO.out.frozen j
      have HCM : Hid _ := hide hcM
      have HX : Hid _ := hide hx
      obtain ⟨xk, xt⟩ := x
      have hj' : xt = (j : Int) := hj
      subst hj'
      simp only [layI, layN, layB, Nat.mul_one, Nat.add_zero] at x0 x1 y0 s0
      have d1 : decide ((j : Int) < 0) = false := decide_eq_false (by omega)
      have d2 : decide ((N : Int) ≤ (j : Int)) = false := decide_eq_false (by omega)
      have d3 : decide (N ≤ j) = false := decide_eq_false (by omega)
      have HKJ : Hid _ := hide hKj
      clear hcM hcK hx hj hKj hsf
      go_upto_region 8 with fail
      go_quiet (fail)
      obtain ⟨w5, hw5⟩ : ∃ w5, w5 = wr.drewN nq := ⟨_, rfl⟩
      have b5 : Below wr.heap.size wr w5 := by rw [hw5]; exact below_drewN (Below.refl _ _) _
      rw [← hw5]
      clear hw5 s0 f0 x0 x1 y0
      have O5 := HSO.out.below b5
      have hsl : j < SB.length := by rw [HSB.out]; exact hjN
      obtain ⟨bq, hbq⟩ : ∃ bq, SB[j]? = some bq := ⟨_, List.getElem?_eq_getElem hsl⟩
      have s0 := O5.cell hbq 0 rfl
      have f0 := O5.frozen j
      simp only [layB, Nat.mul_one, Nat.add_zero] at s0
      have HO5 : Hid _ := hide O5
      have HB5 : Hid _ := hide (HB.out.trans (b5.mono HB.out.size))
      clear O5 b5 hbq hsl d1 d2 d3
      go_upto_region 11 with fail
      obtain ⟨w6, hw6⟩ : ∃ w6, w6 = setC w5 w.heap.size j [.bool true] := ⟨_, rfl⟩
      have hw6' : w5.setCell ⟨w.heap.size, j, none⟩ (.bool true) = w6 := by rw [hw6]; rfl
      rw [hw6']
      have O6 : Own layB 4 w6 w.heap.size (.slice (some ⟨w.heap.size, 0, none⟩) N N) (SB.set j true) := by
        have h9 := HO5.out.set HSB.out (i := j) (by rw [HSB.out]; exact hjN) true
        rw [hw6]
        simpa [layB] using h9
      have B6 : Below w.heap.size w w6 := by
        rw [hw6]
        exact HB5.out.trans (((But.refl (fun k => k = w.heap.size) w5).setC [.bool true] (fun _ => rfl)).below HB5.out.size (fun k hk => by have e9 : k = w.heap.size := hk; omega))
      have SE6 : Hid (∀ j' : Nat, (SB.set j true)[j']? = some true → ∃ (i' : Nat) (x : It), i' < i + 1 ∧ M[i']? = some x ∧ x.t = j') := hide (fun j' h9 => by
        rw [List.getElem?_set] at h9
        by_cases hjj : j = j'
        · subst hjj; exact ⟨i, _, by omega, HX.out, rfl⟩
        · rw [if_neg hjj] at h9
          obtain ⟨i', x', h1, h2, h3⟩ := HSE.out j' h9
          exact ⟨i', x', by omega, h2, h3⟩)
      have HO6 : Hid _ := hide O6
      have HB6 : Hid _ := hide B6
      have HL6 : Hid ((SB.set j true).length = N) := hide (by rw [List.length_set]; exact HSB.out)
      obtain ⟨bM', oM', heM, _, hcM'⟩ := (HM.out.below B6).at (by omega)
      cases heM
      have x0 := hcM' i _ HX.out 0 _ rfl
      have x1 := hcM' i _ HX.out 1 _ rfl
      simp only [layI, Nat.add_zero] at x0 x1
      clear hw6 hw6' O6 B6 s0 f0
      by_cases hi0 : i = 0
      · have e0 : decide ((0 : Int) < (i : Int)) = false := decide_eq_false (by omega)
        have e1 : decide (0 < i) = false := decide_eq_false (by omega)
        clear hcM'
        go_wp2_with fail
        go_quiet (fail)
        go_wp2_with fail
        exact ⟨⟨i + 1, _, by go_num, by omega, HL6, HO6.out.below (below_drewN (Below.refl _ _) _), SE6.out, below_drewN HB6.out _⟩, by simp [intOf]; omega⟩
      · obtain ⟨p, HP⟩ : ∃ p, Hid (i = p + 1) := ⟨i - 1, hide (by omega)⟩
        obtain ⟨y, hy⟩ : ∃ y, M[p]? = some y := ⟨_, List.getElem?_eq_getElem (by rw [HLM.out]; have := HP.out; omega)⟩
        have hor := HO.out.ord p y _ hy (by have := HP.out; rw [← this]; exact HX.out)
        have z0 := hcM' p y hy 0 _ rfl
        have z1 := hcM' p y hy 1 _ rfl
        simp only [layI, Nat.add_zero] at z0 z1
        obtain ⟨yk, yt⟩ := y
        dsimp only at hor
        have hpN : p < N := by have := HP.out; omega
        have hpI : (p : Int) < (N : Int) := by omega
        have hwr : IntKind.i64.wrap ((i : Int) - 1) = (p : Int) := by have := HP.out; rw [IntKind.wrap_i64]; omega
        have hii : (i : Int) - 1 = (p : Int) := by have := HP.out; omega
        have hip : 0 < i := by omega
        have e1 : decide (0 < i) = true := decide_eq_true hip
        have e2 : decide (xk < yk) = false := decide_eq_false (by omega)
        clear hcM' hy
        by_cases hkk : yk = xk
        · subst hkk
          have e3 : decide ((j : Int) < yt) = false := decide_eq_false (by omega)
          clear hor
          go_wp2_with fail
          go_quiet (fail)
          go_wp2_with fail
          exact ⟨⟨i + 1, _, by go_num, by omega, HL6, HO6.out.below (below_drewN (Below.refl _ _) _), SE6.out, below_drewN HB6.out _⟩, by simp [intOf]; omega⟩
        · have e3 : (yk == xk) = false := by simp [hkk]
          clear hor
          go_wp2_with fail
          go_quiet (fail)
          go_wp2_with fail
          exact ⟨⟨i + 1, _, by go_num, by omega, HL6, HO6.out.below (below_drewN (Below.refl _ _) _), SE6.out, below_drewN HB6.out _⟩, by simp [intOf]; omega⟩
    · go_wp2_with fail
      go_ret
      exact ⟨rfl, HB.out⟩
end Go.Proofs.Ytdmlehbamdcjcab
