/-
  WireCursors: the walk.
-/
import Derived.Test.YtdjampgnpiedeabStep
namespace Go.Proofs.Ytdjampgnpiedeab
open Go.RowKit

/-- The script's steps lie at a: kind and number of each. -/
structure Ops (w : World) (a : Option Addr) (n : Nat) (K N : Nat → Int) : Prop where
  cells : n = 0 ∨ ∃ b off, a = some ⟨b, off, none⟩ ∧ ∀ i, i < n → w.cell? ⟨b, off + i * 2, none⟩ = some (.int .i64 (K i)) ∧ w.cell? ⟨b, off + i * 2 + 1, none⟩ = some (.int .i64 (N i))
theorem Ops.below {w w' : World} {a : Option Addr} {n : Nat} {K N : Nat → Int} (h : Ops w a n K N) (hb : Below w.heap.size w w') : Ops w' a n K N := by
  refine ⟨?_⟩
  rcases h.cells with h0 | ⟨b, off, ha, hc⟩
  · exact .inl h0
  · refine .inr ⟨b, off, ha, fun i hi => ?_⟩
    obtain ⟨h1, h2⟩ := hc i hi
    have hlt := World.block_lt_of_cell? w _ h1
    exact ⟨(hb.cell (p := ⟨b, off + i * 2, none⟩) hlt).trans h1, (hb.cell (p := ⟨b, off + i * 2 + 1, none⟩) hlt).trans h2⟩

set_option maxHeartbeats 1600000 in
theorem law_nil (a1 : Option Addr) (n1 c1 : Nat) (sa : Option Addr) (sn sc : Nat) (K N : Nat → Int) (w : World) (hops : Ops w sa sn K N) (hsn : sn ≤ 9223372036854775807) :
    Calls Try.prog 3 #[.bool true, .slice a1 n1 c1, .slice sa sn sc] w fun e w' => e = .returned (.bool true) ∧ Below w.heap.size w w' := by
  have HO := hide hops
  clear hops
  go_enter Try.func3, Try.ntmps3
  go_wp2_with fail
  go_loopw [11] (fun si wr => ∃ (k : Nat), k ≤ sn ∧ si = .int .i64 k ∧ Sit wr w.heap.size w.heap.size (.pointer none) (.pointer none) ∧ Below w.heap.size w wr ∧ w.heap.size ≤ wr.heap.size)
    (fun si _ => sn - (intOf si).toNat)
  case atStart => exact ⟨0, Nat.zero_le _, rfl, .inl ⟨rfl, rfl⟩, Below.refl _ _, Nat.le_refl _⟩
  case round =>
    obtain ⟨k, hk, rfl, hs, hb, hto⟩ := hrel
    have HS := hide hs
    have HB := hide hb
    clear hs hb
    by_cases hlt : k < sn
    · obtain ⟨b, off, hsa, hc⟩ := (HO.out.below HB.out).cells.resolve_left (by omega)
      subst hsa
      obtain ⟨h1, h2⟩ := hc k hlt
      clear hc
      generalize K k = kind at h1
      generalize N k = num at h2
      go_wp2_with fail
      refine (step_any (.pointer none) (.pointer none) kind num wr w.heap.size w.heap.size HS.out HB.out.size hto).mono ?_
      rintro e w1 ⟨rfl, hs1, hb1⟩
      have HS1 := hide hs1
      have HB1 := hide hb1
      clear hs1 hb1
      go_wp2
      exact ⟨⟨k + 1, by omega, by go_num, HS1.out, HB.out.trans HB1.out, Nat.le_trans hto HB1.out.size⟩, by simp [intOf]; omega⟩
    · go_wp2_with fail
      refine (step_any (.pointer none) (.pointer none) 7 0 wr w.heap.size w.heap.size HS.out HB.out.size hto).mono ?_
      rintro e w1 ⟨rfl, hs1, hb1⟩
      have HS1 := hide hs1
      have HB1 := hide (HB.out.trans hb1)
      have hto1 : w.heap.size ≤ w1.heap.size := Nat.le_trans hto hb1.size
      clear hs1 hb1
      go_wp2_with fail
      refine (step_any (.pointer none) (.pointer none) 6 0 w1 w.heap.size w.heap.size HS1.out HB1.out.size hto1).mono ?_
      rintro e w2 ⟨rfl, hs2, hb2⟩
      have HB2 := hide (HB1.out.trans hb2)
      clear hs2 hb2
      go_wp2
      go_ret
      exact ⟨rfl, HB2.out⟩

theorem Cur.mono {ty : TypeId} {w : World} {base base' g : Nat} {a : Option Addr} {n c : Nat} {zs : List Int} {p : Nat} {f : Int} (h : Cur ty w base g a n c zs p f) (hb : base' ≤ base) : Cur ty w base' g a n c zs p f :=
  ⟨h.blk, own_mono h.own hb, h.u8, h.le, h.reach, h.ne⟩

set_option maxHeartbeats 3200000 in
theorem law_some (a1 : Option Addr) (n1 c1 : Nat) (zs : List Int) (sa : Option Addr) (sn sc : Nat) (K N : Nat → Int) (w : World) (hr : Row w a1 n1 zs) (hn1 : n1 ≤ 140737488351232) (hr0 : a1 = none → n1 = 0 ∧ c1 = 0) (hops : Ops w sa sn K N) (hsn : sn ≤ 9223372036854775807) :
    Calls Try.prog 3 #[.bool false, .slice a1 n1 c1, .slice sa sn sc] w fun e w' => e = .returned (.bool true) ∧ Below w.heap.size w w' := by
  have HO := hide hops
  have HR := hide hr
  have H0 := hide hr0
  clear hops hr hr0
  go_enter Try.func3, Try.ntmps3
  go_wp2_with fail
  refine (copied_any a1 n1 c1 zs w HR.out hn1 H0.out).mono ?_
  rintro e w1 ⟨a2, c2, rfl, hnone, hown, hb1⟩
  have HW := hide hown
  have HB1 := hide hb1
  have R1 := hide (show Row w1 a2 n1 zs by
    obtain ⟨a', c', hv, _, hr⟩ := Row.of_own hown HR.out.u8
    cases hv; exact hr)
  have HN2 : Hid (a2 = none → n1 = 0 ∧ c2 = 0) := by
    intro h
    rcases hown.2 with ⟨hv, h0⟩ | ⟨gl, cap, cur, hv, _⟩
    · cases hv; exact ⟨rfl, rfl⟩
    · rw [h] at hv; cases hv
  clear hown hb1 hnone
  go_wp2_with fail
  refine (new_any a2 n1 c2 zs w1 R1.out (by omega) HN2.out).mono ?_
  rintro e w2 ⟨g, a3, c3, rfl, hcur, hg, hb2⟩
  have HC2 := hide hcur
  have HB2 := hide hb2
  have HB2' := hide (Below.trans HB1.out (hb2.mono HB1.out.size))
  clear hcur hb2
  go_wp2_with fail
  refine (rnew_any a1 n1 c1 zs w2 (HR.out.below HB2'.out) (by omega) H0.out).mono ?_
  rintro e w3 ⟨g', a4, c4, rfl, hcur', hg', hb3⟩
  have HC3 := hide (HC2.out.below hb3)
  have hs12 : w1.heap.size ≤ w2.heap.size := HB2.out.size
  have HD3 := hide (hcur'.mono hs12)
  have HB3 := hide (Below.trans HB2'.out (hb3.mono HB2'.out.size))
  have HW3 := hide ((HW.out.kept (grown_below (r := none) HB2.out) (by cases (Value.slice a2 n1 c2).ownBlock <;> simp)).kept (grown_below (r := none) hb3) (by cases (Value.slice a2 n1 c2).ownBlock <;> simp))
  have hg'1 : w1.heap.size ≤ g' := Nat.le_trans hs12 hg'
  have R3 := hide (show Row w3 a2 n1 zs from (R1.out.below HB2.out).below hb3)
  have R3' := hide (HR.out.below HB3.out)
  have SS := hide (same_any a2 a1 n1 c2 n1 c1 zs zs w3 R3.out R3'.out (by omega))
  have HLT := hide HW.out.lt
  clear hcur' hb3 HC2 HB2 HB2' R1 hg' R3 R3' HW
  go_wp2_with fail
  refine SS.out.mono ?_
  rintro e w4 ⟨rfl, m, hw4⟩
  simp only [decide_true]
  have HC4 : Hid (Cur 36 w4 w1.heap.size g a3 n1 c3 zs 0 0) := by subst hw4; exact HC3.out.below (below_drewN (Below.refl _ _) m)
  have HD4 : Hid (Cur 38 w4 w1.heap.size g' a4 n1 c4 zs 0 0) := by subst hw4; exact HD3.out.below (below_drewN (Below.refl _ _) m)
  have HB4 : Hid (Below w.heap.size w w4) := by subst hw4; exact below_drewN HB3.out m
  have HW4 : Hid (w4.ownsRow w.heap.size 5 1 (.slice a2 n1 c2) n1 (zs.map (Value.int .u8))) := by subst hw4; exact HW3.out
  clear SS HC3 HD3 HB3 HW3 hw4
  go_wp2_with fail
  go_loopw [10] (fun si wr => ∃ (k : Nat) (M : List Int), k ≤ n1 ∧ si = .int .i64 k ∧ M.length = n1 ∧ wr.ownsRow w.heap.size 5 1 (.slice a2 n1 c2) n1 (M.map (Value.int .u8)) ∧ Cur 36 wr w1.heap.size g a3 n1 c3 zs 0 0 ∧ Cur 38 wr w1.heap.size g' a4 n1 c4 zs 0 0 ∧ Below w.heap.size w wr)
    (fun si _ => n1 - (intOf si).toNat)
  case atStart => exact ⟨0, zs, Nat.zero_le _, rfl, HR.out.len, HW4.out, HC4.out, HD4.out, HB4.out⟩
  case round =>
    obtain ⟨k, M, hk, rfl, hM, hownM, hc5, hd5, hb5⟩ := hrel
    have HW5 := hide hownM
    have HC5 := hide hc5
    have HD5 := hide hd5
    have HB5 := hide hb5
    clear hownM hc5 hd5 hb5 HW4 HC4 HD4 HB4
    by_cases hlt : k < n1
    · obtain ⟨gl, ha, hgl⟩ : ∃ gl, a2 = some ⟨gl, 0, none⟩ ∧ w.heap.size ≤ gl := by
        rcases HW5.out.2 with ⟨_, hn⟩ | ⟨gl, cap, cur, hv, hg, _⟩
        · omega
        · cases hv; exact ⟨gl, rfl, hg⟩
      subst ha
      have hgl1 : gl < w1.heap.size := (HLT.out gl rfl).2
      have hfr := HW5.out.frozenAt k
      have hcl : wr.cell? ⟨gl, k, none⟩ = some (.int .u8 (M.getD k 0)) := by
        rw [HW5.out.cellAt k (by omega)]; simp [hM, hlt]
      go_wp2
      have hs := HW5.out.stored k (Value.int .u8 (((k : Int) + 1) % 256))
      rw [← List.map_set] at hs
      refine ⟨⟨k + 1, _, by omega, by go_num, by simpa using hM, hs.1, ?_, ?_, HB5.out.setCell hgl _⟩, by simp [intOf]; omega⟩
      · refine HC5.out.kept hs.2 (by intro e; cases e; omega) (.inr ?_)
        intro e
        have := (HC5.out.own.lt gl e).1
        omega
      · refine HD5.out.kept hs.2 (by intro e; cases e; omega) (.inr ?_)
        intro e
        have := (HD5.out.own.lt gl e).1
        omega
    · have hcm := HC5.out.mono HB1.out.size
      have hdm := HD5.out.mono HB1.out.size
      have ST : Hid (Sit wr w.heap.size wr.heap.size (.pointer (some ⟨g, 0, none⟩)) (.pointer (some ⟨g', 0, none⟩))) := .inr ⟨g, g', a3, n1, c3, a4, c4, zs, 0, 0, rfl, rfl, hcm, hdm, ⟨by have := HB1.out.size; omega, by have := HB1.out.size; omega, hcm.lt, hdm.lt⟩, fun j hj => (hcm.own.lt j hj).2, fun j hj => (hdm.own.lt j hj).2⟩
      obtain ⟨top, htop⟩ : ∃ top, top = wr.heap.size := ⟨_, rfl⟩
      have ST2 : Hid (Sit wr w.heap.size top (.pointer (some ⟨g, 0, none⟩)) (.pointer (some ⟨g', 0, none⟩)) ∧ Below w.heap.size w wr ∧ top ≤ wr.heap.size) := by rw [htop]; exact ⟨ST.out, HB5.out, Nat.le_refl _⟩
      clear hcm hdm ST HC5 HD5 HW5 HB5 htop
      go_wp2_with fail
      go_loopw [11] (fun si wr => ∃ (k : Nat), k ≤ sn ∧ si = .int .i64 k ∧ Sit wr w.heap.size top (.pointer (some ⟨g, 0, none⟩)) (.pointer (some ⟨g', 0, none⟩)) ∧ Below w.heap.size w wr ∧ top ≤ wr.heap.size)
        (fun si _ => sn - (intOf si).toNat)
      case atStart => exact ⟨0, Nat.zero_le _, rfl, ST2.out⟩
      case round =>
        obtain ⟨k, hk, rfl, hs, hb, hto⟩ := hrel
        have HS := hide hs
        have HB := hide hb
        clear hs hb
        by_cases hlt : k < sn
        · obtain ⟨b, off, hsa, hc⟩ := (HO.out.below HB.out).cells.resolve_left (by omega)
          subst hsa
          obtain ⟨h1, h2⟩ := hc k hlt
          clear hc
          generalize K k = kind at h1
          generalize N k = num at h2
          go_wp2_with fail
          refine (step_any (.pointer (some ⟨g, 0, none⟩)) (.pointer (some ⟨g', 0, none⟩)) kind num wr w.heap.size top HS.out HB.out.size hto).mono ?_
          rintro e w1 ⟨rfl, hs1, hb1⟩
          have HS1 := hide hs1
          have HB1 := hide hb1
          clear hs1 hb1
          go_wp2
          exact ⟨⟨k + 1, by omega, by go_num, HS1.out, HB.out.trans HB1.out, Nat.le_trans hto HB1.out.size⟩, by simp [intOf]; omega⟩
        · go_wp2_with fail
          refine (step_any (.pointer (some ⟨g, 0, none⟩)) (.pointer (some ⟨g', 0, none⟩)) 7 0 wr w.heap.size top HS.out HB.out.size hto).mono ?_
          rintro e w1 ⟨rfl, hs1, hb1⟩
          have HS1 := hide hs1
          have HB1 := hide (HB.out.trans hb1)
          have hto1 : top ≤ w1.heap.size := Nat.le_trans hto hb1.size
          clear hs1 hb1
          go_wp2_with fail
          refine (step_any (.pointer (some ⟨g, 0, none⟩)) (.pointer (some ⟨g', 0, none⟩)) 6 0 w1 w.heap.size top HS1.out HB1.out.size hto1).mono ?_
          rintro e w2 ⟨rfl, hs2, hb2⟩
          have HB2 := hide (HB1.out.trans hb2)
          clear hs2 hb2
          go_wp2
          go_ret
          exact ⟨rfl, HB2.out⟩
end Go.Proofs.Ytdjampgnpiedeab
