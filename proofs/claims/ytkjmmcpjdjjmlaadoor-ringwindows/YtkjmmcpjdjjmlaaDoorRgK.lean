/-
  alive of the law.
-/
import Derived.Test.YtkjmmcpjdjjmlaaDoorRgJ
namespace Go.Proofs.YtkjmmcpjdjjmlaaDoor
open Go.RowKit Go.Maps Go.Shelf
def mk (i : Int) : Ab := ⟨0, 22, i, 0, []⟩
theorem chk_mk (i : Int) : chk 0 22 i 0 [] = 0 := by
  unfold chk
  rw [if_pos (by omega), if_neg (by omega)]
  rfl
theorem tk_mk (i : Int) : tk ⟨0, 22, i, 0, []⟩ = [mk i] := by unfold tk; rw [if_pos (chk_mk i)]; rfl
def mks (j : Nat) : List Ab := (List.range j).map fun i : Nat => mk ((i : Int) + 1)
theorem mks_len (j : Nat) : (mks j).length = j := by simp [mks]
theorem mks_succ (j : Nat) : mks (j + 1) = mks j ++ [mk ((j : Int) + 1)] := by simp [mks, List.range_succ]
theorem Rg.bel {w w' : World} {rb b B : Nat} (h1 : B ≤ rb) (h2 : B ≤ b) (h3 : B ≤ w.heap.size) (hb : But (Mine rb b) w w') : Below B w w' := hb.below h3 (fun q hq => by rcases hq with e | e <;> omega)
theorem two_ab {es : List Ev} {x y : Ab} (h : es.map Ev.ab = [x, y]) : ∃ e f, es = [e, f] ∧ e.ab = x ∧ f.ab = y := by
  match es, h with
  | [e, f], h => simp at h; exact ⟨e, f, rfl, h.1, h.2⟩
set_option maxRecDepth 8000 in
set_option maxHeartbeats 2000000 in
theorem alive_any (w : World) (hK : Kr w) : Calls Tryd.prog 4 #[] w fun e w' => e = .returned (.bool true) ∧ Below w.heap.size w w' := by
  have HK := hide hK
  have HN := hide (new_ok 2 w (by omega) (by omega))
  clear hK
  go_enter Tryd.func4, Tryd.ntmps4
  go_wp2_with fail
  refine HN.out.mono ?_
  rintro e w1 ⟨rb, b, rfl, hb1, hR1, hrb, hbb⟩
  have HR1 := hide hR1
  have HB1 := hide hb1
  have HG := hide (And.intro hrb hbb)
  clear hb1 hR1 hrb hbb HN
  go_wp2_with fail
  go_loopw [3] (fun si wr => ∃ (j : Nat) (es : List Ev), si = .int .i64 ((j : Int) + 1) ∧ j ≤ 3 ∧ Rg wr rb b 2 es (mks j) ∧ Below w.heap.size w wr) (fun si _ => 4 - (intOf si).toNat)
  case atStart => exact ⟨0, _, rfl, by omega, HR1.out, HB1.out⟩
  case round =>
    obtain ⟨j, es, rfl, hj, hR, hB⟩ := hrel
    have HR := hide hR
    have HB := hide hB
    by_cases hlt : j < 3
    · have hjI : (j : Int) < 3 := by omega
      have hw : IntKind.u64.wrap ((j : Int) + 1) = (j : Int) + 1 := by rw [IntKind.wrap_u64]; omega
      have HE := hide (emit_any hR (HK.out.below hB (by have := HK.out.size; omega)) 0 22 ((j : Int) + 1) 0 .none 0 0 [] ⟨rfl, .inl rfl⟩ (by omega) (by rw [mks_len]; omega))
      rw [chk_mk, tk_mk, ← mks_succ] at HE
      clear hR hB
      go_wp2_with fail
      refine HE.out.mono ?_
      rintro e w2 ⟨rfl, hb2, es2, hR2⟩
      have HR2 := hide hR2
      have HB2 := hide (HB.out.trans (Rg.bel HG.out.1 HG.out.2 HB.out.size hb2))
      clear hb2 hR2 HE
      go_wp2
      exact ⟨⟨j + 1, es2, by go_num, by omega, HR2.out, HB2.out⟩, by simp [intOf]; omega⟩
    · have hj3 : j = 3 := by omega
      subst hj3
      have HS := hide (snap_any hR)
      clear hR hB
      go_wp2_with fail
      refine HS.out.mono ?_
      rintro e w2 ⟨v, es2, rfl, hE2, hm2, hb2⟩
      have e3 : (mks 3).drop ((mks 3).length - 2) = [mk 2, mk 3] := rfl
      rw [e3] at hm2
      obtain ⟨x, y, rfl, hx, hy⟩ := two_ab hm2
      obtain ⟨g, c, hv, _, _, _⟩ := hE2.own.frm (by simp)
      subst hv
      have x2 := hE2.own.cell (i := 0) (a := x) rfl 2 rfl
      have y2 := hE2.own.cell (i := 1) (a := y) rfl 2 rfl
      have hxo : x.o = 2 := congrArg Ab.o hx
      have hyo : y.o = 3 := congrArg Ab.o hy
      rw [hxo] at x2
      rw [hyo] at y2
      have x2' : w2.cell? ⟨g, 2, .none⟩ = some (.int .u64 2) := x2
      have y2' : w2.cell? ⟨g, 7, .none⟩ = some (.int .u64 3) := y2
      have hR2 := HR.out.below hb2
      have HL := hide (len_any hR2)
      have HR2 := hide hR2
      have HB2 := hide (Below.on HB.out hb2)
      have HX := hide (And.intro x2' y2')
      have e4 : min (mks 3).length 2 = 2 := rfl
      rw [e4] at HL
      clear hE2 hm2 hb2 x2 y2 hx hy hxo hyo hR2 x2' y2' HS e3 e4
      go_wp2_with fail
      refine HL.out.mono ?_
      rintro e w3 ⟨rfl, q3, hw3⟩
      have b3 : Below w2.heap.size w2 w3 := by rw [hw3]; exact below_drewN (Below.refl _ _) _
      have hR3 := HR2.out.below b3
      have HLs := hide (lost_any hR3)
      have e5 : (mks 3).length - 2 = 1 := rfl
      rw [e5] at HLs
      have HR3 := hide hR3
      have HB3 := hide (Below.on HB2.out b3)
      have x3 := cell_bel HX.out.1 b3
      have y3 := cell_bel HX.out.2 b3
      have HX3 := hide (And.intro x3 y3)
      clear hw3 b3 hR3 e5 x3 y3 HL
      go_wp2_with fail
      refine HLs.out.mono ?_
      rintro e w4 ⟨rfl, q4, hw4⟩
      have b4 : Below w3.heap.size w3 w4 := by rw [hw4]; exact below_drewN (Below.refl _ _) _
      have hR4 := HR3.out.below b4
      have HW := hide (window_any hR4 (fun z hz => by
        obtain ⟨i, _, rfl⟩ := List.mem_map.1 hz
        exact ⟨by simp [mk], by simp [mk]⟩) 1)
      have HB4 := hide (Below.on HB3.out b4)
      have x4 := cell_bel HX3.out.1 b4
      have y4 := cell_bel HX3.out.2 b4
      clear hw4 b4 hR4 HLs
      go_wp2_with fail
      refine HW.out.mono ?_
      rintro e w5 ⟨v5, es5, rfl, hE5, hm5, hb5⟩
      have e6 : win 1 ((mks 3).drop ((mks 3).length - 2)) = [mk 3] := rfl
      rw [e6] at hm5
      have hl5 : es5.length = 1 := by have h9 := congrArg List.length hm5; rw [List.length_map] at h9; exact h9
      obtain ⟨a5, c5, hv5, _, _⟩ := hE5.form
      rw [hl5] at hv5
      subst hv5
      have HB5 := hide (Below.on HB4.out hb5)
      clear hE5 hm5 hb5 hl5 e6 HW x4 y4
      go_wp2
      go_ret
      exact ⟨rfl, HB5.out⟩
end Go.Proofs.YtkjmmcpjdjjmlaaDoor
