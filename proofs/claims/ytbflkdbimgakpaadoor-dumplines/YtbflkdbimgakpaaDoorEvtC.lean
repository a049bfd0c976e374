/-
  Check, Access, Clash.
-/
import Derived.Test.YtbflkdbimgakpaaDoorEvtB
namespace Go.Proofs.YtbflkdbimgakpaaDoor.E6
open Go.RowKit Go.Maps Go.Shelf
/-- An event lies in block b. -/
def EvB (w : World) (b : Nat) (g k o a : Int) (sa : Option Addr) (sn sc : Nat) : Prop := w.heap[b]? = some (.cells #[.int .i64 g, .int .i64 k, .int .u64 o, .int .u64 a, .slice sa sn sc] 25 (0, 0))
section
variable {w w' : World} {b B : Nat} {g k o a : Int} {sa : Option Addr} {sn sc : Nat}
theorem EvB.new : EvB (w.alloc (.cells #[.int .i64 g, .int .i64 k, .int .u64 o, .int .u64 a, .slice sa sn sc] 25)) w.heap.size g k o a sa sn sc := heap_alloc_new w _
theorem EvB.lt (h : EvB w b g k o a sa sn sc) : b < w.heap.size := (Array.getElem?_eq_some_iff.1 h).1
theorem EvB.below (h : EvB w b g k o a sa sn sc) (hb : Below w.heap.size w w') : EvB w' b g k o a sa sn sc := (hb.block b h.lt).trans h
theorem EvB.c0 (h : EvB w b g k o a sa sn sc) : w.cell? ⟨b, 0, none⟩ = some (.int .i64 g) := by rw [cell_of_row w b 0 _ 25 (0, 0) h]; rfl
theorem EvB.c1 (h : EvB w b g k o a sa sn sc) : w.cell? ⟨b, 1, none⟩ = some (.int .i64 k) := by rw [cell_of_row w b 1 _ 25 (0, 0) h]; rfl
theorem EvB.c2 (h : EvB w b g k o a sa sn sc) : w.cell? ⟨b, 2, none⟩ = some (.int .u64 o) := by rw [cell_of_row w b 2 _ 25 (0, 0) h]; rfl
theorem EvB.c3 (h : EvB w b g k o a sa sn sc) : w.cell? ⟨b, 3, none⟩ = some (.int .u64 a) := by rw [cell_of_row w b 3 _ 25 (0, 0) h]; rfl
theorem EvB.c4 (h : EvB w b g k o a sa sn sc) : w.cell? ⟨b, 4, none⟩ = some (.slice sa sn sc) := by rw [cell_of_row w b 4 _ 25 (0, 0) h]; rfl
end
def chk (g k o a : Int) (ls : List ByteArray) : Int :=
  if 1 ≤ k ∧ k ≤ 22 then if g < 0 ∨ 65536 ≤ g then 61 else if objB k.toNat o a then if argB k.toNat a then if stkB ls then 0 else 64 else 63 else 62 else 60
theorem below_new (w : World) (ob : Obj) : Below w.heap.size w (w.alloc ob) := (Below.refl _ w).alloc (Nat.le_refl _) _
set_option maxRecDepth 4000 in
theorem check_any (g k o a : Int) (sa : Option Addr) (sn sc : Nat) (ls : List ByteArray) (w : World) (h : Kr w) (hr : SRow w sa sn ls) (hn : (sn : Int) ≤ 9223372036854775806) :
    Calls Tryd.prog 18 #[.agg #[.int .i64 g, .int .i64 k, .int .u64 o, .int .u64 a, .slice sa sn sc]] w fun e w' => e = .returned (.int .i64 (chk g k o a ls)) ∧ Below w.heap.size w w' := by
  obtain ⟨R, hR⟩ : ∃ R, R = chk g k o a ls := ⟨_, rfl⟩
  rw [← hR]
  unfold chk at hR
  have hB : Below w.heap.size w (w.alloc (.cells #[.int .i64 g, .int .i64 k, .int .u64 o, .int .u64 a, .slice sa sn sc] 25)) := below_new w _
  have HB : Hid _ := hide hB
  have HK1 : Hid _ := hide (h.below hB (by have := h.size; omega))
  have HS1 : Hid _ := hide (hr.bel hB)
  have HE1 : Hid _ := hide (EvB.new (w := w) (g := g) (k := k) (o := o) (a := a) (sa := sa) (sn := sn) (sc := sc))
  have HQ : Hid _ := hide (kn_any k (w.alloc (.cells #[.int .i64 g, .int .i64 k, .int .u64 o, .int .u64 a, .slice sa sn sc] 25)))
  clear hB h hr
  by_cases hk : 1 ≤ k ∧ k ≤ 22
  · rw [if_pos hk] at hR
    rw [decide_eq_true hk] at HQ
    by_cases hg : g < 0 ∨ 65536 ≤ g
    · rw [if_pos hg] at hR
      subst hR
      rcases hg with hg | hg
      · go_enter Tryd.func18, Tryd.ntmps18
        go_wp2_with fail
        refine HQ.out.mono ?_
        rintro e w' ⟨rfl, rfl⟩
        go_wp2
        go_ret
        exact ⟨rfl, HB.out⟩
      · have hg0 : decide (g < 0) = false := by simp; omega
        go_enter Tryd.func18, Tryd.ntmps18
        go_wp2_with fail
        refine HQ.out.mono ?_
        rintro e w' ⟨rfl, rfl⟩
        go_wp2
        go_ret
        exact ⟨rfl, HB.out⟩
    · rw [if_neg hg] at hR
      have g1 : decide (g < 0) = false := by simp; omega
      have g2 : decide (65536 ≤ g) = false := by simp; omega
      have HR : Hid _ := hide hR
      clear hR hg
      obtain ⟨m, rfl⟩ : ∃ m : Nat, k = m := ⟨k.toNat, by omega⟩
      have hm : m < 23 := by omega
      rw [Int.toNat_natCast] at HR
      have HO : Hid _ := hide (obj_any g m o a sa sn sc _ HK1.out hm)
      clear hk
      go_enter Tryd.func18, Tryd.ntmps18
      go_wp2_with fail
      refine HQ.out.mono ?_
      rintro e w' ⟨rfl, rfl⟩
      go_wp2_with fail
      refine HO.out.mono ?_
      rintro e w2 ⟨rfl, hb2⟩
      have HB2 : Hid _ := hide (HB.out.trans (hb2.mono HB.out.size))
      have HK2 : Hid _ := hide (HK1.out.below hb2 (by have := HK1.out.size; omega))
      have HE2 : Hid _ := hide (HE1.out.below hb2)
      have HS2 : Hid _ := hide (HS1.out.bel hb2)
      clear HQ HO hb2 HB HK1 HE1 HS1 g1 g2
      cases hob : objB m o a
      · have HN : Hid (R = 62) := hide (by rw [HR.out, hob]; rfl)
        go_wp2
        go_ret
        exact ⟨by rw [HN.out]; rfl, HB2.out⟩
      · rw [hob] at HR
        simp only [if_true] at HR
        have HA : Hid _ := hide (arg_any g m o a sa sn sc w2 HK2.out hm)
        have q0 := HE2.out.c0
        have q1 := HE2.out.c1
        have q2 := HE2.out.c2
        have q3 := HE2.out.c3
        have q4 := HE2.out.c4
        go_wp2_with fail
        refine HA.out.mono ?_
        rintro e w3 ⟨rfl, hb3⟩
        have HB3 : Hid _ := hide (HB2.out.trans (hb3.mono HB2.out.size))
        have HE3 : Hid _ := hide (HE2.out.below hb3)
        have HS3 : Hid _ := hide (HS2.out.bel hb3)
        clear HA hb3 HB2 HK2 HE2 HS2 q0 q1 q2 q3 q4
        cases hab : argB m a
        · have HN : Hid (R = 63) := hide (by rw [HR.out, hab]; rfl)
          go_wp2
          go_ret
          exact ⟨by rw [HN.out]; rfl, HB3.out⟩
        · rw [hab] at HR
          simp only [if_true] at HR
          have q4 := HE3.out.c4
          have HT : Hid _ := hide (stk_any sa sn sc ls w3 HS3.out hn)
          go_wp2_with fail
          refine HT.out.mono ?_
          rintro e w4 ⟨rfl, rfl⟩
          cases hst : stkB ls
          · have HN : Hid (R = 64) := hide (by rw [HR.out, hst]; rfl)
            go_wp2
            go_ret
            exact ⟨by rw [HN.out]; rfl, HB3.out⟩
          · have HN : Hid (R = 0) := hide (by rw [HR.out, hst]; rfl)
            go_wp2
            go_ret
            exact ⟨by rw [HN.out]; rfl, HB3.out⟩
  · rw [if_neg hk] at hR
    rw [decide_eq_false hk] at HQ
    subst hR
    clear hk
    go_enter Tryd.func18, Tryd.ntmps18
    go_wp2_with fail
    refine HQ.out.mono ?_
    rintro e w' ⟨rfl, rfl⟩
    go_wp2
    go_ret
    exact ⟨rfl, HB.out⟩
end Go.Proofs.YtbflkdbimgakpaaDoor.E6
