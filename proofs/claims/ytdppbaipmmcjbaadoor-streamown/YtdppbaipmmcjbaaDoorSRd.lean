/-
  readAll: the records of all bodies.
-/
import Derived.Test.YtdppbaipmmcjbaaDoorSRdM
namespace Go.Proofs.YtdppbaipmmcjbaaDoor
open Go.RowKit
theorem flat_append (L M : List Rc) : flat (L ++ M) = flat L ++ flat M := by unfold flat; simp
theorem flat_one (M : List Rc) : ∀ u ∈ flat M, u.oneCell' = true := by
  intro u hu
  obtain ⟨r, _, hr⟩ := List.mem_flatMap.1 hu
  simp [rcs] at hr
  rcases hr with rfl | rfl | rfl | rfl | rfl <;> rfl
/-- 'append(l, m...)' of records. -/
theorem recs_lies (w : World) {ops : Array Oper} {rest : List Oper} {oo : Oper} {aa : Act} {Q : Exit → Act → World → Prop} (hgd : oo.guard = none) (s x : Operand)
    (ho : oo.op = .call { callee := .builtin .append, args := #[s, x], argTypes := #[22, 22] }) (base : Nat)
    (v : Value) (n : Nat) (L : List Rc) (hs : aa.eval s = v) (hown : w.ownsRow base 48 5 v n (flat L))
    (X m c base2 : Nat) (M : List Rc) (hx : aa.eval x = .slice (some ⟨X, 0, none⟩) m c) (hX : w.ownsRow base2 48 5 (.slice (some ⟨X, 0, none⟩) m c) m (flat M)) (hm : 0 < m)
    (hb : n + m ≤ 1048577) (hbase : base ≤ w.heap.size)
    (h : ∀ g cap w', w'.ownsRow base 48 5 (.slice (some ⟨g, 0, none⟩) (n + m) cap) (n + m) (flat (L ++ M)) → w.grownBy w' v.ownBlock → (v.ownBlock = some g ∨ g = w.heap.size) → wpList Tryd.prog ops Q rest (aa.put oo.dst (.slice (some ⟨g, 0, none⟩) (n + m) cap)) w') : wpList Tryd.prog ops Q (oo :: rest) aa w := by
  obtain ⟨i0, hi, hz0, hz1, hz2⟩ := info_parts Tryd.infoR
  refine wpList_append_lies w hgd s x 22 ho base 48 i0 _ 5 40 Tryd.underlying22 hi hz0 hz1 hz2 rfl (by decide) v n _ hs hown ⟨X, 0, none⟩ m c (flat M) hx hX.1 (hX.cells rfl) (flat_one M) hm (by unfold maxLen; omega) (by omega) hbase _ rfl ?_
  intro g cap w' h1 h2 h3 _
  exact h g cap w' (by rw [flat_append]; exact h1) h2 h3
theorem before_any (t k o a q t' k' o' a' q' : Int) (w : World) : Calls Tryd.prog 51 #[.agg #[.int .i64 t, .int .i64 k, .int .u64 o, .int .u64 a, .int .i64 q], .agg #[.int .i64 t', .int .i64 k', .int .u64 o', .int .u64 a', .int .i64 q']] w fun e w' => e = .returned (.bool (decide (t < t'))) ∧ Below w.heap.size w w' := by
  go_enter Tryd.func51, Tryd.ntmps51
  go_wp2
  go_ret
  exact ⟨rfl, below_alloc2 _ _ _⟩
structure RdI (w wr : World) (bs : List (List Int)) (k : Nat) (v : Value) (acc : List Rc) : Prop where
  own : wr.ownsRow w.heap.size 48 5 v acc.length (flat acc)
  bel : Below w.heap.size w wr
  rd : readV [] bs = readV acc (bs.drop k)
  str : strE 0 acc = 0
  ok : ∀ r ∈ acc, r.ok
theorem RdI.step {w wr w5 w4 : World} {bs : List (List Int)} {k : Nat} {v : Value} {acc part : List Rc} {z : List Int} {g c : Nat} (h : RdI w wr bs k v acc) (hz : bs[k]? = some z) (hp : chunkV z = (part, 0)) (hm : meets acc part = true) (hs : strE 0 part = 0) (hok : ∀ r ∈ part, r.ok)
    (hO : w5.ownsRow w.heap.size 48 5 v acc.length (flat acc)) (hB : Below w.heap.size w w5) (o4 : w4.ownsRow w.heap.size 48 5 (.slice (some ⟨g, 0, none⟩) (acc.length + part.length) c) (acc.length + part.length) (flat (acc ++ part))) (gr4 : w5.grownBy w4 v.ownBlock) :
    RdI w w4 bs (k + 1) (.slice (some ⟨g, 0, none⟩) (acc.length + part.length) c) (acc ++ part) := by
  refine ⟨by rw [List.length_append]; exact o4, hB.grown gr4 hB.size (fun j e => (hO.lt j e).1), ?_, meets_join h.str hs hm, ?_⟩
  · have e1 : (chunkV z).2 = 0 := by rw [hp]
    have e2 : (chunkV z).1 = part := by rw [hp]
    rw [h.rd, readV_on hz e1 (by rw [e2]; exact hm), e2]
  · intro r hr
    rcases List.mem_append.1 hr with e | e
    · exact h.ok r e
    · exact hok r e
set_option maxHeartbeats 3200000 in
set_option maxRecDepth 10000 in
theorem readall_any (a : Option Addr) (n c : Nat) (bs : List (List Int)) (w : World) (hK : Kn w) (hw : 0 < w.heap.size) (hr : LRow w a n bs) (hn : (n : Int) ≤ 9223372036854775000) :
    Calls Tryd.prog 43 #[.slice a n c] w fun e w' => Below w.heap.size w w' ∧ ((readV [] bs).2 ≠ 0 → e = .returned (.tuple #[.slice none 0 0, .int .i64 (readV [] bs).2])) ∧ ((readV [] bs).2 = 0 → ∃ v, e = .returned (.tuple #[v, .int .i64 0]) ∧ w'.ownsRow w.heap.size 48 5 v (readV [] bs).1.length (flat (readV [] bs).1)) := by
  have hl := hr.len
  have HR : Hid _ := hide hr
  clear hr
  have I0 : Hid (RdI w w bs 0 (.slice none 0 0) []) := hide ⟨World.ownsRow_nil _ _ _ _, Below.refl _ _, rfl, rfl, by simp⟩
  go_enter Tryd.func43, Tryd.ntmps43
  go_wp2_with fail
  go_loopw [4, 12] (fun s4 s12 wr => ∃ (k : Nat) (acc : List Rc), s12 = .int .i64 k ∧ k ≤ n ∧ RdI w wr bs k s4 acc)
    (fun _ s12 _ => n - (intOf s12).toNat)
  case atStart => exact ⟨0, [], rfl, Nat.zero_le _, I0.out⟩
  case round =>
    obtain ⟨k, acc, rfl, hk, hI⟩ := hrel
    clear I0
    have HI : Hid _ := hide hI
    have hsz := hI.bel.size
    obtain ⟨av, cv, e9⟩ := own_formR hI.own
    subst e9
    by_cases hlt : k < n
    · obtain ⟨b, off, z, ai, ci, rfl, hz, hcz, hrow, hn0, hzc, hzb⟩ := (HR.out.below hI.bel).at hlt
      have HC := chunk_any ai z.length ci z wr (hK.below hI.bel (by omega)) (by omega) hrow (by omega)
      have HU : Hid _ := hide hrow.u8
      have HZ : Hid _ := hide hz
      have HLA : Hid _ := hide (strE_len acc 0 (by decide) (by decide) hI.str)
      clear hz hrow hn0 hI hzc hzb
      by_cases he : (chunkV z).2 = 0
      · obtain ⟨part, hpart⟩ : ∃ part, chunkV z = (part, 0) := ⟨(chunkV z).1, Prod.ext rfl he⟩
        obtain ⟨-, -, hs2, hok2, hne2⟩ := chunk_inv HU.out hpart
        have HP : Hid _ := hide hpart
        have HE : Hid _ := hide he
        have HPL : Hid _ := hide (strE_len part 0 (by decide) (by decide) hs2)
        have hp0 : 0 < part.length := List.length_pos_iff.2 hne2
        have hp0I : (0 : Int) < (part.length : Int) := by omega
        have HS2 : Hid _ := hide hs2
        have HOK2 : Hid _ := hide hok2
        obtain ⟨⟨yt, yk, yo, ya, yq⟩, hy⟩ : ∃ y, part[0]? = some y := ⟨part[0], List.getElem?_eq_getElem hp0⟩
        have HY : Hid _ := hide hy
        clear he hpart hs2 hok2 hne2 hy
        go_wp2_with fail
        refine HC.mono ?_
        rintro e w2 ⟨hb2, _, hg⟩
        obtain ⟨v2, rfl, hO2⟩ := hg HE.out
        rw [HP.out] at hO2
        dsimp only at hO2
        obtain ⟨gp, cp, rfl, hgp, hgp2⟩ := own_rowR hO2 hp0
        have hO1 := own_below HI.out.own hb2
        have hbw2 : Below w.heap.size w w2 := HI.out.bel.trans (hb2.mono hsz)
        have hs2 := hb2.size
        obtain ⟨y0, y1, y2, y3, y4⟩ := own_rec hO2 HY.out
        have HO2 : Hid _ := hide hO2
        have HO1 : Hid _ := hide hO1
        have HB2 : Hid _ := hide hbw2
        dsimp only at y0 y1 y2 y3 y4
        clear HC hg hO2 hO1 hb2 hbw2
        by_cases hA : acc.length = 0
        · have hacc : acc = [] := List.length_eq_zero_iff.1 hA
          subst hacc
          have HM : Hid (meets [] part = true) := hide rfl
          clear hA
          go_upto_region 9 with fail
          go_quiet (fail)
          obtain ⟨w5, hw5⟩ : ∃ w5, w5 = w2.drewN nq := ⟨_, rfl⟩
          have hb5 : Below w2.heap.size w2 w5 := by rw [hw5]; exact below_drewN (Below.refl _ _) nq
          go_upto_region 11 with fail
          rw [← hw5]
          have hs5 := hb5.size
          have HOX : Hid _ := hide (own_below HO1.out hb5)
          have HOY : Hid _ := hide (own_below HO2.out hb5)
          have HB5 : Hid _ := hide (HB2.out.trans (hb5.mono (by omega)))
          have HN : Hid _ := hide (fun (w4 : World) (g4 c4 : Nat) o4 (gr4 : w5.grownBy w4 (Value.slice av ([] : List Rc).length cv).ownBlock) => HI.out.step (z := z) (part := part) (w4 := w4) (w5 := w5) (g := g4) (c := c4) HZ.out HP.out HM.out HS2.out HOK2.out HOX.out HB5.out o4 gr4)
          clear hw5 hb5
          go_wp2_with (at_builtin; refine recs_lies _ rfl _ _ rfl w.heap.size (.slice av 0 cv) 0 [] rfl HOX.out gp part.length cp wr.heap.size part rfl HOY.out hp0 (by have := HLA.out; have := HPL.out; omega) (by omega) ?_; intro g4 c4 w4 o4 gr4 l4; have O4 : Hid _ := hide o4; have G4 : Hid _ := hide gr4; clear o4 gr4 l4)
          have I5 := HN.out _ _ _ O4.out G4.out
          simp only [List.length_nil, Nat.zero_add, List.nil_append] at I5
          exact ⟨⟨k + 1, part, by go_num, by omega, I5⟩, by simp [intOf]; omega⟩
        · obtain ⟨⟨xt, xk, xo, xa, xq⟩, hx⟩ : ∃ x, acc[(acc.length - 1)]? = some x := ⟨acc[(acc.length - 1)]'(by omega), List.getElem?_eq_getElem _⟩
          obtain ⟨ga, ca, e9, _, hga⟩ := own_rowR HO1.out (by omega)
          cases e9
          have hlast : acc.getLast? = some ⟨xt, xk, xo, xa, xq⟩ := by rw [List.getLast?_eq_getElem?]; exact hx
          have hhead : part.head? = some ⟨yt, yk, yo, ya, yq⟩ := by rw [List.head?_eq_getElem?]; exact HY.out
          have HMV : Hid (meets acc part = decide (xt < yt)) := hide (by unfold meets; rw [hlast, hhead])
          have HKS : Hid (∀ X, Below w2.heap.size w2 X → X.cell? ⟨ga, (acc.length - 1) * 5, none⟩ = some (.int .i64 xt) ∧ X.cell? ⟨ga, (acc.length - 1) * 5 + 1, none⟩ = some (.int .i64 xk) ∧ X.cell? ⟨ga, (acc.length - 1) * 5 + 2, none⟩ = some (.int .u64 xo) ∧ X.cell? ⟨ga, (acc.length - 1) * 5 + 3, none⟩ = some (.int .u64 xa) ∧ X.cell? ⟨ga, (acc.length - 1) * 5 + 4, none⟩ = some (.int .i64 xq) ∧ X.cell? ⟨gp, 0, none⟩ = some (.int .i64 yt) ∧ X.cell? ⟨gp, 1, none⟩ = some (.int .i64 yk) ∧ X.cell? ⟨gp, 2, none⟩ = some (.int .u64 yo) ∧ X.cell? ⟨gp, 3, none⟩ = some (.int .u64 ya) ∧ X.cell? ⟨gp, 4, none⟩ = some (.int .i64 yq)) := hide (fun X hX => by
            obtain ⟨x0, x1, x2, x3, x4⟩ := own_rec (own_below HO1.out hX) hx
            obtain ⟨y0, y1, y2, y3, y4⟩ := own_rec (own_below HO2.out hX) HY.out
            rw [Nat.zero_mul] at y0
            rw [Nat.zero_mul, Nat.zero_add] at y1 y2 y3 y4
            exact ⟨x0, x1, x2, x3, x4, y0, y1, y2, y3, y4⟩)
          have hks := HKS.out w2 (Below.refl _ _)
          obtain ⟨x0, x1, x2, x3, x4, y0', y1', y2', y3', y4'⟩ := hks
          have HBF := before_any xt xk xo xa xq yt yk yo ya yq w2.drew
          have hi0 : (0 : Int) ≤ (acc.length : Int) - 1 := by omega
          have hi1 : (acc.length : Int) - 1 < (acc.length : Int) := by omega
          have hi2 : (0 : Int) < (acc.length : Int) := by omega
          have hi4 : 0 < acc.length := by omega
          have hi7 : (1 : Int) ≤ (acc.length : Int) := by omega
          have hi8 : 1 ≤ acc.length := by omega
          have hi9 : ¬ (acc.length : Int) - 1 < 0 := by omega
          have hi10 : ¬ (acc.length : Int) < 1 := by omega
          have hi5 : decide ((0 : Int) < (acc.length : Int)) = true := decide_eq_true hi2
          have hi3 : (acc.length : Int) ≤ 1048576 := by have := HLA.out; omega
          have hwr : IntKind.i64.wrap ((acc.length : Int) - 1) = (acc.length : Int) - 1 := by rw [IntKind.wrap_i64]; omega
          clear hlast hhead hx hA y0 y1 y2 y3 y4
          by_cases hxy : xt < yt
          · have HM : Hid (meets acc part = true) := hide (by rw [HMV.out]; exact decide_eq_true hxy)
            have HLJ : Hid _ := hide (strE_len (acc ++ part) 0 (by decide) (by decide) (meets_join HI.out.str HS2.out HM.out))
            rw [decide_eq_true hxy] at HBF
            clear hxy
            go_upto_region 9 with fail
            go_region_held3 (fun X => X.cell? ⟨ga, (acc.length - 1) * 5, none⟩ = some (.int .i64 xt) ∧ X.cell? ⟨ga, (acc.length - 1) * 5 + 1, none⟩ = some (.int .i64 xk) ∧ X.cell? ⟨ga, (acc.length - 1) * 5 + 2, none⟩ = some (.int .u64 xo) ∧ X.cell? ⟨ga, (acc.length - 1) * 5 + 3, none⟩ = some (.int .u64 xa) ∧ X.cell? ⟨ga, (acc.length - 1) * 5 + 4, none⟩ = some (.int .i64 xq) ∧ X.cell? ⟨gp, 0, none⟩ = some (.int .i64 yt) ∧ X.cell? ⟨gp, 1, none⟩ = some (.int .i64 yk) ∧ X.cell? ⟨gp, 2, none⟩ = some (.int .u64 yo) ∧ X.cell? ⟨gp, 3, none⟩ = some (.int .u64 ya) ∧ X.cell? ⟨gp, 4, none⟩ = some (.int .i64 yq)) (first | exact HKS.out _ ((Below.refl _ w2).drew) | exact HKS.out _ B6) (first
              | (go_at_call 51; refine HBF.mono ?_; rintro e w6 ⟨rfl, hb6⟩; have B6 : Below w2.heap.size w2 w6 := (Below.refl _ w2).drew.trans (hb6.mono (by simp))))
            have hs6 := B6.size
            have HOX : Hid _ := hide (own_below HO1.out B6)
            have HOY : Hid _ := hide (own_below HO2.out B6)
            have HB5 : Hid _ := hide (HB2.out.trans (B6.mono (by omega)))
            have HN : Hid _ := hide (fun (w4 : World) (g4 c4 : Nat) o4 (gr4 : w6.grownBy w4 (Value.slice (some ⟨ga, 0, none⟩) acc.length cv).ownBlock) => HI.out.step (z := z) (part := part) (w4 := w4) (w5 := w6) (g := g4) (c := c4) HZ.out HP.out HM.out HS2.out HOK2.out HOX.out HB5.out o4 gr4)
            clear HKS x0 x1 x2 x3 x4 y0' y1' y2' y3' y4' HBF hb6
            go_wp2_with (at_builtin; refine recs_lies _ rfl _ _ rfl w.heap.size (.slice (some ⟨ga, 0, none⟩) acc.length cv) acc.length acc rfl HOX.out gp part.length cp wr.heap.size part rfl HOY.out hp0 (by have h9 := HLJ.out; rw [List.length_append] at h9; omega) (by omega) ?_; intro g4 c4 w4 o4 gr4 l4; have O4 : Hid _ := hide o4; have G4 : Hid _ := hide gr4; clear o4 gr4 l4)
            exact ⟨⟨k + 1, acc ++ part, by go_num, by omega, HN.out _ _ _ O4.out G4.out⟩, by simp [intOf]; omega⟩
          · have HCH : Hid (readV [] bs = ([], 80)) := hide (HI.out.rd.trans (readV_low HZ.out HE.out (by rw [HP.out]; exact HMV.out.trans (decide_eq_false hxy))))
            rw [decide_eq_false hxy] at HBF
            clear hxy
            go_upto_region 9 with fail
            go_region_held3 (fun X => X.cell? ⟨ga, (acc.length - 1) * 5, none⟩ = some (.int .i64 xt) ∧ X.cell? ⟨ga, (acc.length - 1) * 5 + 1, none⟩ = some (.int .i64 xk) ∧ X.cell? ⟨ga, (acc.length - 1) * 5 + 2, none⟩ = some (.int .u64 xo) ∧ X.cell? ⟨ga, (acc.length - 1) * 5 + 3, none⟩ = some (.int .u64 xa) ∧ X.cell? ⟨ga, (acc.length - 1) * 5 + 4, none⟩ = some (.int .i64 xq) ∧ X.cell? ⟨gp, 0, none⟩ = some (.int .i64 yt) ∧ X.cell? ⟨gp, 1, none⟩ = some (.int .i64 yk) ∧ X.cell? ⟨gp, 2, none⟩ = some (.int .u64 yo) ∧ X.cell? ⟨gp, 3, none⟩ = some (.int .u64 ya) ∧ X.cell? ⟨gp, 4, none⟩ = some (.int .i64 yq)) (first | exact HKS.out _ ((Below.refl _ w2).drew) | exact HKS.out _ B6) (first
              | (go_at_call 51; refine HBF.mono ?_; rintro e w6 ⟨rfl, hb6⟩; have B6 : Below w2.heap.size w2 w6 := (Below.refl _ w2).drew.trans (hb6.mono (by simp))))
            have HB5 : Hid _ := hide (HB2.out.trans (B6.mono (by omega)))
            clear HKS x0 x1 x2 x3 x4 y0' y1' y2' y3' y4' HBF hb6
            go_wp2
            go_ret2
            rw [HCH.out]
            exact ⟨HB5.out, fun _ => rfl, fun e => absurd e (by decide)⟩
      · have HCH : Hid (readV [] bs = ([], (chunkV z).2)) := hide (HI.out.rd.trans (readV_bad HZ.out he))
        generalize (chunkV z).2 = E at HC HCH he
        go_wp2_with fail
        refine HC.mono ?_
        rintro e w2 ⟨hb2, hbad, _⟩
        obtain rfl := hbad he
        have HB2 : Hid _ := hide (HI.out.bel.trans (hb2.mono hsz))
        clear hb2 hbad HC
        go_wp2
        go_ret2
        rw [HCH.out]
        exact ⟨HB2.out, fun _ => rfl, fun e => absurd e he⟩
    · have hd : bs.drop k = [] := List.drop_eq_nil_of_le (by omega)
      have HCH : Hid (readV [] bs = (acc, 0)) := hide (by rw [HI.out.rd, hd]; rfl)
      clear hI hd
      go_wp2
      go_ret2
      rw [HCH.out]
      exact ⟨HI.out.bel, fun e => absurd rfl e, fun _ => ⟨_, rfl, HI.out.own⟩⟩
end Go.Proofs.YtdppbaipmmcjbaaDoor
