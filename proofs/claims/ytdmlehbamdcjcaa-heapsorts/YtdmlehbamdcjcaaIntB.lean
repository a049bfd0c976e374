/-
  Numbers collected from a list, and sorted.
-/
import Derived.Test.YtdmlehbamdcjcaaIntA
namespace Go.Proofs.Ytdmlehbamdcjcaa
open Go.RowKit Go.Maps Go.Shelf
attribute [local go_sem] Oper.semAt_some
/-- While numbers are collected: the box's list. -/
structure Col (w : World) (B : Nat) (L : List Int) (k : Nat) (W : World) : Prop where
  own : ∃ v, W.heap[w.heap.size]? = some (.cells #[v] 31 (0, 0)) ∧ Own layN 3 W (B + 2) v (L.take k)
  bel : Below w.heap.size w W
theorem Col.put {w : World} {B : Nat} {L : List Int} {k : Nat} {W : World} {o' : Obj} {b : Nat} (h : Col w B L k W) (h1 : w.heap.size < B) (hb : B ≤ b) (hb2 : b < B + 2) : Col w B L k (W.putObj b o') := by
  obtain ⟨v, hv, ho⟩ := h.own
  have hB := but_put W b o'
  refine ⟨⟨v, (hB.block _ (Array.getElem?_eq_some_iff.1 hv).1 (by omega)).trans hv, ho.but hB (fun g hg e => ?_)⟩, h.bel.trans (hB.below h.bel.size (fun k hk => by have e : k = b := hk; omega))⟩
  have e9 : g = b := e
  have := (ho.lt g hg).1
  omega
theorem Col.below {w : World} {B : Nat} {L : List Int} {k : Nat} {W W' : World} (h : Col w B L k W) (hb : Below W.heap.size W W') : Col w B L k W' := by
  obtain ⟨v, hv, ho⟩ := h.own
  exact ⟨⟨v, (hb.block _ (Array.getElem?_eq_some_iff.1 hv).1).trans hv, ho.below hb⟩, h.bel.trans (hb.mono h.bel.size)⟩
set_option maxRecDepth 100000 in
set_option maxHeartbeats 4000000 in
theorem appseq (w : World) (Bs : Nat) (a : Option Addr) (len cap : Nat) (L : List Int) (hc : w.cell? ⟨Bs, 0, none⟩ = some (.slice a len cap)) (hr : TRow layN w a len L) (hl : (len : Int) ≤ 17592186044416) :
    Calls Try.prog 74 #[.slice none 0 0, .func (.func 69) #[] #[.pointer (some ⟨Bs, 0, none⟩)]] w fun e w' => ∃ v, e = .returned v ∧ Own layN 3 w' w.heap.size v L ∧ Below w.heap.size w w' := by
  obtain ⟨i0, hi, hz0, hz1, hz2⟩ := info_parts Try.info3
  obtain ⟨w1, hw1⟩ : ∃ w1, w1 = w.alloc (.cells #[.slice none 0 0] 31) := ⟨_, rfl⟩
  have b1 : Below w.heap.size w w1 := by rw [hw1]; exact below_alloc1 _ _
  have s1 : w.heap.size < w1.heap.size := by rw [hw1]; simp
  have r1 : w1.heap[w.heap.size]? = some (.cells #[.slice none 0 0] 31 (0, 0)) := by rw [hw1]; exact heap_new _ _
  have HW1 : Hid _ := hide hw1
  have HB1 : Hid _ := hide b1
  have HR1 : Hid _ := hide r1
  have HC : Hid _ := hide hc
  have HR : Hid _ := hide hr
  have HLN : Hid _ := hide hr.len
  have hBs : Bs < w.heap.size := World.block_lt_of_cell? w _ hc
  clear hw1 b1 r1 hc hr
  refine (callsIn_wide (n := 3)).1 ?_
  refine callsIn_of_wp_marks Try.func74 rfl trivial ?_ rfl
  simp only [Try.ntmps74, List.size_toArray, List.length_cons, List.length_nil, Nat.reduceAdd, Nat.reduceSub, Array.replicate_succ, Array.replicate_zero, List.push_toArray, List.append_toArray, List.nil_append, List.cons_append]
  gi_wp2_with fail
  rw [← HW1.out]
  refine range_rounds (n := 3) (by omega) (gf := 69) (lb := #[.pointer (some ⟨Bs, 0, none⟩)]) rfl (enters_of Try.func69 (by kernel_rfl) rfl)
    (fun k => #[.int .i64 (L.getD k 0)]) len (fun _ => rfl) (fun k W => Col w w1.heap.size L k W) ?hI ?h0 ?hseq
    (fun k => { tmps := #[Value.slice none 0 0, Value.func (Fn.func 69) #[] #[Value.pointer (some ⟨Bs, 0, none⟩)], Value.pointer (some ⟨w.heap.size, 0, none⟩), undef, Value.slice none 0 0, .int .i64 (L.getD k 0),
      Value.func (Fn.func 69) #[] #[Value.pointer (some ⟨Bs, 0, none⟩)], .int .i64 (L.getD k 0), undef, undef, undef, undef, undef], defers := [] }) ?assign ?body ?done
  case hI =>
    intro k W o o' h _
    exact h.put s1 (by omega) (by omega)
  case h0 =>
    intro o
    have h9 : Col w w1.heap.size L 0 w1 := ⟨⟨_, HR1.out, by rw [List.take_zero]; exact Own.nil _ _ _ _⟩, HB1.out⟩
    exact h9.below (below_alloc2 _ _ _)
  case hseq =>
    intro l J W hJI hY h0
    refine vals1_in 2 (by omega) l Bs len cap a L (by omega) J ?_ hY W h0
    intro k W1 hj
    have h := hJI k W1 hj
    exact ⟨(h.bel.cell (p := ⟨Bs, 0, none⟩) hBs).trans HC.out, HR.out.below h.bel⟩
  case assign =>
    intro l k W K hK
    gi_wp2
    exact hK
  case body =>
    intro l k W hk h hlt
    obtain ⟨v, hv, ho⟩ := h.own
    obtain ⟨x, hx⟩ : ∃ x, L[k]? = some x := ⟨_, List.getElem?_eq_getElem (by rw [HLN.out]; exact hk)⟩
    have hgd : L.getD k 0 = x := by rw [List.getD_eq_getElem?_getD, hx]; rfl
    have hkl : (L.take k).length = k := by rw [List.length_take, HLN.out]; omega
    have c0 : W.cell? ⟨w.heap.size, 0, none⟩ = some v := cell_at hv rfl
    have hws : w.heap.size < W.heap.size := (Array.getElem?_eq_some_iff.1 hv).1
    have hvl : ∀ q, v.ownBlock = some q → w1.heap.size + 2 ≤ q ∧ q < W.heap.size := fun q hq => ho.lt q hq
    have HV : Hid _ := hide hv
    have HO : Hid _ := hide ho
    have HH : Hid _ := hide h
    have HX : Hid _ := hide hx
    have HKL : Hid _ := hide hkl
    have HVL : Hid _ := hide hvl
    obtain ⟨av, cv, hvv, _, _⟩ := own_form ho
    rw [hkl] at hvv
    subst hvv
    have HOk : Hid (W.ownsRow (w1.heap.size + 2) 3 1 (.slice av k cv) k (layN.fl (L.take k))) := hide (by have h9 := ho; unfold Own at h9; rw [hkl] at h9; exact h9)
    rw [hgd]
    clear hv ho h hx hgd hkl hvl
    have fz := frz HV.out 0
    gi_wp2_with (gi_at_builtin; refine wpListIn_append_own _ rfl (.tmp 8) (.tmp 10) 31 rfl (w1.heap.size + 2) 3 i0 (.int .i64 0) 1 8 Try.underlying31 hi hz0 hz1 hz2 rfl (by decide) _ _ _ rfl (World.ownsRow.alloc HOk.out _) ⟨W.heap.size, 0, none⟩ 1 1 [.int .i64 x] rfl rfl (by intro t u ht; match t, ht with | 0, ht => simp at ht; subst ht; exact cell_at (heap_new _ _) rfl) (by intro u hu; simp at hu; subst hu; rfl) (by unfold maxLen; omega) (by omega) (by simp; omega) ?_; intro v2 w2 hown2 hgr2 _; obtain ⟨a2, c2, hv2, _, _⟩ := own_form hown2; subst hv2; have hv3 := (hgr2.block w.heap.size (by simp; omega) (fun e9 => by have := (HVL.out _ e9.symm).1; omega)).trans ((Below.heap_alloc W _ _ hws).trans HV.out); have d0 : w2.cell? ⟨w.heap.size, 0, none⟩ = some (.slice av k cv) := cell_at hv3 rfl; have fz2 := frz hv3 0)
    have hs2 : W.heap.size < w2.heap.size := by have := hgr2.size; simp at this; omega
    have B3 : But (fun b => b = w.heap.size) w2 (w2.setCell ⟨w.heap.size, 0, none⟩ (.slice a2 (k + 1) c2)) := (But.refl (fun b => b = w.heap.size) w2).setCell ⟨w.heap.size, 0, none⟩ (fun _ => rfl) _
    have B2 : But (fun b => (Value.slice av k cv).ownBlock = some b) W w2 := ((But.refl (fun b => (Value.slice av k cv).ownBlock = some b) W).alloc _).grown hgr2 (fun _ _ e => e)
    have O3 : Own layN 3 w2 (w1.heap.size + 2) (.slice a2 (k + 1) c2) (L.take (k + 1)) := by
      have hlk : k < L.length := by rw [HLN.out]; exact hk
      have e9 : L.take (k + 1) = L.take k ++ [x] := by
        rw [List.take_succ_eq_append_getElem hlk]
        have h8 := HX.out
        rw [List.getElem?_eq_getElem hlk] at h8
        rw [Option.some.inj h8]
      unfold Own
      rw [e9, List.length_append, HKL.out, layN.fl_app, layN.fl_one]
      exact hown2
    refine ⟨⟨⟨_, set1_heap _ hv3, O3.but B3 (fun g hg e => ?_)⟩, ?_⟩, ?_, ?_⟩
    · have h9 := (O3.lt g hg).1
      have e9 : g = w.heap.size := e
      omega
    · exact (HH.out.bel.trans (B2.below (by omega) (fun b hb => by have := (HVL.out b hb).1; omega))).trans (B3.below (by omega) (fun b hb => by have e9 : b = w.heap.size := hb; omega))
    · have h9 := (B3.block w1.heap.size (by omega) (by omega)).trans (B2.block w1.heap.size (by omega) (fun e => by have := (HVL.out _ e).1; omega))
      first
        | exact h9
        | exact h9.trans (Array.getElem?_eq_getElem (by omega))
    · have h9 := (B3.block (w1.heap.size + 1) (by omega) (by omega)).trans (B2.block (w1.heap.size + 1) hlt (fun e => by have := (HVL.out _ e).1; omega))
      first
        | exact h9
        | exact h9.trans (Array.getElem?_eq_getElem hlt)
  case done =>
    intro W h hK
    obtain ⟨v, hv, ho⟩ := h.own
    have c0 : W.cell? ⟨w.heap.size, 0, none⟩ = some v := cell_at hv rfl
    have HH : Hid _ := hide h
    have HKK : Hid _ := hide hK
    have HO : Hid _ := hide ho
    clear h hK hv ho
    gi_wp2
    refine ⟨by simp, .inl ⟨_, _, rfl, run_takeDeferred HKK.out, ?_⟩⟩
    have hp := HH.out.put (o' := .deferred none) (b := w1.heap.size) s1 (Nat.le_refl _) (by omega)
    refine ⟨_, results_tmp rfl _ _ _, v, rfl, ?_, hp.bel⟩
    have h9 := HO.out.but (but_put W w1.heap.size (.deferred none)) (fun g hg e => by have h8 := (HO.out.lt g hg).1; have e9 : g = w1.heap.size := e; omega)
    rw [List.take_of_length_le (by rw [HLN.out]; exact Nat.le_refl _)] at h9
    exact h9.mono (by omega)
/-- Numbers in their order. -/
def inOrder (zs : List Int) : List Int := zs.mergeSort fun x y => decide (x ≤ y)
theorem inOrder_perm (zs : List Int) : (inOrder zs).Perm zs := List.mergeSort_perm _ _
theorem inOrder_length (zs : List Int) : (inOrder zs).length = zs.length := List.length_mergeSort _
theorem inOrder_srt (zs : List Int) : (inOrder zs).Pairwise fun x y => x ≤ y := by
  have hp : (inOrder zs).Pairwise fun x y => decide (x ≤ y) = true := List.pairwise_mergeSort (fun a b c h1 h2 => by simp at h1 h2 ⊢; omega) (fun a b => by simp; omega) zs
  exact hp.imp (fun h => by simpa using h)
theorem fl_ints (L : List Int) : layN.fl L = L.map (Value.int .i64) := by
  induction L with
  | nil => rfl
  | cons x l ih => rw [layN.fl_cons, ih]; rfl
theorem cell_of_holds {w : World} {g : Nat} {S : List Int} (h : Go.Sort.Holds (Value.int .i64) w g 0 S.toArray) (j : Nat) (x : Int) (hx : S[j]? = some x) : w.cell? ⟨g, j, none⟩ = some (.int .i64 x) := by
  have hj := get_lt hx
  have h1 := (h j (by simpa using hj)).1
  rw [Nat.zero_add] at h1
  rw [h1, getElem!_pos _ j (by simpa using hj)]
  rw [List.getElem?_eq_getElem hj] at hx
  simp [Option.some.inj hx]
/-- Numbers of the call's own, sorted in place. -/
theorem sort_own (g cap : Nat) (L : List Int) (w w1 : World) (hown : Own layN 3 w1 w.heap.size (.slice (some ⟨g, 0, none⟩) L.length cap) L) (hb : Below w.heap.size w w1) (hn : L.length < 4611686018427387904) :
    Calls Try.prog 68 #[.slice (some ⟨g, 0, none⟩) L.length cap] w1 fun e w' => e = .returned (.tuple #[]) ∧ TRow layN w' (some ⟨g, 0, none⟩) L.length (inOrder L) ∧ Below w.heap.size w w' := by
  unfold Own at hown
  rw [fl_ints] at hown
  obtain ⟨g', cap', hv, hbg, hgl, hncap, hcm, hlen, hH⟩ := Lib.holds_of_ownsRow hown (by intro h; cases h)
  cases hv
  refine (Any.slices_Sort_int sortLays g 0 cap L w1 hH hgl hn).mono ?_
  rintro e w2 ⟨rfl, nn, os, rfl⟩
  refine ⟨rfl, ⟨inOrder_length L, ?_⟩, hb.grown (Go.grownBy_sortedI _) hb.size (fun j hj => by cases hj; exact hbg)⟩
  refine .inr ⟨g, 0, rfl, fun i x hx t u hu => ?_⟩
  have ht : t = 0 := by have := get_lt hu; simpa [layN] using this
  subst ht
  simp [layN] at hu
  subst hu
  rw [show 0 + i * layN.z + 0 = i by simp [layN]]
  refine cell_of_holds ?_ i x hx
  exact Go.Sort.holds_grow _ _ os g 0 _ (by simpa [Go.Sort.putRow, Go.Sort.mapBlock, Go.Sort.ahead] using hgl) (Go.Sort.holds_putRow _ _ g 0 _ _ (Go.Sort.holds_ahead _ w1 nn g 0 _ hH) (by simp))
theorem collect (w : World) (Bs : Nat) (a : Option Addr) (len cap : Nat) (L : List Int) (hc : w.cell? ⟨Bs, 0, none⟩ = some (.slice a len cap)) (hr : TRow layN w a len L) (hl : (len : Int) ≤ 17592186044416) :
    Calls Try.prog 67 #[.func (.func 69) #[] #[.pointer (some ⟨Bs, 0, none⟩)]] w fun e w' => ∃ v, e = .returned v ∧ Own layN 3 w' w.heap.size v L ∧ Below w.heap.size w w' := by
  have AP := appseq w Bs a len cap L hc hr hl
  clear hc hr
  go_enter Try.func67, Try.ntmps67
  go_wp2_with fail
  refine AP.mono ?_
  rintro e w' ⟨v, rfl, ho, hb⟩
  go_wp2
  go_ret
  exact ⟨v, rfl, ho, hb⟩
theorem sorted_ints (w : World) (Bs : Nat) (a : Option Addr) (len cap : Nat) (L : List Int) (hc : w.cell? ⟨Bs, 0, none⟩ = some (.slice a len cap)) (hr : TRow layN w a len L) (hl : (len : Int) ≤ 17592186044416) :
    Calls Try.prog 51 #[.func (.func 69) #[] #[.pointer (some ⟨Bs, 0, none⟩)]] w fun e w' => ∃ a' c', e = .returned (.slice a' len c') ∧ TRow layN w' a' len (inOrder L) ∧ Below w.heap.size w w' := by
  have CO := collect w Bs a len cap L hc hr hl
  have hln := hr.len
  clear hc hr
  go_enter Try.func51, Try.ntmps51
  go_wp2_with fail
  refine CO.mono ?_
  rintro e w1 ⟨v, rfl, ho, hb⟩
  subst hln
  rcases ho.2 with ⟨rfl, h0⟩ | ⟨g, c', cur, rfl, _⟩
  · have HB : Hid _ := hide hb
    have hL : L = [] := List.eq_nil_of_length_eq_zero h0
    clear CO ho hb h0 hl
    subst hL
    go_wp2_with fail
    refine (Any.slices_Sort_int_none sortLays none 0 _).mono ?_
    rintro e w2 ⟨rfl, rfl⟩
    go_wp2
    go_ret
    exact ⟨none, 0, rfl, ⟨inOrder_length [], .inl rfl⟩, HB.out⟩
  · have SO := sort_own g c' L w w1 ho hb (by omega)
    clear CO ho hb
    go_wp2_with fail
    refine SO.mono ?_
    rintro e w2 ⟨rfl, hr2, hb2⟩
    go_wp2
    go_ret
    exact ⟨_, _, rfl, hr2, hb2⟩
/-- Ints: the numbers in their order. -/
theorem ints_any (w : World) (a : Option Addr) (len cap : Nat) (L : List Int) (hr : TRow layN w a len L) (hl : (len : Int) ≤ 17592186044416) :
    Calls Try.prog 30 #[.slice a len cap] w fun e w' => ∃ a' c', e = .returned (.slice a' len c') ∧ TRow layN w' a' len (inOrder L) ∧ Below w.heap.size w w' := by
  have VA := callsIn_wide.1 (values_in 1 a len cap w)
  have HR : Hid _ := hide hr
  clear hr
  go_enter Try.func30, Try.ntmps30
  go_wp2_with fail
  refine VA.mono ?_
  rintro e w1 ⟨rfl, hw1⟩
  have b1 : Below w.heap.size w w1 := by rw [hw1]; exact below_alloc1 _ _
  have c1 : w1.cell? ⟨w.heap.size, 0, none⟩ = some (.slice a len cap) := by rw [hw1]; exact cell_at (heap_new _ _) rfl
  have SO := sorted_ints w1 w.heap.size a len cap L c1 (HR.out.below b1) hl
  have HB : Hid _ := hide b1
  clear VA hw1 b1 c1
  go_wp2_with fail
  refine SO.mono ?_
  rintro e w2 ⟨a', c', rfl, hr2, b2⟩
  have HB2 : Hid _ := hide (Below.on HB.out b2)
  have HR2 : Hid _ := hide hr2
  clear SO hr2 b2
  go_wp2
  go_ret
  exact ⟨a', c', rfl, HR2.out, HB2.out⟩
end Go.Proofs.Ytdmlehbamdcjcaa
