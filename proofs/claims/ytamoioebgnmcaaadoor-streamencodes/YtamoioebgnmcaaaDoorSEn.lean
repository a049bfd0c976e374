/-
  StreamEncodes: the law's own calls, the walk.
-/
import Derived.Test.YtamoioebgnmcaaaDoorSRfE
import Derived.Test.YtamoioebgnmcaaaDoorSDec
import Derived.Test.YtamoioebgnmcaaaDoorSLaw
import Derived.Test.YtamoioebgnmcaaaDoorSl
import Derived.Laws.AppendOwnNone
namespace Go.Proofs.YtamoioebgnmcaaaDoor
open Go.RowKit
theorem add_at8 (b off i : Nat) : (⟨b, off, none⟩ : Addr).add i = ⟨b, off + i, none⟩ := by unfold Addr.add; split <;> simp_all
theorem RRow.news {w : World} {ad : Addr} {n : Nat} {L : List Rc} (h : RRow w (some ad) n L) : ∀ j u, (flat L)[j]? = some u → w.cell? (ad.add j) = some u := by
  intro j u hj
  have hlt := (List.getElem?_eq_some_iff.1 hj).1
  rw [flat_len] at hlt
  have hi : j / 5 < L.length := by omega
  have hm : j % 5 < 5 := Nat.mod_lt _ (by decide)
  have hd : j = j / 5 * 5 + j % 5 := by omega
  have hg : L[j / 5]? = some L[j / 5] := List.getElem?_eq_getElem hi
  rcases h.cells with h0 | ⟨b, off, ha, hc⟩
  · have := h.len; omega
  · cases ha
    rw [hd, flat_get hg hm] at hj
    obtain ⟨x0, x1, x2, x3, x4⟩ := hc _ _ hg
    have e : (⟨b, off, none⟩ : Addr).add j = ⟨b, off + j / 5 * 5 + j % 5, none⟩ := by
      have e2 : off + j / 5 * 5 + j % 5 = off + j := by omega
      rw [e2]
      exact add_at8 b off j
    rw [e]
    have h5 : j % 5 = 0 ∨ j % 5 = 1 ∨ j % 5 = 2 ∨ j % 5 = 3 ∨ j % 5 = 4 := by omega
    rcases h5 with e5 | e5 | e5 | e5 | e5
    all_goals (rw [e5] at hj ⊢; first | (rw [← Option.some.inj hj]; exact x0) | (rw [← Option.some.inj hj]; exact x1) | (rw [← Option.some.inj hj]; exact x2) | (rw [← Option.some.inj hj]; exact x3) | (rw [← Option.some.inj hj]; exact x4))
/-- 'append(l, m...)', m records that came in. -/
theorem recs_in (w : World) {ops : Array Oper} {rest : List Oper} {oo : Oper} {aa : Act} {Q : Exit → Act → World → Prop} (hgd : oo.guard = none) (s x : Operand)
    (ho : oo.op = .call { callee := .builtin .append, args := #[s, x], argTypes := #[22, 22] }) (base : Nat)
    (v : Value) (n : Nat) (L : List Rc) (hs : aa.eval s = v) (hown : w.ownsRow base 52 5 v n (flat L))
    (ra : Option Addr) (m c : Nat) (M : List Rc) (hx : aa.eval x = .slice ra m c) (hr : RRow w ra m M) (h0 : ra = none → m = 0 ∧ c = 0)
    (hb : (n + m) * 40 ≤ 140737488355328) (hbase : base ≤ w.heap.size)
    (h : ∀ v' w', w'.ownsRow base 52 5 v' (n + m) (flat (L ++ M)) → w.grownBy w' v.ownBlock → wpList Tryd.prog ops Q rest (aa.put oo.dst v') w') : wpList Tryd.prog ops Q (oo :: rest) aa w := by
  obtain ⟨i0, hi, hz0, hz1, hz2⟩ := info_parts Tryd.infoR
  cases ra with
  | none =>
    obtain ⟨rfl, rfl⟩ := h0 rfl
    have e1 := List.length_eq_zero_iff.1 hr.len
    subst e1
    exact wpList_append_own_none hgd s x 22 ho base 52 i0 5 Tryd.underlying22 hi v n _ hs hown hx (h v w (by simpa using hown) (World.grownBy.refl w _))
  | some ad =>
    refine wpList_append_own_at w hgd s x 22 ho base 52 i0 _ 5 40 Tryd.underlying22 hi hz0 hz1 hz2 rfl (by decide) v n _ hs hown ad m c (flat M) hx (by rw [flat_len, hr.len]) hr.news (flat_one M) (by unfold maxLen; omega) (by omega) hbase ?_
    intro v' w' h1 h2 _ _
    exact h v' w' (by rw [flat_append]; exact h1) h2
/-- 'append(l, r)', one record more. -/
theorem rec_more (w : World) {ops : Array Oper} {rest : List Oper} {oo : Oper} {aa : Act} {Q : Exit → Act → World → Prop} (hgd : oo.guard = none) (s x : Operand)
    (ho : oo.op = .call { callee := .builtin .append, args := #[s, x], argTypes := #[22, 22] }) (base : Nat)
    (v : Value) (n : Nat) (L : List Rc) (hs : aa.eval s = v) (hown : w.ownsRow base 52 5 v n (flat L))
    (X : Nat) (r : Rc) (hx : aa.eval x = .slice (some ⟨X, 0, none⟩) 1 1) (hX : w.heap[X]? = some (.cells #[.int .i64 r.stamp, .int .i64 r.kind, .int .u64 r.obj, .int .u64 r.arg, .int .i64 r.stack] 52 (0, 0)))
    (hb : (n + 1) * 40 ≤ 140737488355328) (hbase : base ≤ w.heap.size)
    (h : ∀ g cap w', w'.ownsRow base 52 5 (.slice (some ⟨g, 0, none⟩) (n + 1) cap) (n + 1) (flat (L ++ [r])) → w.grownBy w' v.ownBlock → wpList Tryd.prog ops Q rest (aa.put oo.dst (.slice (some ⟨g, 0, none⟩) (n + 1) cap)) w') : wpList Tryd.prog ops Q (oo :: rest) aa w := by
  obtain ⟨i0, hi, hz0, hz1, hz2⟩ := info_parts Tryd.infoR
  refine wpList_append_lies w hgd s x 22 ho base 52 i0 _ 5 40 Tryd.underlying22 hi hz0 hz1 hz2 rfl (by decide) v n _ hs hown ⟨X, 0, none⟩ 1 1 (rcs r) hx rfl (World.news_of_block hX) (by intro u hu; simp [rcs] at hu; rcases hu with rfl | rfl | rfl | rfl | rfl <;> rfl) (by decide) (by unfold maxLen; omega) (by omega) hbase _ rfl ?_
  intro g cap w' h1 h2 _ _
  exact h g cap w' (by rw [flat_snoc]; exact h1) h2
def wmark (i : Nat) : Rc := ⟨-9 - (i : Int), 0, 0, 0, 0⟩
def wmarks (n : Nat) : List Rc := (List.range n).map wmark
theorem wmarks_snoc (n : Nat) : wmarks (n + 1) = wmarks n ++ [wmark n] := by unfold wmarks; rw [List.range_succ, List.map_append]; rfl
theorem wmarks_len (n : Nat) : (wmarks n).length = n := by simp [wmarks]
theorem wmarks_get {n k : Nat} (hk : k < n) : (wmarks n)[k]? = some (wmark k) := by simp [wmarks, hk]
set_option maxHeartbeats 1600000 in
set_option maxRecDepth 8000 in
theorem roomy_any (a : Option Addr) (n c : Nat) (L : List Rc) (w : World) (hr : RRow w a n L) (h0 : a = none → n = 0 ∧ c = 0) (hn : n * 40 ≤ 140737488351232) :
    Calls Tryd.prog 9 #[.slice a n c] w fun e w' => ∃ g cap, e = .returned (.slice (some ⟨g, 0, none⟩) n cap) ∧ n + 70 ≤ cap ∧ w'.ownsRow w.heap.size 52 5 (.slice (some ⟨g, 0, none⟩) (n + 70) cap) (n + 70) (flat (L ++ wmarks 70)) ∧ Below w.heap.size w w' := by
  have HR : Hid _ := hide hr
  have H0 : Hid _ := hide h0
  have hnI : (n : Int) ≤ 3600000000000 := by omega
  clear hr h0
  go_enter Tryd.func9, Tryd.ntmps9
  go_upto_region 3 with (at_builtin; refine recs_in _ rfl (.tmp 5) (.tmp 6) rfl w.heap.size (.slice none 0 0) 0 [] rfl (World.ownsRow_nil _ _ _ _) _ _ _ L rfl HR.out H0.out (by omega) (Nat.le_refl _) ?_; intro v1 w1 o1 g1)
  obtain ⟨a1, c1, hv1⟩ := own_formR o1
  rw [Nat.zero_add] at hv1 o1
  subst hv1
  have HO1 : Hid (w1.ownsRow w.heap.size 52 5 (.slice a1 n c1) n (flat (L ++ wmarks 0))) := hide (by simpa [wmarks] using o1)
  have HB1 : Hid (Below w.heap.size w w1) := hide ((But.of_grown (S := fun _ => False) g1 (fun k e => by simp [Value.ownBlock] at e)).below (Nat.le_refl _) (fun k h => h.elim))
  clear o1 g1
  go_wp2_with fail
  go_loopw [3, 4] (fun tv iv wr => ∃ (k T : Nat) (ta : Option Addr) (tc : Nat), tv = .slice ta T tc ∧ iv = .int .i64 (k : Int) ∧ k ≤ 70 ∧ Hid (T = n + k) ∧ Hid (wr.ownsRow w.heap.size 52 5 (.slice ta T tc) T (flat (L ++ wmarks k))) ∧ Hid (Below w.heap.size w wr)) (fun _ iv _ => 70 - (intOf iv).toNat)
  case atStart => exact ⟨0, n, a1, c1, rfl, rfl, by omega, hide rfl, HO1, HB1⟩
  case round =>
    obtain ⟨k, T, ta, tc, rfl, rfl, hk, HT, HO, HB⟩ := hrel
    rename World => wr
    have hs := HB.out.size
    by_cases hlt : k < 70
    · have hltI : (k : Int) < 70 := by omega
      go_upto_region 5 with (at_builtin; refine rec_more _ rfl (.tmp 12) (.tmp 16) rfl w.heap.size (.slice ta T tc) T (L ++ wmarks k) rfl (HO.out.alloc _) wr.heap.size (wmark k) rfl (heap_new _ _) (by have := HT.out; omega) (by simp; omega) ?_; intro g2 c2 w2 o2 gr2)
      have HO2 : Hid (w2.ownsRow w.heap.size 52 5 (.slice (some ⟨g2, 0, none⟩) (T + 1) c2) (T + 1) (flat (L ++ wmarks (k + 1)))) := hide (by rw [wmarks_snoc, ← List.append_assoc]; exact o2)
      have HB2 : Hid (Below w.heap.size w w2) := hide ((HB.out.alloc hs _).grown gr2 (by simp; omega) (fun j e => (HO.out.lt j e).1))
      clear o2 gr2
      go_wp2
      exact ⟨⟨k + 1, T + 1, _, c2, rfl, by go_num, by omega, hide (by have := HT.out; omega), HO2, HB2⟩, by simp [intOf]; omega⟩
    · have hltI : ¬ (k : Int) < 70 := by omega
      obtain rfl : k = 70 := by omega
      obtain ⟨g, c', e, _, _⟩ := own_rowR HO.out (by have := HT.out; omega)
      have hcap := own_capL HO.out
      cases e
      have hTn := HT.out
      have hcI : (n : Int) ≤ (tc : Int) := by omega
      have HC : Hid (n + 70 ≤ tc) := hide (by omega)
      have HO9 : Hid (wr.ownsRow w.heap.size 52 5 (.slice (some ⟨g, 0, none⟩) (n + 70) tc) (n + 70) (flat (L ++ wmarks 70))) := hide (by rw [← hTn]; exact HO.out)
      clear hTn hcap hs
      go_wp2
      go_ret
      exact ⟨g, tc, rfl, HC.out, HO9.out, HB.out⟩
theorem own_frontR {w : World} {base n m g c : Nat} {L M : List Rc} (h : w.ownsRow base 52 5 (.slice (some ⟨g, 0, none⟩) (n + m) c) (n + m) (flat (L ++ M))) (hl : L.length = n) : RRow w (some ⟨g, 0, none⟩) n L := by
  refine ⟨hl, .inr ⟨g, 0, rfl, fun i r hr => ?_⟩⟩
  have h9 : (L ++ M)[i]? = some r := by rw [List.getElem?_append_left (List.getElem?_eq_some_iff.1 hr).1]; exact hr
  obtain ⟨x0, x1, x2, x3, x4⟩ := own_rec h h9
  simp only [Nat.zero_add]
  exact ⟨x0, x1, x2, x3, x4⟩
set_option maxHeartbeats 1600000 in
set_option maxRecDepth 8000 in
theorem kept_any (a : Option Addr) (n c g cap base : Nat) (L : List Rc) (w : World) (hr : RRow w a n L) (hcap : n + 70 ≤ cap) (ho : w.ownsRow base 52 5 (.slice (some ⟨g, 0, none⟩) (n + 70) cap) (n + 70) (flat (L ++ wmarks 70))) (hn : n * 40 ≤ 140737488351232) :
    Calls Tryd.prog 13 #[.slice (some ⟨g, 0, none⟩) n cap, .slice a n c] w fun e w' => e = .returned (.bool true) ∧ Below w.heap.size w w' := by
  have hl := hr.len
  have RS := rsame_eq (some ⟨g, 0, none⟩) a n cap c L w (own_frontR ho hl) hr (by omega)
  have HO : Hid _ := hide ho
  have HL : Hid _ := hide hl
  have hnI : (n : Int) ≤ 3600000000000 := by omega
  have hcI : (n : Int) + 70 ≤ (cap : Int) := by omega
  have hwI : IntKind.i64.wrap ((n : Int) + 70) = ((n + 70 : Nat) : Int) := by rw [IntKind.wrap_i64]; omega
  have hcJ : ((n + 70 : Nat) : Int) ≤ (cap : Int) := by omega
  clear hr ho hl hcap
  go_enter Tryd.func13, Tryd.ntmps13
  go_wp2_with fail
  refine RS.mono ?_
  rintro e w1 ⟨rfl, m1, hw1⟩
  have hb1 : Below w.heap.size w w1 := by rw [hw1]; exact below_drewN (Below.refl _ _) _
  have HB1 : Hid _ := hide hb1
  clear hw1 hb1 RS
  go_wp2_with fail
  go_loopw [6] (fun iv wr => ∃ k : Nat, iv = .int .i64 (k : Int) ∧ k ≤ 70 ∧ wr = w1) (fun iv _ => 70 - (intOf iv).toNat)
  case atStart => exact ⟨0, rfl, by omega, rfl⟩
  case round =>
    obtain ⟨k, rfl, hk, rfl⟩ := hrel
    by_cases hlt : k < 70
    · have hltI : (k : Int) < 70 := by omega
      obtain ⟨j, hj⟩ : ∃ j : Nat, j = n + k := ⟨_, rfl⟩
      have hg : (L ++ wmarks 70)[j]? = some (wmark k) := by
        rw [hj, List.getElem?_append_right (by rw [HL.out]; omega), HL.out, Nat.add_sub_cancel_left]
        exact wmarks_get hlt
      obtain ⟨x0, -⟩ := own_rec (own_below HO.out HB1.out) hg
      dsimp only [wmark] at x0
      have ix : IntKind.i64.wrap ((n : Int) + (k : Int)) = (j : Int) := by rw [hj, IntKind.wrap_i64]; omega
      have jx : (j : Int) < ((n + 70 : Nat) : Int) := by rw [hj]; omega
      have jx' : (j : Int) < (n : Int) + 70 := by rw [hj]; omega
      clear hg hj
      go_wp2_with fail
      exact ⟨⟨k + 1, by go_num, by omega, by trivial⟩, by simp [intOf]; omega⟩
    · have hltI : ¬ (k : Int) < 70 := by omega
      go_wp2
      go_ret
      exact ⟨rfl, HB1.out⟩
theorem LRow.none (w : World) (c : Option Addr) : LRow w c 0 [] := ⟨rfl, .inl rfl⟩
set_option maxHeartbeats 3200000 in
set_option maxRecDepth 8000 in
theorem encodes_any (a : Option Addr) (n c : Nat) (L : List Rc) (lim : Int) (w : World) (hK : Kn w) (hw : 0 < w.heap.size) (hr : RRow w a n L) (h0 : a = none → n = 0 ∧ c = 0) (hok : ∀ r ∈ L, r.ok) (hn : n * 40 ≤ 140737488351232) :
    Calls Tryd.prog 3 #[.slice a n c, .int .i64 lim] w fun e w' => e = .returned (.bool true) ∧ Below w.heap.size w w' := by
  have RM := roomy_any a n c L w hr h0 hn
  have HR : Hid _ := hide hr
  have HL : Hid _ := hide hr.len
  have HOK : Hid _ := hide hok
  have HKN : Hid _ := hide hK
  have HN : Hid _ := hide hn
  clear hr h0 hok hK
  go_enter Tryd.func3, Tryd.ntmps3
  go_wp2_with fail
  refine RM.mono ?_
  rintro e w1 ⟨g, cap, rfl, hcap, ho1, hb1⟩
  have HC : Hid _ := hide hcap
  have HO1 : Hid _ := hide ho1
  have HB1 : Hid _ := hide hb1
  have hs1 := hb1.size
  have KP : Hid (∀ W, Below w1.heap.size w1 W → Calls Tryd.prog 13 #[.slice (some ⟨g, 0, none⟩) n cap, .slice a n c] W fun e w' => e = .returned (.bool true) ∧ Below W.heap.size W w') := hide (fun W hW => kept_any a n c g cap w.heap.size L W ((HR.out.below HB1.out).below hW) HC.out (own_below HO1.out hW) HN.out)
  clear RM hcap ho1 hb1
  by_cases hlim : 64 ≤ lim ∧ lim ≤ 1048576
  · have EN := enc_any (some ⟨g, 0, none⟩) n cap L lim w1 (HKN.out.below HB1.out hw) (by omega) (own_frontR HO1.out HL.out) HOK.out hlim (by omega)
    have HLM : Hid _ := hide hlim
    clear hlim
    by_cases hs : strE 0 L = 0
    · obtain ⟨Z, hZ⟩ : ∃ Z, Z = cutS lim.toNat [] St.zero L := ⟨_, rfl⟩
      rw [← hZ] at EN
      have HZ : Hid _ := hide hZ
      have HS : Hid _ := hide hs
      clear hZ hs
      go_wp2_with fail
      refine EN.mono ?_
      rintro e w2 ⟨hb2, -, hgood⟩
      obtain ⟨a2, c2, vals2, rfl, bd2, hsm2, hl2⟩ := hgood HS.out
      have HB2 : Hid _ := hide hb2
      have HBD : Hid _ := hide bd2
      have HSM : Hid _ := hide hsm2
      have hZI : (Z.length : Int) ≤ 1048577 := by omega
      have RE := renc_any a n c L lim w2 ((HR.out.below HB1.out).below hb2) HOK.out HLM.out (by omega)
      rw [← HZ.out] at RE
      clear EN hgood hb2 bd2 hsm2 hl2
      go_wp2_with fail
      refine RE.mono ?_
      rintro e w3 ⟨hb3, -, hgood⟩
      obtain ⟨a3, c3, vals3, rfl, ls3⟩ := hgood HS.out
      have SL := sl_any a2 a3 Z.length c2 Z.length c3 Z Z w3 ((HBD.out.below hb3).lrow rfl (fun b hb => by have := HSM.out b hb; have := HLM.out; omega)) (ls3.lrow (fun b hb => by have := HSM.out b hb; have := HLM.out; omega)) (by omega)
      rw [decide_eq_true rfl] at SL
      have HB3 : Hid (Below w1.heap.size w1 w3) := hide (HB2.out.trans (hb3.mono HB2.out.size))
      clear RE hgood hb3 ls3
      go_wp2_with fail
      refine SL.mono ?_
      rintro e w4 ⟨rfl, m4, hw4⟩
      have hb4 : Below w1.heap.size w1 w4 := by rw [hw4]; exact below_drewN HB3.out _
      have KP4 := KP.out w4 hb4
      have HB4 : Hid _ := hide (HB1.out.trans (hb4.mono hs1))
      clear SL hw4 hb4
      go_wp2_with fail
      refine KP4.mono ?_
      rintro e w5 ⟨rfl, hb5⟩
      go_wp2
      go_ret
      exact ⟨rfl, HB4.out.trans (hb5.mono HB4.out.size)⟩
    · obtain ⟨E, hE⟩ : ∃ E, E = strE 0 L := ⟨_, rfl⟩
      rw [← hE] at EN hs
      have HE : Hid _ := hide hE
      have HS : Hid _ := hide hs
      have e1 : (E == E) = true := by simp
      clear hE hs
      go_wp2_with fail
      refine EN.mono ?_
      rintro e w2 ⟨hb2, hbad, -⟩
      obtain rfl := hbad HS.out
      have HB2 : Hid _ := hide hb2
      have RE := renc_any a n c L lim w2 ((HR.out.below HB1.out).below hb2) HOK.out HLM.out (by omega)
      rw [← HE.out] at RE
      clear EN hbad hb2
      go_wp2_with fail
      refine RE.mono ?_
      rintro e w3 ⟨hb3, hbad, -⟩
      obtain rfl := hbad HS.out
      have SL := sl_any none none 0 0 0 0 [] [] w3 (LRow.none _ _) (LRow.none _ _) (by omega)
      rw [decide_eq_true rfl] at SL
      have HB3 : Hid (Below w1.heap.size w1 w3) := hide (HB2.out.trans (hb3.mono HB2.out.size))
      clear RE hbad hb3
      go_wp2_with fail
      refine SL.mono ?_
      rintro e w4 ⟨rfl, m4, hw4⟩
      have hb4 : Below w1.heap.size w1 w4 := by rw [hw4]; exact below_drewN HB3.out _
      have KP4 := KP.out w4 hb4
      have HB4 : Hid _ := hide (HB1.out.trans (hb4.mono hs1))
      clear SL hw4 hb4
      go_wp2_with fail
      refine KP4.mono ?_
      rintro e w5 ⟨rfl, hb5⟩
      go_wp2
      go_ret
      exact ⟨rfl, HB4.out.trans (hb5.mono HB4.out.size)⟩
  · have EN := enc_lim (some ⟨g, 0, none⟩) n cap lim w1 hlim
    have RE := renc_lim a n c lim w1 hlim
    have SL := sl_any none none 0 0 0 0 [] [] w1 (LRow.none _ _) (LRow.none _ _) (by omega)
    rw [decide_eq_true rfl] at SL
    clear hlim
    go_wp2_with fail
    refine EN.mono ?_
    rintro e w9 ⟨rfl, hw9⟩
    rw [hw9]
    clear EN hw9 w9
    go_wp2_with fail
    refine RE.mono ?_
    rintro e w9 ⟨rfl, hw9⟩
    rw [hw9]
    clear RE hw9 w9
    go_wp2_with fail
    refine SL.mono ?_
    rintro e w4 ⟨rfl, m4, hw4⟩
    have hb4 : Below w1.heap.size w1 w4 := by rw [hw4]; exact below_drewN (Below.refl _ _) _
    have KP4 := KP.out w4 hb4
    have HB4 : Hid _ := hide (HB1.out.trans (hb4.mono hs1))
    clear SL hw4 hb4
    go_wp2_with fail
    refine KP4.mono ?_
    rintro e w5 ⟨rfl, hb5⟩
    go_wp2
    go_ret
    exact ⟨rfl, HB4.out.trans (hb5.mono HB4.out.size)⟩
end Go.Proofs.YtamoioebgnmcaaaDoor
