/-
  put, lowest, take; the iterator over two clocks.
-/
import Derived.Test.YtajkenbcndmjpabClA
import Derived.RangeFuncNested
import Derived.RangeFuncBound
import Derived.RangeFuncCalls
import Derived.RangeFuncLeaves
import Derived.Shelf.Abstract
import Derived.Shelf.RegionOpen
import Derived.OwnWalkIn
import Derived.TacticsInMore
import Derived.LoopNIn
import Derived.LoopIn
namespace Go.Proofs.Ytajkenbcndmjpab
open Go.RowKit Go.Maps Go.Shelf
attribute [local go_sem] Oper.semAt_some
theorem put_any (base : Nat) (v : Value) (J : List Tk) (g t : Int) (w : World) (h : Own layT 43 w base v J) (hl : (J.length : Int) ≤ 200000) (hb : base ≤ w.heap.size) :
    Calls Try.prog 37 #[v, .int .i64 g, .int .i64 t] w fun e w' => ∃ v', e = .returned v' ∧ Own layT 43 w' base v' (pt J g t) ∧ But (fun q => v.ownBlock = some q) w w' ∧ (v'.ownBlock = v.ownBlock ∨ ∃ q, v'.ownBlock = some q ∧ w.heap.size ≤ q) := by
  obtain ⟨i0, hi, hz0, hz1, hz2⟩ := info_parts Try.infoT
  by_cases ht : t = 0
  · subst ht
    have HO : Hid (Own layT 43 w base v (pt J g 0)) := hide (by unfold pt; rw [if_pos rfl]; exact h)
    clear h hl hb
    go_enter Try.func37, Try.ntmps37
    go_wp2
    go_ret
    exact ⟨v, rfl, HO.out, But.refl _ _, .inl rfl⟩
  · have hp : pt J g t = J ++ [⟨g, t⟩] := by unfold pt; rw [if_neg ht]
    rw [hp]
    have htb : (t == 0) = false := by simp [ht]
    have HO := hide h
    have HL := hide hl
    have HB := hide hb
    clear h hl hb hp
    go_enter Try.func37, Try.ntmps37
    go_wp2_with (at_builtin; refine append_lay layT _ 22 43 i0 _ 16 Try.underlying22 hi hz0 hz1 hz2 rfl rfl (.tmp 10) (.tmp 14) rfl base v J rfl (HO.out.below (below_alloc1 _ _)) (some ⟨w.heap.size, 0, none⟩) 1 1 [⟨g, t⟩] rfl (TRow.one (y := layT) (x := ⟨g, t⟩) (e := 43) (heap_new _ _)) (by intro e; cases e) ?b1 ?b2 ?b3 ?_)
    case b1 => unfold maxLen; have := HL.out; omega
    case b2 => have := HL.out; omega
    case b3 => have := HB.out; simp; omega
    intro v' w' o1 g1 l1
    have HO1 := hide o1
    have HG1 := hide g1
    have HL1 := hide l1
    clear o1 g1 l1
    go_wp2
    go_ret
    refine ⟨v', rfl, HO1.out, ((But.refl (fun q => v.ownBlock = some q) w).alloc _).grown HG1.out (fun _ _ e => e), ?_⟩
    rcases HL1.out with e | e
    · exact .inl e
    · exact .inr ⟨_, e, by simp⟩
theorem lowest_any (a : Option Addr) (n c : Nat) (L : List Tk) (w : World) (h : TRow layT w a n L) :
    Calls Try.prog 46 #[.slice a n c] w fun e w' => e = .returned (.int .i64 (lo L)) ∧ w' = w := by
  cases L with
  | nil =>
    have h0 : n = 0 := by have := h.len; simpa using this.symm
    subst h0
    clear h
    go_enter Try.func46, Try.ntmps46
    go_wp2
    go_ret
    exact ⟨rfl, rfl⟩
  | cons x L =>
    obtain ⟨m, rfl⟩ : ∃ m, n = m + 1 := ⟨L.length, by have := h.len; simpa using this.symm⟩
    obtain ⟨b, off, y, rfl, hy, _, c0, _⟩ := h.some (i := 0) (by omega)
    cases hy
    rw [Nat.zero_mul, Nat.add_zero] at c0
    clear h
    go_enter Try.func46, Try.ntmps46
    go_wp2
    go_ret
    exact ⟨rfl, rfl⟩
theorem take_any (a : Option Addr) (n c : Nat) (L : List Tk) (g : Int) (w : World) (h : TRow layT w a n L) (hc : n ≤ c) (hg : g < 65536) :
    Calls Try.prog 47 #[.slice a n c, .int .i64 g] w fun e w' => ∃ a' n' c', e = .returned (.tuple #[.int .i64 (tk1 g L), .slice a' n' c']) ∧ n' ≤ c' ∧ (∀ W, TRow layT W a n L → TRow layT W a' n' (tk2 g L)) ∧ ∃ q, w' = w.drewN q := by
  have HL := hide (lowest_any a n c L w h)
  by_cases he : lo L = g
  · cases L with
    | nil => have e9 : lo ([] : List Tk) = 65536 := rfl; omega
    | cons x L =>
      obtain ⟨m, rfl⟩ : ∃ m, n = m + 1 := ⟨L.length, by have := h.len; simpa using this.symm⟩
      obtain ⟨b, off, y, rfl, hy, _, c0, c1⟩ := h.some (i := 0) (by omega)
      cases hy
      rw [Nat.zero_mul, Nat.add_zero] at c0 c1
      have hx : x.g = g := he
      have e1 : tk1 g (x :: L) = x.t := by rw [tk1, if_pos hx]
      have e2 : tk2 g (x :: L) = L := by rw [tk2, if_pos hx]
      rw [e1, e2, show lo (x :: L) = g from hx] at *
      clear e1 e2 he hx h c0
      by_cases hc1 : c = 1
      · subst hc1
        have hm : m = 0 := by omega
        subst hm
        clear hc
        go_enter Try.func47, Try.ntmps47
        go_wp2_with fail
        refine HL.out.mono ?_
        rintro e w1 ⟨rfl, hw⟩
        rw [hw]; clear hw w1 HL
        go_wp2_with fail
        go_quiet (fail)
        go_wp2
        go_ret2
        refine ⟨_, _, _, rfl, by simp, fun W hW => ?_, _, rfl⟩
        have := hW.drop 1 (by omega)
        exact ⟨this.len, .inl (by simp)⟩
      · have hcn : ¬ c = 1 := hc1
        go_enter Try.func47, Try.ntmps47
        go_wp2_with fail
        refine HL.out.mono ?_
        rintro e w1 ⟨rfl, hw⟩
        rw [hw]; clear hw w1 HL
        go_wp2_with fail
        go_quiet (fail)
        go_wp2
        go_ret2
        refine ⟨_, _, _, rfl, by omega, fun W hW => ?_, _, rfl⟩
        exact hW.drop 1 (by omega)
  · have e1 : tk1 g L = 0 := by
      cases L with
      | nil => rfl
      | cons x L => have he2 : ¬ x.g = g := he; rw [tk1, if_neg he2]
    have e2 : tk2 g L = L := by
      cases L with
      | nil => rfl
      | cons x L => have he2 : ¬ x.g = g := he; rw [tk2, if_neg he2]
    rw [e1, e2]
    have hne : (lo L != g) = true := by simp [he]
    generalize lo L = z at HL hne
    clear h he e1 e2
    go_enter Try.func47, Try.ntmps47
    go_wp2_with fail
    refine HL.out.mono ?_
    rintro e w1 ⟨rfl, hw⟩
    rw [hw]; clear hw w1 HL
    go_wp2
    go_ret2
    exact ⟨_, _, _, rfl, hc, fun W hW => hW, 0, rfl⟩
theorem both_any (aa ab : Option Addr) (na ca nb cb : Nat) (w : World) :
    Calls Try.prog 40 #[.slice aa na ca, .slice ab nb cb] w fun e w' => e = .returned (.func (.func 45) #[] #[.pointer (some ⟨w.heap.size, 0, none⟩), .pointer (some ⟨w.heap.size + 1, 0, none⟩)]) ∧ w' = (w.alloc (.cells #[.slice aa na ca] 22)).alloc (.cells #[.slice ab nb cb] 22) := by
  go_enter Try.func40, Try.ntmps40
  go_wp2
  go_ret
  exact ⟨rfl, rfl⟩
/-- A step of the iterator. -/
structure Stp (s : List Tk × List Tk) (x : Int × Int × Int) (W W2 : World) (s2 : List Tk × List Tk) : Prop where
  ne : s.1 ≠ [] ∨ s.2 ≠ []
  x1 : x.1 = nx s.1 s.2
  x2 : x.2.1 = tk1 (nx s.1 s.2) s.1
  x3 : x.2.2 = tk1 (nx s.1 s.2) s.2
  s1 : s2.1 = tk2 (nx s.1 s.2) s.1
  s3 : s2.2 = tk2 (nx s.1 s.2) s.2
  bel : Below W.heap.size W W2
/-- How long a slice is. -/
def lenV : Value → Nat
  | .slice _ n _ => n
  | _ => 0
theorem below_drewN {w W : World} (h : Below w.heap.size w W) (q : Nat) : Below w.heap.size w (W.drewN q) := ⟨h.os, h.tape, h.output, h.size, h.block⟩
set_option maxRecDepth 100000 in
set_option maxHeartbeats 4000000 in
theorem both1_in (n : Nat) (hn : 1 ≤ n) (l Ba Bb : Nat) (aa ab : Option Addr) (na ca nb cb : Nat) (A B : List Tk) (J : List Tk × List Tk → World → Prop) (Jx : World → Prop)
    (hJ : ∀ s W, J s W → W.cell? ⟨Ba, 0, none⟩ = some (.slice aa na ca) ∧ W.cell? ⟨Bb, 0, none⟩ = some (.slice ab nb cb) ∧ TRow layT W aa na A ∧ TRow layT W ab nb B)
    (hJb : ∀ s W W', J s W → Below W.heap.size W W' → J s W') (hA : gd 0 A = true) (hB : gd 0 B = true) (hca : na ≤ ca) (hcb : nb ≤ cb)
    (hY : ∀ s x W1 W2 s2, J s W1 → Stp s x W1 W2 s2 → YieldAt Fence.wide (n - 1) Try.prog l #[.int .i64 x.1, .agg #[.int .i64 x.2.1, .int .i64 x.2.2]] W2 fun e W' => (e = .returned (.bool true) ∧ J s2 W') ∨ (e = .returned (.bool false) ∧ Jx W'))
    (W : World) (h0 : J (A, B) W) :
    CallsIn Fence.wide n Try.prog 45 #[.func (.yield l) #[] #[], .pointer (some ⟨Ba, 0, none⟩), .pointer (some ⟨Bb, 0, none⟩)] W fun e W' => (∃ v, e = .returned v) ∧ ((∃ s, s = (([], []) : List Tk × List Tk) ∧ J s W') ∨ Jx W') := by
  obtain ⟨k0, k1, -, -⟩ := hJ _ _ h0
  have HJ := hide hJ
  have HJb := hide hJb
  have HY := hide hY
  have HA := hide hA
  have HB := hide hB
  have HC := hide (And.intro hca hcb)
  have H0 := hide h0
  clear hJ hJb hY hA hB hca hcb h0
  refine callsIn_wide.2 ?_
  go_enter Try.func45, Try.ntmps45
  go_wp2_with fail
  go_quiet (fail)
  generalize hwd : W.drewN _ = W1
  have H1 : Hid (J (A, B) W1) := hide (HJb.out _ _ _ H0.out (by rw [← hwd]; exact below_drewN (Below.refl _ _) _))
  clear hwd k0 k1
  go_wp2_with fail
  go_loopw [4, 5] (fun va vb wr => ∃ (ra rb : List Tk) (m : Int) (xa xb : Option Addr) (ma da mb db : Nat), va = .slice xa ma da ∧ vb = .slice xb mb db ∧ Hid (J (ra, rb) wr) ∧ Hid (Rst A B m ra rb) ∧ Hid (ma ≤ da ∧ mb ≤ db) ∧ Hid ((∀ V, TRow layT V aa na A → TRow layT V xa ma ra) ∧ (∀ V, TRow layT V ab nb B → TRow layT V xb mb rb))) (fun va vb _ => lenV va + lenV vb)
  case atStart => exact ⟨A, B, 0, aa, ab, na, ca, nb, cb, rfl, rfl, H1, hide (Rst.start HA.out HB.out), HC, hide ⟨fun _ h => h, fun _ h => h⟩⟩
  case round =>
    obtain ⟨ra, rb, m, xa, xb, ma, da, mb, db, rfl, rfl, HJs, HR, HD, HS⟩ := hrel
    obtain ⟨-, -, tA, tB⟩ := HJ.out _ _ HJs.out
    have ra0 := HS.out.1 _ tA
    have rb0 := HS.out.2 _ tB
    by_cases hz : ma = 0 ∧ mb = 0
    · obtain ⟨rfl, rfl⟩ := hz
      have ea := List.length_eq_zero_iff.1 ra0.len
      have eb := List.length_eq_zero_iff.1 rb0.len
      subst ea; subst eb
      clear ra0 rb0 tA tB
      go_wp2
      go_end0
      exact ⟨⟨_, rfl⟩, .inl ⟨_, rfl, HJs.out⟩⟩
    · have hne : ra ≠ [] ∨ rb ≠ [] := by
        by_cases e : ra = []
        · right
          intro e2
          rw [e] at ra0
          rw [e2] at rb0
          have l1 := ra0.len
          have l2 := rb0.len
          simp at l1 l2
          exact hz ⟨l1.symm, l2.symm⟩
        · exact .inl e
      obtain ⟨s1, s2, -, -, -, s6⟩ := HR.out.step hne
      have l1 := lo_ge HR.out.ga HR.out.m1
      have l2 := lo_ge HR.out.gb HR.out.m1
      have hless : lft (tk2 (nx ra rb) ra) (tk2 (nx ra rb) rb) < lft ra rb := nx_less l1.2 l2.2 (fun h => lo_lt HR.out.ga h) (fun h => lo_lt HR.out.gb h) hne
      have HLa := hide (lowest_any xa ma da ra wr ra0)
      have HLb := hide (lowest_any xb mb db rb wr rb0)
      obtain ⟨g, hg⟩ : ∃ g, nx ra rb = g := ⟨_, rfl⟩
      rw [hg] at s1 s2 s6 hless
      have hmin : min (lo ra) (lo rb) = g := hg
      have HNe := hide hne
      have HG := hide hg
      have HR2 := hide s6
      have HLs := hide hless
      obtain ⟨W2, hW2⟩ : ∃ W2, W2 = wr.alloc (.cells #[.int .i64 0, .int .i64 0] 66) := ⟨_, rfl⟩
      have b2 : Below wr.heap.size wr W2 := by rw [hW2]; exact below_alloc1 _ _
      have hp : W2.heap[wr.heap.size]? = some (.cells #[.int .i64 0, .int .i64 0] 66 (0, 0)) := by rw [hW2]; exact heap_new _ _
      have HTa := hide (fun (V : World) (hV : Below wr.heap.size wr V) => take_any xa ma da ra g V (ra0.below hV) HD.out.1 s2)
      have HTb := hide (fun (V : World) (hV : Below wr.heap.size wr V) => take_any xb mb db rb g V (rb0.below hV) HD.out.2 s2)
      have HB2 := hide b2
      have hfz := frz hp
      have hlt : wr.heap.size < W2.heap.size := (Array.getElem?_eq_some_iff.1 hp).1
      have HP := hide hp
      have HLn := hide (And.intro ra0.len rb0.len)
      have hp0 : W2.cell? ⟨wr.heap.size, 0, none⟩ = some (.int .i64 0) := cell_at hp rfl
      have hz2 : 0 < ma ∨ (ma = 0 ∧ 0 < mb) := by omega
      have fz0 := hfz 0
      clear hne s1 s2 s6 l1 l2 hless hg tA tB b2 hp ra0 rb0 hz hfz
      rcases hz2 with hma | ⟨rfl, hmb⟩
      all_goals
        go_wp2_with fail
        refine HLa.out.mono ?_
        rintro e w1 ⟨rfl, hw⟩
        rw [hw]
        clear hw w1 HLa
        go_wp2_with fail
        refine HLb.out.mono ?_
        rintro e w1 ⟨rfl, hw⟩
        rw [hw]
        clear hw w1 HLb
        go_wp2_with fail
        rw [← hW2]
        refine (HTa.out W2 HB2.out).mono ?_
        rintro e w3 ⟨a2, n2, c2, rfl, hc2, hs2, q2, hw3⟩
        have b3 : Below wr.heap.size wr w3 := by rw [hw3]; exact below_drewN HB2.out _
        have hp3 : w3.heap[wr.heap.size]? = some (.cells #[.int .i64 0, .int .i64 0] 66 (0, 0)) := by rw [hw3]; exact HP.out
        obtain ⟨t1, ht1⟩ : ∃ t1, tk1 g ra = t1 := ⟨_, rfl⟩
        rw [ht1]
        have HT1 := hide ht1
        have HS2 := hide hs2
        have HC2 := hide hc2
        have p0 : w3.cell? ⟨wr.heap.size, 0, none⟩ = some (.int .i64 0) := cell_at hp3 rfl
        have f0 := frz hp3 0
        obtain ⟨V, hV⟩ : ∃ V, V = w3.setCell ⟨wr.heap.size, 0, none⟩ (.int .i64 t1) := ⟨_, rfl⟩
        have bV : Below wr.heap.size wr V := by rw [hV]; exact b3.setCell (Nat.le_refl _) _
        have hpV : V.heap[wr.heap.size]? = some (.cells #[.int .i64 t1, .int .i64 0] 66 (0, 0)) := by rw [hV]; exact set1_heap _ hp3
        have HBV := hide bV
        have HPV := hide hpV
        clear hw3 b3 hp3 ht1 hs2 hc2 bV hpV hp0 fz0 hW2
        go_wp2_with fail
        rw [← hV]
        refine (HTb.out V HBV.out).mono ?_
        rintro e w4 ⟨a3, n3, c3, rfl, hc3, hs3, q3, hw4⟩
        have b4 : Below wr.heap.size wr w4 := by rw [hw4]; exact below_drewN HBV.out _
        have hp4 : w4.heap[wr.heap.size]? = some (.cells #[.int .i64 t1, .int .i64 0] 66 (0, 0)) := by rw [hw4]; exact HPV.out
        obtain ⟨t2, ht2⟩ : ∃ t2, tk1 g rb = t2 := ⟨_, rfl⟩
        rw [ht2]
        have HT2 := hide ht2
        have HS3 := hide hs3
        have HC3 := hide hc3
        have r1 : w4.cell? ⟨wr.heap.size, 1, none⟩ = some (.int .i64 0) := cell_at hp4 rfl
        have f1 := frz hp4 1
        obtain ⟨U, hU⟩ : ∃ U, U = w4.setCell ⟨wr.heap.size, 1, none⟩ (.int .i64 t2) := ⟨_, rfl⟩
        have bU : Below wr.heap.size wr U := by rw [hU]; exact b4.setCell (Nat.le_refl _) _
        have hpU : U.heap[wr.heap.size]? = some (.cells #[.int .i64 t1, .int .i64 t2] 66 (0, 0)) := by rw [hU]; exact set1_heap _ hp4
        have u0 : U.cell? ⟨wr.heap.size, 0, none⟩ = some (.int .i64 t1) := cell_at hpU rfl
        have u1 : U.cell? ⟨wr.heap.size, 1, none⟩ = some (.int .i64 t2) := cell_at hpU rfl
        have HBU := hide bU
        clear hw4 b4 hp4 ht2 hs3 hc3 bU hpU hV p0 f0
        go_upto_region 6 with fail
        rw [← hU]
        clear r1 f1 hU
        refine (wpIn_wide (n := n)).1 ?_
        obtain ⟨fn, tmx, asg, bd, hy, hR⟩ := HY.out (ra, rb) (g, t1, t2) wr U (tk2 g ra, tk2 g rb) HJs.out ⟨HNe.out, HG.out.symm, by rw [HG.out]; exact HT1.out.symm, by rw [HG.out]; exact HT2.out.symm, by rw [HG.out], by rw [HG.out], HBU.out⟩
        gi_wp2
        refine hR.mono ?_
        rintro e W9 h9
        rcases h9 with ⟨rfl, h9⟩ | ⟨rfl, h9⟩
        · have H9 := hide h9
          clear h9 hy hR
          gi_wp2
          go_wp2
          refine ⟨⟨tk2 g ra, tk2 g rb, g + 1, a2, a3, n2, c2, n3, c3, rfl, rfl, H9, HR2, hide ⟨HC2.out, HC3.out⟩, hide ⟨fun V hV => HS2.out V (HS.out.1 V hV), fun V hV => HS3.out V (HS.out.2 V hV)⟩⟩, ?_⟩
          have hh := HLs.out
          have hla := (HS2.out _ (HS.out.1 _ (HJ.out _ _ HJs.out).2.2.1)).len
          have hlb := (HS3.out _ (HS.out.2 _ (HJ.out _ _ HJs.out).2.2.2)).len
          have hl2 := HLn.out
          unfold lft at hh
          simp only [lenV]
          omega
        · have H9 := hide h9
          clear h9 hy hR
          gi_wp2
          go_wp2
          refine bodyPost_ret (results_none rfl _ _ _) rfl ?_
          exact ⟨⟨_, rfl⟩, .inr H9.out⟩
end Go.Proofs.Ytajkenbcndmjpab
