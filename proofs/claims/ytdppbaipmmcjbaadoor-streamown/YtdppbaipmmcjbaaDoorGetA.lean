/-
  readFirst, readStamp, readObj, readArg, readStack.
-/
import Derived.Test.YtdppbaipmmcjbaaDoorGetM
namespace Go.Proofs.YtdppbaipmmcjbaaDoor
open Go.RowKit
theorem results_t4 {fn : Func} {t u v x : Tmp} (h : fn.results = #[.tmp t, .tmp u, .tmp v, .tmp x]) (tmps : Array Value) (P : Program) (w : World) :
    (results fn tmps).run P w = .ok (.tuple #[tmps.getD t undef, tmps.getD u undef, tmps.getD v undef, tmps.getD x undef]) w := by
  simp [results, h]
theorem results_ctt {P : Program} {fn : Func} {p t u : Tmp} {ty : TypeId} (h : fn.results = #[.cell p ty, .tmp t, .tmp u]) (tmps : Array Value) (w : World) (g : Nat) (ty' : TypeId) (cs : Array Value) (fr : Nat × Nat) (d : TypeDesc)
    (hp : tmps.getD p undef = .pointer (some ⟨g, 0, none⟩)) (hg : w.heap[g]? = some (.cells cs ty' fr))
    (hu : P.underlying ty = some d) (hd : (match d with | .struct _ | .array _ _ => true | _ => false) = true) (hi : (P.info? ty).map (·.size) = some cs.size) :
    (results fn tmps).run P w = .ok (.tuple #[.agg cs, tmps.getD t undef, tmps.getD u undef]) w := by
  have hp' : tmps[p]?.getD undef = .pointer (some ⟨g, 0, none⟩) := by simpa using hp
  simp [results, h, hp', asAddr, run_loadVar_row w g ty' ty cs fr d hg hu hd hi]
/-! ### readFirst -/
theorem rf_end (a : Option Addr) (n c : Nat) (w : World) :
    Calls Tryd.prog 70 #[.slice a n c, .int .i64 n] w fun e w' => e = .returned (.tuple #[.int .i64 0, .int .u8 0, .int .i64 0, .int .i64 10]) ∧ w' = w := by
  go_enter Tryd.func70, Tryd.ntmps70
  go_wp2
  (try simp only [Exit.inBlock, Exit.then])
  refine bodyPost_ret (results_t4 rfl _ _ _) rfl ?_
  exact ⟨rfl, rfl⟩
theorem rf_ok (b off n c t : Nat) (z : Int) (w : World) (hK : Kn w) (hn : (n : Int) ≤ 9223372036854700000) (ht : t < n) (hz0 : 0 ≤ z) (hz1 : z ≤ 255) (hc : w.cell? ⟨b, off + t, none⟩ = some (.int .u8 z)) (hk : 1 ≤ z % 32 ∧ z % 32 ≤ 22) :
    Calls Tryd.prog 70 #[.slice (some ⟨b, off, none⟩) n c, .int .i64 t] w fun e w' => e = .returned (.tuple #[.int .i64 (z % 32), .int .u8 (tellsV z), .int .i64 ((t : Int) + 1), .int .i64 0]) ∧ ∃ m, w' = w.drewN m := by
  have hne : ((t : Int) == (n : Int)) = false := by simp; omega
  have htn : (t : Int) < (n : Int) := by omega
  have HNm := name_any (z % 32) w hK
  have HKb : Hid (wrap64 (bits .andNot .u8 z 224) = z % 32) := hide (by rw [kind_bits z hz0 hz1]; unfold wrap64; omega)
  have HT : Hid (tellsV z = bits .and .u8 z 224) := hide rfl
  have e1 : nameV (z % 32) = .tuple #[.string (kname (z % 32).toNat), .int .i64 0] := by rw [nameV, if_pos hk]
  rw [e1] at HNm
  generalize z % 32 = kk at HNm HKb ⊢
  clear hk e1 hK
  generalize tellsV z = tv at HT ⊢
  go_enter Tryd.func70, Tryd.ntmps70
  go_wp2_with fail
  rw [HKb.out]
  refine HNm.mono ?_
  rintro e w1 ⟨rfl, rfl⟩
  go_wp2_with fail
  go_quiet (fail)
  go_wp2
  (try simp only [Exit.inBlock, Exit.then])
  refine bodyPost_ret (results_t4 rfl _ _ _) rfl ?_
  exact ⟨by rw [HT.out]; rfl, _, rfl⟩
theorem rf_bad (b off n c t : Nat) (z : Int) (w : World) (hK : Kn w) (ht : t < n) (hz0 : 0 ≤ z) (hz1 : z ≤ 255) (hc : w.cell? ⟨b, off + t, none⟩ = some (.int .u8 z)) (hk : ¬ (1 ≤ z % 32 ∧ z % 32 ≤ 22)) :
    Calls Tryd.prog 70 #[.slice (some ⟨b, off, none⟩) n c, .int .i64 t] w fun e w' => e = .returned (.tuple #[.int .i64 0, .int .u8 0, .int .i64 0, .int .i64 60]) ∧ ∃ m, w' = w.drewN m := by
  have hne : ((t : Int) == (n : Int)) = false := by simp; omega
  have htn : (t : Int) < (n : Int) := by omega
  have HNm := name_any (z % 32) w hK
  have HKb : Hid (wrap64 (bits .andNot .u8 z 224) = z % 32) := hide (by rw [kind_bits z hz0 hz1]; unfold wrap64; omega)
  have e1 : nameV (z % 32) = .tuple #[.string ByteArray.empty, .int .i64 60] := by rw [nameV, if_neg hk]
  rw [e1] at HNm
  generalize z % 32 = kk at HNm HKb ⊢
  clear hk e1 hK
  go_enter Tryd.func70, Tryd.ntmps70
  go_wp2_with fail
  rw [HKb.out]
  refine HNm.mono ?_
  rintro e w1 ⟨rfl, rfl⟩
  go_wp2
  (try simp only [Exit.inBlock, Exit.then])
  refine bodyPost_ret (results_t4 rfl _ _ _) rfl ?_
  exact ⟨rfl, 0, rfl⟩
/-! ### readStamp -/
theorem rs_any (S p : Int) (a : Option Addr) (n c : Nat) (zs : List Int) (w : World) (hr : Row w a n zs) (hn : (n : Int) ≤ 9223372036854700000) (h0 : 0 ≤ S) (h1 : S ≤ 1048576) (x p' f : Int) (hx : rdAt zs p = (x, p', f)) :
    Calls Tryd.prog 71 #[.int .i64 S, .slice a n c, .int .i64 p] w fun e w' => e = .returned (if f ≠ 0 then .tuple #[.int .i64 0, .int .i64 0, .int .i64 f] else if 1048576 - S ≤ x then .tuple #[.int .i64 0, .int .i64 0, .int .i64 70] else .tuple #[.int .i64 (S + x), .int .i64 p', .int .i64 0]) ∧ w' = w := by
  have HU := ru_any a n c p zs w hr hn
  have hbd := rdAt_bd zs p hr.u8
  rw [hx] at HU hbd
  simp only [out3] at HU
  dsimp only at hbd
  obtain ⟨hx0, hx1, _⟩ := hbd
  by_cases hf : f = 0
  · subst hf
    by_cases hg : 1048576 - S ≤ x
    · have e : (if (0 : Int) ≠ 0 then Value.tuple #[.int .i64 0, .int .i64 0, .int .i64 0] else if 1048576 - S ≤ x then .tuple #[.int .i64 0, .int .i64 0, .int .i64 70] else .tuple #[.int .i64 (S + x), .int .i64 p', .int .i64 0]) = .tuple #[.int .i64 0, .int .i64 0, .int .i64 70] := by simp [hg]
      rw [e]
      clear e hx
      go_enter Tryd.func71, Tryd.ntmps71
      go_wp2_with fail
      refine HU.mono ?_
      rintro e w1 ⟨rfl, rfl⟩
      go_wp2
      go_ret3
      exact ⟨rfl, rfl⟩
    · have e : (if (0 : Int) ≠ 0 then Value.tuple #[.int .i64 0, .int .i64 0, .int .i64 0] else if 1048576 - S ≤ x then .tuple #[.int .i64 0, .int .i64 0, .int .i64 70] else .tuple #[.int .i64 (S + x), .int .i64 p', .int .i64 0]) = .tuple #[.int .i64 (S + x), .int .i64 p', .int .i64 0] := by simp [hg]
      rw [e]
      clear e hx
      have hxs : x < 1048576 := by omega
      go_enter Tryd.func71, Tryd.ntmps71
      go_wp2_with fail
      refine HU.mono ?_
      rintro e w1 ⟨rfl, rfl⟩
      go_wp2
      go_ret3
      exact ⟨rfl, rfl⟩
  · have hfb : (f != 0) = true := by simp [hf]
    rw [if_pos hf]
    clear hx hf
    go_enter Tryd.func71, Tryd.ntmps71
    go_wp2_with fail
    refine HU.mono ?_
    rintro e w1 ⟨rfl, rfl⟩
    go_wp2
    go_ret3
    exact ⟨rfl, rfl⟩
/-! ### readObj, readArg, readStack -/
theorem set5_heap {w : World} {g i : Nat} {T : TypeId} {cs cs' : Array Value} (v : Value) (h : w.heap[g]? = some (.cells cs T (0, 0))) (e : cs.setIfInBounds i v = cs') : (w.setCell ⟨g, i, none⟩ v).heap[g]? = some (.cells cs' T (0, 0)) := by rw [← e]; exact set1_heap v h
theorem po_any (t k o a q p : Int) (ad : Option Addr) (n c : Nat) (zs : List Int) (w : World) (hr : Row w ad n zs) (hn : (n : Int) ≤ 9223372036854700000) :
    Calls Tryd.prog 72 #[.agg #[.int .i64 t, .int .i64 k, .int .u64 o, .int .u64 a, .int .i64 q], .slice ad n c, .int .i64 p] w fun e w' =>
      e = .returned (.tuple #[.agg #[.int .i64 t, .int .i64 k, .int .u64 (step o (rdAt zs p).1), .int .u64 a, .int .i64 q], .int .i64 (rdAt zs p).2.1, .int .i64 (rdAt zs p).2.2]) ∧ Below w.heap.size w w' := by
  obtain ⟨W, hW⟩ : ∃ W, W = (w.alloc (.cells #[.int .i64 t, .int .i64 k, .int .u64 o, .int .u64 a, .int .i64 q] 48)).alloc (.cells #[.int .i64 0, .int .i64 0, .int .u64 0, .int .u64 0, .int .i64 0] 48) := ⟨_, rfl⟩
  have hb : Below w.heap.size w W := by rw [hW]; exact below_alloc2 _ _ _
  have HU := ru_any ad n c p zs W (hr.below hb) hn
  have hbd := rdAt_bd zs p hr.u8
  generalize rdAt zs p = y at HU hbd ⊢
  obtain ⟨x, p', f⟩ := y
  simp only [out3] at HU
  dsimp only at hbd ⊢
  obtain ⟨hx0, hx1, _⟩ := hbd
  go_enter Tryd.func72, Tryd.ntmps72
  go_wp2_with fail
  rw [← hW]
  refine HU.mono ?_
  rintro e w1 ⟨rfl, hw1⟩
  subst hw1
  rw [hW]
  go_wp2_with fail
  refine (step_any o x _ hx0 hx1).mono ?_
  rintro e w2 ⟨rfl, rfl⟩
  go_wp2_with fail
  refine bodyPost_ret (v := .tuple #[.agg #[.int .i64 t, .int .i64 k, .int .u64 (step o x), .int .u64 a, .int .i64 q], .int .i64 p', .int .i64 f]) (by simp [results, Tryd.results72, go_sem]) rfl ?_
  exact ⟨rfl, below_alloc2 _ _ _⟩
theorem pa_any (t k o a q p : Int) (ad : Option Addr) (n c : Nat) (zs : List Int) (w : World) (hr : Row w ad n zs) (hn : (n : Int) ≤ 9223372036854700000) :
    Calls Tryd.prog 73 #[.agg #[.int .i64 t, .int .i64 k, .int .u64 o, .int .u64 a, .int .i64 q], .slice ad n c, .int .i64 p] w fun e w' =>
      e = .returned (.tuple #[.agg #[.int .i64 t, .int .i64 k, .int .u64 o, .int .u64 (rdAt zs p).1, .int .i64 q], .int .i64 (rdAt zs p).2.1, .int .i64 (rdAt zs p).2.2]) ∧ Below w.heap.size w w' := by
  obtain ⟨W, hW⟩ : ∃ W, W = (w.alloc (.cells #[.int .i64 t, .int .i64 k, .int .u64 o, .int .u64 a, .int .i64 q] 48)).alloc (.cells #[.int .i64 0, .int .i64 0, .int .u64 0, .int .u64 0, .int .i64 0] 48) := ⟨_, rfl⟩
  have hb : Below w.heap.size w W := by rw [hW]; exact below_alloc2 _ _ _
  have HU := ru_any ad n c p zs W (hr.below hb) hn
  generalize rdAt zs p = y at HU ⊢
  obtain ⟨x, p', f⟩ := y
  simp only [out3] at HU
  dsimp only
  go_enter Tryd.func73, Tryd.ntmps73
  go_wp2_with fail
  rw [← hW]
  refine HU.mono ?_
  rintro e w1 ⟨rfl, hw1⟩
  subst hw1
  rw [hW]
  go_wp2_with fail
  refine bodyPost_ret (v := .tuple #[.agg #[.int .i64 t, .int .i64 k, .int .u64 o, .int .u64 x, .int .i64 q], .int .i64 p', .int .i64 f]) (by simp [results, Tryd.results73, go_sem]) rfl ?_
  exact ⟨rfl, below_alloc2 _ _ _⟩
theorem pk_any (t k o a q p : Int) (ad : Option Addr) (n c : Nat) (zs : List Int) (w : World) (hr : Row w ad n zs) (hn : (n : Int) ≤ 9223372036854700000) (hq0 : 0 ≤ q) (hq1 : q ≤ 262144) :
    Calls Tryd.prog 74 #[.agg #[.int .i64 t, .int .i64 k, .int .u64 o, .int .u64 a, .int .i64 q], .slice ad n c, .int .i64 p] w fun e w' =>
      e = .returned (.tuple #[.agg #[.int .i64 t, .int .i64 k, .int .u64 o, .int .u64 a, .int .i64 (pK zs ⟨t, k, o, a, q⟩ p).1.stack], .int .i64 (pK zs ⟨t, k, o, a, q⟩ p).2.1, .int .i64 (pK zs ⟨t, k, o, a, q⟩ p).2.2]) ∧ Below w.heap.size w w' := by
  obtain ⟨W, hW⟩ : ∃ W, W = (w.alloc (.cells #[.int .i64 t, .int .i64 k, .int .u64 o, .int .u64 a, .int .i64 q] 48)).alloc (.cells #[.int .i64 0, .int .i64 0, .int .u64 0, .int .u64 0, .int .i64 0] 48) := ⟨_, rfl⟩
  have hb : Below w.heap.size w W := by rw [hW]; exact below_alloc2 _ _ _
  have HU := rv_any ad n c p zs W (hr.below hb) hn
  have hbd := rdAt_bd zs p hr.u8
  have hzb := zag_bd _ hbd.1 hbd.2.1
  have H1 : Hid ((pK zs ⟨t, k, o, a, q⟩ p).1.stack = wrap64 (q + (rvAt zs p).1)) := hide rfl
  have H2 : Hid ((pK zs ⟨t, k, o, a, q⟩ p).2.1 = (rvAt zs p).2.1) := hide rfl
  have H3 : Hid ((pK zs ⟨t, k, o, a, q⟩ p).2.2 = if (rvAt zs p).2.2 = 0 ∧ ((rvAt zs p).1 < -q ∨ 262144 - q < (rvAt zs p).1) then 71 else (rvAt zs p).2.2) := hide rfl
  have hzz : -9223372036854775808 ≤ (rvAt zs p).1 ∧ (rvAt zs p).1 ≤ 9223372036854775807 := hzb
  generalize (pK zs ⟨t, k, o, a, q⟩ p).1.stack = y1 at H1 ⊢
  generalize (pK zs ⟨t, k, o, a, q⟩ p).2.1 = y2 at H2 ⊢
  generalize (pK zs ⟨t, k, o, a, q⟩ p).2.2 = y3 at H3 ⊢
  clear hbd hzb
  generalize rvAt zs p = y at HU H1 H2 H3 hzz
  obtain ⟨x, p', f⟩ := y
  simp only [out3] at HU
  dsimp only at H1 H2 H3 hzz
  obtain ⟨hx0, hx1⟩ := hzz
  by_cases hf : f = 0
  · subst hf
    by_cases hlo : x < -q
    · have E : Hid (y3 = 71) := hide (by rw [H3.out, if_pos ⟨rfl, .inl hlo⟩])
      have H1' : Hid (y1 = q + x) := hide (by rw [H1.out]; unfold wrap64; omega)
      clear H3 H1
      go_enter Tryd.func74, Tryd.ntmps74
      go_wp2_with fail
      rw [← hW]
      refine HU.mono ?_
      rintro e w1 ⟨rfl, hw1⟩
      subst hw1
      rw [hW]
      go_wp2_with fail
      refine bodyPost_ret (v := .tuple #[.agg #[.int .i64 t, .int .i64 k, .int .u64 o, .int .u64 a, .int .i64 (q + x)], .int .i64 p', .int .i64 71]) (by simp [results, Tryd.results74, go_sem]) rfl ?_
      exact ⟨by rw [H1'.out, H2.out, E.out], below_alloc2 _ _ _⟩
    · by_cases hhi : 262144 - q < x
      · have E : Hid (y3 = 71) := hide (by rw [H3.out, if_pos ⟨rfl, .inr hhi⟩])
        clear H3
        go_enter Tryd.func74, Tryd.ntmps74
        go_wp2_with fail
        rw [← hW]
        refine HU.mono ?_
        rintro e w1 ⟨rfl, hw1⟩
        subst hw1
        rw [hW]
        go_wp2_with fail
        refine bodyPost_ret (v := .tuple #[.agg #[.int .i64 t, .int .i64 k, .int .u64 o, .int .u64 a, .int .i64 (wrap64 (q + x))], .int .i64 p', .int .i64 71]) (by simp [results, Tryd.results74, go_sem]) rfl ?_
        exact ⟨by rw [H1.out, H2.out, E.out], below_alloc2 _ _ _⟩
      · have E : Hid (y3 = 0) := hide (by rw [H3.out, if_neg (by omega)])
        have H1' : Hid (y1 = q + x) := hide (by rw [H1.out]; unfold wrap64; omega)
        clear H3 H1
        go_enter Tryd.func74, Tryd.ntmps74
        go_wp2_with fail
        rw [← hW]
        refine HU.mono ?_
        rintro e w1 ⟨rfl, hw1⟩
        subst hw1
        rw [hW]
        go_wp2_with fail
        refine bodyPost_ret (v := .tuple #[.agg #[.int .i64 t, .int .i64 k, .int .u64 o, .int .u64 a, .int .i64 (q + x)], .int .i64 p', .int .i64 0]) (by simp [results, Tryd.results74, go_sem]) rfl ?_
        exact ⟨by rw [H1'.out, H2.out, E.out], below_alloc2 _ _ _⟩
  · have E : Hid (y3 = f) := hide (by rw [H3.out, if_neg (fun h => hf h.1)])
    have hfb : (f == 0) = false := by simp [hf]
    clear H3 hf
    go_enter Tryd.func74, Tryd.ntmps74
    go_wp2_with fail
    rw [← hW]
    refine HU.mono ?_
    rintro e w1 ⟨rfl, hw1⟩
    subst hw1
    rw [hW]
    go_wp2_with fail
    refine bodyPost_ret (v := .tuple #[.agg #[.int .i64 t, .int .i64 k, .int .u64 o, .int .u64 a, .int .i64 (wrap64 (q + x))], .int .i64 p', .int .i64 f]) (by simp [results, Tryd.results74, go_sem]) rfl ?_
    exact ⟨by rw [H1.out, H2.out, E.out], below_alloc2 _ _ _⟩
end Go.Proofs.YtdppbaipmmcjbaaDoor
