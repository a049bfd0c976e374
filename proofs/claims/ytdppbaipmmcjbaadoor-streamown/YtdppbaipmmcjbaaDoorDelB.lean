/-
  Put, where all is well.
-/
import Derived.Test.YtdppbaipmmcjbaaDoorDelA
import Derived.Deep.DeepCutAuto
import Derived.Deep.AppendLies
import Derived.Laws.CopyOwn
namespace Go.Proofs.YtdppbaipmmcjbaaDoor
open Go.RowKit
theorem own_some {w : World} {base n : Nat} {v : Value} {xs : List Value} (h : w.ownsRow base 5 1 v n xs) (hn : 0 < n) : ∃ g c, v = .slice (some ⟨g, 0, none⟩) n c ∧ base ≤ g ∧ g < w.heap.size := by
  rcases h.2 with ⟨_, e⟩ | ⟨g, cap, cur, e, hb, hh, _⟩
  · omega
  · exact ⟨g, cap, e, hb, (Array.getElem?_eq_some_iff.1 hh).1⟩
/-- 'append(b, c...)', b the call's own, c a row that is not empty; where it lies then. -/
theorem row_lies (w : World) {ops : Array Oper} {rest : List Oper} {oo : Oper} {aa : Act} {Q : Exit → Act → World → Prop} (hgd : oo.guard = none) (s x : Operand)
    (ho : oo.op = .call { callee := .builtin .append, args := #[s, x], argTypes := #[35, 35] }) (base : Nat)
    (v : Value) (n : Nat) (xs : List Int) (hs : aa.eval s = v) (hown : w.ownsRow base 5 1 v n (xs.map (Value.int .u8)))
    (ad : Addr) (m c : Nat) (zs : List Int) (hx : aa.eval x = .slice (some ad) m c) (hr : Row w (some ad) m zs) (hm : 0 < m)
    (hb : n + m ≤ 140737488355328) (hbase : base ≤ w.heap.size)
    (h : ∀ g cap w', w'.ownsRow base 5 1 (.slice (some ⟨g, 0, none⟩) (n + m) cap) (n + m) ((xs ++ zs).map (Value.int .u8)) → w.grownBy w' v.ownBlock → (v.ownBlock = some g ∨ g = w.heap.size) → wpList Tryd.prog ops Q rest (aa.put oo.dst (.slice (some ⟨g, 0, none⟩) (n + m) cap)) w') : wpList Tryd.prog ops Q (oo :: rest) aa w := by
  obtain ⟨i0, hi, hz0, hz1, hz2⟩ := info_parts Tryd.info5
  refine wpList_append_lies w hgd s x 35 ho base 5 i0 (.int .u8 0) 1 1 Tryd.underlying35 hi hz0 hz1 hz2 rfl (by decide) v n _ hs hown ad m c (zs.map (Value.int .u8)) hx (by have := hr.len; simpa using this) (row_cells hr) (ints_oneCell _ _) hm (by unfold maxLen; omega) (by omega) hbase _ rfl ?_
  intro g cap w' h1 h2 h3 _
  exact h g cap w' (by rw [List.map_append]; exact h1) h2 h3
/-- The same at a step of a region that draws its order. -/
theorem step_row (w : World) {ops : Array Oper} {oo : Oper} {aa : Act} {K : Act → World → Prop} {Q : Exit → Act → World → Prop} {E : Prop} (hgd : oo.guard = none) (s x : Operand)
    (ho : oo.op = .call { callee := .builtin .append, args := #[s, x], argTypes := #[35, 35] }) (base : Nat)
    (v : Value) (n : Nat) (xs : List Int) (hs : aa.eval s = v) (hown : w.ownsRow base 5 1 v n (xs.map (Value.int .u8)))
    (ad : Addr) (m c : Nat) (zs : List Int) (hx : aa.eval x = .slice (some ad) m c) (hr : Row w (some ad) m zs) (hm : 0 < m)
    (hb : n + m ≤ 140737488355328) (hbase : base ≤ w.heap.size)
    (h : ∀ g cap w', w'.ownsRow base 5 1 (.slice (some ⟨g, 0, none⟩) (n + m) cap) (n + m) ((xs ++ zs).map (Value.int .u8)) → w.grownBy w' v.ownBlock → (v.ownBlock = some g ∨ g = w.heap.size) → K (aa.put oo.dst (.slice (some ⟨g, 0, none⟩) (n + m) cap)) w') :
    if Region.wanted oo (yielded ops aa.tmps) = true then Oper.wp Tryd.prog oo aa w K Q else E := by
  obtain ⟨i0, hi, hz0, hz1, hz2⟩ := info_parts Tryd.info5
  refine step_append_lies w hgd s x 35 ho base 5 i0 (.int .u8 0) 1 1 Tryd.underlying35 hi hz0 hz1 hz2 rfl (by decide) v n _ hs hown ad m c (zs.map (Value.int .u8)) hx (by have := hr.len; simpa using this) (row_cells hr) (ints_oneCell _ _) hm (by unfold maxLen; omega) (by omega) hbase _ rfl ?_
  intro g cap w' h1 h2 h3 _
  exact h g cap w' (by rw [List.map_append]; exact h1) h2 h3
/-- A list of one byte that was just written out. -/
theorem own_lit {w : World} {g base : Nat} {k : Int} (hg : w.heap[g]? = some (.cells #[.int .u8 k] 5 (0, 0))) (hb : base ≤ g) : w.ownsRow base 5 1 (.slice (some ⟨g, 0, none⟩) 1 1) 1 ([k].map (Value.int .u8)) :=
  ⟨rfl, .inr ⟨g, 1, #[.int .u8 k], rfl, hb, hg, Nat.le_refl _, by unfold maxLen; omega, rfl, rfl⟩⟩
theorem own_lit8 {w : World} {g base : Nat} {k : Int} (hk : IntKind.u8.wrap k = k) (hg : w.heap[g]? = some (.cells #[.int .u8 (IntKind.u8.wrap k)] 5 (0, 0))) (hb : base ≤ g) : w.ownsRow base 5 1 (.slice (some ⟨g, 0, none⟩) 1 1) 1 ([k].map (Value.int .u8)) := by
  rw [hk] at hg; exact own_lit hg hb
/-- What has been written so far. -/
def PR (W : World) (L : List Int) (b : Value) (wx : World) : Prop := ∃ g c n, b = .slice (some ⟨g, 0, none⟩) n c ∧ n = L.length ∧ W.heap.size ≤ g ∧ wx.ownsRow W.heap.size 5 1 b n (L.map (Value.int .u8)) ∧ Below W.heap.size W wx
theorem heap_new (w : World) (o : Obj) : (w.alloc o).heap[w.heap.size]? = some o := heap_alloc_new w o
theorem uv_u8 (x : Nat) : ∀ i : Nat, 0 ≤ (enc x)[i]?.getD 0 ∧ (enc x)[i]?.getD 0 ≤ 255 := u8_of_mem (enc_mem x)
theorem grown_below {W w w' : World} {v : Value} {g : Nat} (hB : Below W.heap.size W w) (hg : w.grownBy w' v.ownBlock) (hv : v.ownBlock = some g) (hW : W.heap.size ≤ g) : Below W.heap.size W w' :=
  hB.grown hg hB.size (fun k hk => by rw [hv] at hk; cases hk; exact hW)
theorem lies_ge {v : Value} {g h B H : Nat} (hl : v.ownBlock = some g ∨ g = H) (hv : v.ownBlock = some h) (h1 : B ≤ h) (h2 : B ≤ H) : B ≤ g := by
  rcases hl with e | e
  · rw [hv] at e; cases e; exact h1
  · rw [e]; exact h2
theorem own_below {w w' : World} {base : Nat} {e : TypeId} {size n : Nat} {v : Value} {xs : List Value} (h : w.ownsRow base e size v n xs) (hb : Below w.heap.size w w') : w'.ownsRow base e size v n xs := by
  obtain ⟨h1, h2⟩ := h
  refine ⟨h1, h2.imp id ?_⟩
  rintro ⟨g, cap, cur, rfl, hg, hh, r⟩
  exact ⟨g, cap, cur, rfl, hg, (hb.block g (Array.getElem?_eq_some_iff.1 hh).1).trans hh, r⟩
theorem own_setRow {w : World} {base : Nat} {e : TypeId} {size n b : Nat} {v : Value} {xs : List Value} (h : w.ownsRow base e size v n xs) (hv : v.ownBlock ≠ some b) (cs : Array Value) : (w.setRow b cs).ownsRow base e size v n xs := by
  obtain ⟨h1, h2⟩ := h
  refine ⟨h1, h2.imp id ?_⟩
  rintro ⟨g, cap, cur, rfl, hg, hh, r⟩
  exact ⟨g, cap, cur, rfl, hg, (setRow_other w b g cs (fun e => hv (by rw [← e]; rfl))).trans hh, r⟩
theorem results_tct {P : Program} {fn : Func} {t p u : Tmp} {ty : TypeId} (h : fn.results = #[.tmp t, .cell p ty, .tmp u]) (tmps : Array Value) (w : World) (g : Nat) (ty' : TypeId) (cs : Array Value) (fr : Nat × Nat) (d : TypeDesc)
    (hp : tmps.getD p undef = .pointer (some ⟨g, 0, none⟩)) (hg : w.heap[g]? = some (.cells cs ty' fr))
    (hu : P.underlying ty = some d) (hd : (match d with | .struct _ | .array _ _ => true | _ => false) = true) (hi : (P.info? ty).map (·.size) = some cs.size) :
    (results fn tmps).run P w = .ok (.tuple #[tmps.getD t undef, .agg cs, tmps.getD u undef]) w := by
  have hp' : tmps[p]?.getD undef = .pointer (some ⟨g, 0, none⟩) := by simpa using hp
  simp [results, h, hp', asAddr, run_loadVar_row w g ty' ty cs fr d hg hu hd hi]
theorem st_one (t o q : Int) : (#[.int .i64 t, .int .u64 o, .int .i64 q] : Array Value).all (·.oneCell') = true := by simp [Value.oneCell']
theorem rc_one (t k o a q : Int) : (#[.int .i64 t, .int .i64 k, .int .u64 o, .int .u64 a, .int .i64 q] : Array Value).all (·.oneCell') = true := by simp [Value.oneCell']
theorem Tryd.sizeS : (Tryd.prog.info? 69).map (·.size) = some 3 := by kernel_rfl
theorem Tryd.sizeR : (Tryd.prog.info? 48).map (·.size) = some 5 := by kernel_rfl
theorem fx_O (s : St) (r : Rc) : (r.obj = s.obj ∧ fO s r = 0 ∧ xO s r = []) ∨ (¬ r.obj = s.obj ∧ fO s r = 32 ∧ xO s r = enc (diff s.obj r.obj).toNat) := by
  unfold fO xO; by_cases h : r.obj = s.obj <;> simp [h]
theorem fx_A (r : Rc) : (r.arg = 0 ∧ fA r = 0 ∧ xA r = []) ∨ (¬ r.arg = 0 ∧ fA r = 64 ∧ xA r = enc r.arg.toNat) := by
  unfold fA xA; by_cases h : r.arg = 0 <;> simp [h]
theorem fx_K (s : St) (r : Rc) : (r.stack = s.stack ∧ fK s r = 0 ∧ xK s r = []) ∨ (¬ r.stack = s.stack ∧ fK s r = 128 ∧ xK s r = enc (zig (r.stack - s.stack)).toNat) := by
  unfold fK xK; by_cases h : r.stack = s.stack <;> simp [h]
theorem pr_same {W : World} {L L' : List Int} {b : Value} {wx : World} (h : PR W L b wx) (e : L' = L) : PR W L' b wx := e ▸ h
/-- The first byte is written anew, and the list goes on. -/
theorem pr_more {W : World} {n m g c : Nat} {x y : Int} {l z : List Int} {w2 : World} (hl : (x :: l).length = n) (hm : z.length = m) (hg : W.heap.size ≤ g) (ho : w2.ownsRow W.heap.size 5 1 (.slice (some ⟨g, 0, none⟩) (n + m) c) (n + m) (((y :: l) ++ z).map (Value.int .u8))) (hB : Below W.heap.size W w2) : PR W (y :: (l ++ z)) (.slice (some ⟨g, 0, none⟩) (n + m) c) w2 :=
  ⟨g, c, n + m, rfl, by rw [← hl, ← hm]; simp; omega, hg, ho, hB⟩
set_option maxHeartbeats 1600000 in
theorem put_ok (S O K t k o a q : Int) (w : World) (hK : Kn w) (hw : 0 < w.heap.size) (h : putE ⟨S, O, K⟩ ⟨t, k, o, a, q⟩ = 0) (ha0 : 0 ≤ a) (ha1 : a ≤ 18446744073709551615) :
    Calls Tryd.prog 48 #[.agg #[.int .i64 S, .int .u64 O, .int .i64 K], .agg #[.int .i64 t, .int .i64 k, .int .u64 o, .int .u64 a, .int .i64 q]] w fun e w' =>
      ∃ v n, e = .returned (.tuple #[v, .agg #[.int .i64 (t + 1), .int .u64 o, .int .i64 q], .int .i64 0]) ∧ n = (text ⟨S, O, K⟩ ⟨t, k, o, a, q⟩).length ∧ w'.ownsRow w.heap.size 5 1 v n ((text ⟨S, O, K⟩ ⟨t, k, o, a, q⟩).map (Value.int .u8)) ∧ Below w.heap.size w w' := by
  have hp := putE_ok h
  have HP := pf_any S O K t k o a q
  rw [h] at HP
  dsimp only at hp
  obtain ⟨p1, p2, p3, p4, p5, p6, p7, p8, p9⟩ := hp
  obtain ⟨W, hW⟩ : ∃ W, W = ((w.alloc (.cells #[.int .i64 S, .int .u64 O, .int .i64 K] 69)).alloc (.cells #[.int .i64 t, .int .i64 k, .int .u64 o, .int .u64 a, .int .i64 q] 48)).alloc (.cells #[.int .i64 0, .int .u64 0, .int .i64 0] 69) := ⟨_, rfl⟩
  have hb : Below w.heap.size w W := by rw [hW]; exact (below_alloc2 _ _ _).alloc (by simp; omega) _
  have hsz : W.heap.size = w.heap.size + 3 := by rw [hW]; simp
  have s0 : W.cell? ⟨w.heap.size, 0, none⟩ = some (.int .i64 S) := by rw [hW]; go_simp
  have s1 : W.cell? ⟨w.heap.size, 1, none⟩ = some (.int .u64 O) := by rw [hW]; go_simp
  have s2 : W.cell? ⟨w.heap.size, 2, none⟩ = some (.int .i64 K) := by rw [hW]; go_simp
  have t0 : W.cell? ⟨w.heap.size + 1, 0, none⟩ = some (.int .i64 t) := by rw [hW]; go_simp
  have t1 : W.cell? ⟨w.heap.size + 1, 1, none⟩ = some (.int .i64 k) := by rw [hW]; go_simp
  have t2 : W.cell? ⟨w.heap.size + 1, 2, none⟩ = some (.int .u64 o) := by rw [hW]; go_simp
  have t3 : W.cell? ⟨w.heap.size + 1, 3, none⟩ = some (.int .u64 a) := by rw [hW]; go_simp
  have t4 : W.cell? ⟨w.heap.size + 1, 4, none⟩ = some (.int .i64 q) := by rw [hW]; go_simp
  have LZ : W.heap[w.heap.size + 2]? = some (.cells #[.int .i64 0, .int .u64 0, .int .i64 0] 69 (0, 0)) := by
    rw [hW, show w.heap.size + 2 = ((w.alloc (.cells #[.int .i64 S, .int .u64 O, .int .i64 K] 69)).alloc (.cells #[.int .i64 t, .int .i64 k, .int .u64 o, .int .u64 a, .int .i64 q] 48)).heap.size from by simp]
    exact heap_new _ _
  have HPW := HP W (hK.below hb hw) (by omega)
  have HX : Hid (text ⟨S, O, K⟩ ⟨t, k, o, a, q⟩ = (k + fO ⟨S, O, K⟩ ⟨t, k, o, a, q⟩ + fA ⟨t, k, o, a, q⟩ + fK ⟨S, O, K⟩ ⟨t, k, o, a, q⟩) :: (enc (t - S).toNat ++ xO ⟨S, O, K⟩ ⟨t, k, o, a, q⟩ ++ xA ⟨t, k, o, a, q⟩ ++ xK ⟨S, O, K⟩ ⟨t, k, o, a, q⟩)) := hide rfl
  have FO : Hid _ := hide (fx_O ⟨S, O, K⟩ ⟨t, k, o, a, q⟩)
  have FA : Hid _ := hide (fx_A ⟨t, k, o, a, q⟩)
  have FK : Hid _ := hide (fx_K ⟨S, O, K⟩ ⟨t, k, o, a, q⟩)
  dsimp only at FO FA FK
  generalize fO ⟨S, O, K⟩ ⟨t, k, o, a, q⟩ = f1 at HX FO
  generalize fA ⟨t, k, o, a, q⟩ = f2 at HX FA
  generalize fK ⟨S, O, K⟩ ⟨t, k, o, a, q⟩ = f3 at HX FK
  generalize xO ⟨S, O, K⟩ ⟨t, k, o, a, q⟩ = x1 at HX FO
  generalize xA ⟨t, k, o, a, q⟩ = x2 at HX FA
  generalize xK ⟨S, O, K⟩ ⟨t, k, o, a, q⟩ = x3 at HX FK
  generalize text ⟨S, O, K⟩ ⟨t, k, o, a, q⟩ = T at HX ⊢
  have HDf := diff_bd O o
  have HZk := zig_stk p8 p9 p4 p5
  have HE0 := xS_len h
  dsimp only at HE0
  have HE1 : Hid _ := hide HE0
  clear h HE0
  generalize hE0 : enc (t - S).toNat = E0 at HX HE1
  have HX1 : Hid (x1.length ≤ 10 ∧ (f1 = 0 ∨ f1 = 32)) := by
    rcases FO.out with ⟨_, h1, h2⟩ | ⟨_, h1, h2⟩
    · rw [h1, h2]; exact hide ⟨by simp, .inl rfl⟩
    · rw [h1, h2]; exact hide ⟨enc_le _ (by omega), .inr rfl⟩
  have HX2 : Hid (x2.length ≤ 10 ∧ (f2 = 0 ∨ f2 = 64)) := by
    rcases FA.out with ⟨_, h1, h2⟩ | ⟨_, h1, h2⟩
    · rw [h1, h2]; exact hide ⟨by simp, .inl rfl⟩
    · rw [h1, h2]; exact hide ⟨enc_le _ (by omega), .inr rfl⟩
  go_enter Tryd.func48, Tryd.ntmps48
  go_wp2_with fail
  rw [← hW]
  refine HPW.mono ?_
  rintro e w1 ⟨rfl, hb1⟩
  clear hW HP HPW
  have d0 := (hb1.cell (p := ⟨w.heap.size, 0, none⟩) (by simp; omega)).trans s0
  have y0 := (hb1.cell (p := ⟨w.heap.size + 1, 0, none⟩) (by simp; omega)).trans t0
  have y1 := (hb1.cell (p := ⟨w.heap.size + 1, 1, none⟩) (by simp; omega)).trans t1
  have HWr : Hid (IntKind.u64.wrap (IntKind.i64.wrap (t - S)) = t - S) := hide (by rw [IntKind.wrap_i64, IntKind.wrap_u64]; omega)
  have HK8 : Hid (IntKind.u8.wrap k = k) := hide (wraps_u8 k (by omega) (by omega))
  go_upto_region 4 with fail
  go_cut [8] (fun b wx => PR W (k :: E0) b wx)
  case first =>
    have HS : Hid _ := hide (fun W' (hB : Below W.heap.size W W') => (And.intro ((hB.cell (p := ⟨w.heap.size, 0, none⟩) (by simp; omega)).trans s0) (And.intro ((hB.cell (p := ⟨w.heap.size + 1, 0, none⟩) (by simp; omega)).trans t0) ((hB.cell (p := ⟨w.heap.size + 1, 1, none⟩) (by simp; omega)).trans t1))))
    have hsb := hb1.size
    subst hE0
    have hel := enc_pos (t - S).toNat
    have hel2 := enc_le (t - S).toNat (by omega)
    clear d0 y0 y1 s0 s1 s2 t0 t1 t2 t3 t4
    go_region_held3 (fun W' => W'.cell? ⟨w.heap.size, 0, none⟩ = some (.int .i64 S) ∧ W'.cell? ⟨w.heap.size + 1, 0, none⟩ = some (.int .i64 t) ∧ W'.cell? ⟨w.heap.size + 1, 1, none⟩ = some (.int .i64 k)) (first | exact HS.out _ B3 | exact HS.out _ B2 | exact HS.out _ (B2.alloc B2.size _) | exact HS.out _ hb1.drew | exact HS.out _ (hb1.alloc hb1.size _).drew | fail) (first
      | (go_at_call 63; rw [HWr.out]; refine (uv_any (t - S) _ (by omega) (by omega)).mono ?_; rintro e w2 ⟨c2, rfl, hown2, hb2⟩; first
        | (have B2 : Below W.heap.size W w2 := (hb1.alloc hb1.size _).drew.trans (hb2.mono (by simp; omega)); have HLA : Hid _ := hide (own_lit8 HK8.out ((hb2.block w1.heap.size (by simp)).trans (heap_new w1 _)) hsb); have R2 := own_row_u8 hown2 (uv_u8 _); rw [show (w1.alloc _).drew.heap.size = w1.heap.size + 1 from by simp] at R2)
        | (have B2 : Below W.heap.size W w2 := hb1.drew.trans (hb2.mono hsb); have R2 := own_row_u8 hown2 (uv_u8 _)))
      | (refine step_row w2 rfl (.tmp 19) (.tmp 26) rfl W.heap.size _ 1 [k] rfl HLA.out _ _ _ (enc (t - S).toNat) rfl R2 hel (by omega) B2.size ?_; intro g c3 w3 hown3 hg3 hl3; have B3 := grown_below B2 hg3 rfl hsb; have G3 := lies_ge hl3 rfl hsb B2.size)
      | (refine step_row (w2.alloc (.cells #[.int .u8 (IntKind.u8.wrap k)] 5)) rfl (.tmp 19) (.tmp 26) rfl W.heap.size _ 1 [k] rfl (own_lit8 HK8.out (heap_new w2 _) B2.size) _ _ _ (enc (t - S).toNat) rfl (R2.below (below_alloc1 _ _)) hel (by omega) (by simp; have := B2.size; omega) ?_; intro g c3 w3 hown3 hg3 hl3; have B3 := grown_below (B2.alloc B2.size _) hg3 rfl B2.size; have G3 := lies_ge hl3 rfl B2.size (by simp; have := B2.size; omega)))
    all_goals (go_wp2_with fail; go_meet; exact ⟨g, c3, _, rfl, by simp; omega, G3, hown3, B3⟩)
  case rest =>
  obtain ⟨g1, c1, n1, rfl, hn1, hg1, hown1, B1⟩ := hcut
  have HN1 : Hid _ := hide hn1
  clear hn1 d0 y0 y1 hb1
  have e1_0 := (B1.cell (p := ⟨w.heap.size + 1, 2, none⟩) (by simp; omega)).trans t2
  have e1_1 := (B1.cell (p := ⟨w.heap.size, 1, none⟩) (by simp; omega)).trans s1
  go_upto_if 32 with fail
  go_cut [8] (fun b wx => PR W ((k + f1) :: (E0 ++ x1)) b wx)
  case first =>
    rcases FO.out with ⟨hq, hf, hx⟩ | ⟨hq, hf, hx⟩
    · have hqb : (o != O) = false := by simp [hq]
      have P : Hid _ := hide (pr_same (L' := (k + f1) :: (E0 ++ x1)) (b := .slice (some ⟨g1, 0, none⟩) n1 c1) ⟨g1, c1, n1, rfl, HN1.out, hg1, hown1, B1⟩ (by rw [hf, hx]; simp))
      clear hf hx
      go_wp2_with fail
      go_meet
      exact P.out
    · have hqb : (o != O) = true := by simp [hq]
      have Hf := hide hf
      have Hx := hide hx
      have hlen : ((k) :: (E0)).length = n1 := HN1.out.symm
      have hn0 : (0 : Int) < (n1 : Int) := by rw [← hlen]; simp only [List.length_cons]; omega
      have hn1 : n1 ≤ 1000 := by rw [← hlen]; have h1 := HE1.out; simp only [List.length_cons]; omega
      have hcr : wc.cell? ⟨g1, 0, none⟩ = some (.int .u8 (k)) := hown1.cellAt 0 (by omega)
      have hfr := hown1.frozenAt 0
      have hst : (wc.setCell ⟨g1, 0, none⟩ (.int .u8 (bits .or .u8 (k) 32))).ownsRow W.heap.size 5 1 (.slice (some ⟨g1, 0, none⟩) n1 c1) n1 ((((k) + 32) :: (E0)).map (Value.int .u8)) := by
        have h := (hown1.stored 0 (.int .u8 (bits .or .u8 (k) 32))).1
        rw [or_32 (k) (by omega) (by omega)] at h ⊢
        exact h
      have hBs := B1.setCell (p := ⟨g1, 0, none⟩) hg1 (.int .u8 (bits .or .u8 (k) 32))
      have HO := hide hst
      have HB := hide hBs
      clear hf hx hst hBs hlen
      have hne0 : ¬ g1 = w.heap.size := by omega
      have hne1 : ¬ g1 = w.heap.size + 1 := by omega
      have hne0' : ¬ w.heap.size = g1 := by omega
      have hne1' : ¬ w.heap.size + 1 = g1 := by omega
      go_wp2_with fail
      generalize wc.setCell ⟨g1, 0, none⟩ (.int .u8 (bits .or .u8 (k) 32)) = W2 at HO HB ⊢
      refine (diff_any O o W2).mono ?_
      rintro e w2 ⟨rfl, rfl⟩
      go_wp2_with fail
      refine (uv_any _ _ HDf.1 HDf.2).mono ?_
      rintro e w3 ⟨c3, rfl, hown3, hb3⟩
      go_wp2_with (at_builtin; refine row_lies w3 rfl (.tmp 38) (.tmp 44) rfl W.heap.size _ n1 (((k) + 32) :: (E0)) rfl (own_below HO.out hb3) _ _ _ (enc (diff O o).toNat) rfl (own_row_u8 hown3 (uv_u8 _)) (enc_pos _) (by have := enc_le (diff O o).toNat (by omega); omega) (by have := HB.out.size; have := hb3.size; omega) ?_; intro g4 c4 w4 hown4 hg4 hl4)
      go_meet
      rw [Hf.out, Hx.out]
      have B3 := HB.out.trans (hb3.mono HB.out.size)
      exact pr_more HN1.out.symm rfl (lies_ge hl4 rfl hg1 B3.size) hown4 (grown_below B3 hg4 rfl hg1)
  case rest =>
  obtain ⟨g2, c2, n2, rfl, hn2, hg2, hown2, B2⟩ := hcut
  have HN2 : Hid _ := hide hn2
  clear hn2 e1_0 e1_1
  have e2_0 := (B2.cell (p := ⟨w.heap.size + 1, 3, none⟩) (by simp; omega)).trans t3
  go_upto_if 48 with fail
  go_cut [8] (fun b wx => PR W ((k + f1 + f2) :: (E0 ++ x1 ++ x2)) b wx)
  case first =>
    rcases FA.out with ⟨hq, hf, hx⟩ | ⟨hq, hf, hx⟩
    · have hqb : (a != 0) = false := by simp [hq]
      have P : Hid _ := hide (pr_same (L' := (k + f1 + f2) :: (E0 ++ x1 ++ x2)) (b := .slice (some ⟨g2, 0, none⟩) n2 c2) ⟨g2, c2, n2, rfl, HN2.out, hg2, hown2, B2⟩ (by rw [hf, hx]; simp))
      clear hf hx
      go_wp2_with fail
      go_meet
      exact P.out
    · have hqb : (a != 0) = true := by simp [hq]
      have Hf := hide hf
      have Hx := hide hx
      have hlen : ((k + f1) :: (E0 ++ x1)).length = n2 := HN2.out.symm
      have hn0 : (0 : Int) < (n2 : Int) := by rw [← hlen]; simp only [List.length_cons]; omega
      have hn1 : n2 ≤ 1000 := by rw [← hlen]; have h1 := HE1.out; have h2 := HX1.out; simp only [List.length_cons, List.length_append]; omega
      have hcr : wc.cell? ⟨g2, 0, none⟩ = some (.int .u8 (k + f1)) := hown2.cellAt 0 (by omega)
      have hfr := hown2.frozenAt 0
      have hst : (wc.setCell ⟨g2, 0, none⟩ (.int .u8 (bits .or .u8 (k + f1) 64))).ownsRow W.heap.size 5 1 (.slice (some ⟨g2, 0, none⟩) n2 c2) n2 ((((k + f1) + 64) :: (E0 ++ x1)).map (Value.int .u8)) := by
        have h := (hown2.stored 0 (.int .u8 (bits .or .u8 (k + f1) 64))).1
        rw [or_64 (k + f1) (by have := HX1.out; omega) (by have := HX1.out; omega)] at h ⊢
        exact h
      have hBs := B2.setCell (p := ⟨g2, 0, none⟩) hg2 (.int .u8 (bits .or .u8 (k + f1) 64))
      have HO := hide hst
      have HB := hide hBs
      clear hf hx hst hBs hlen
      have hne0 : ¬ g2 = w.heap.size := by omega
      have hne1 : ¬ g2 = w.heap.size + 1 := by omega
      have hne0' : ¬ w.heap.size = g2 := by omega
      have hne1' : ¬ w.heap.size + 1 = g2 := by omega
      go_wp2_with fail
      generalize wc.setCell ⟨g2, 0, none⟩ (.int .u8 (bits .or .u8 (k + f1) 64)) = W2 at HO HB ⊢
      refine (uv_any _ _ ha0 ha1).mono ?_
      rintro e w3 ⟨c3, rfl, hown3, hb3⟩
      go_wp2_with (at_builtin; refine row_lies w3 rfl (.tmp 54) (.tmp 57) rfl W.heap.size _ n2 (((k + f1) + 64) :: (E0 ++ x1)) rfl (own_below HO.out hb3) _ _ _ (enc a.toNat) rfl (own_row_u8 hown3 (uv_u8 _)) (enc_pos _) (by have := enc_le a.toNat (by omega); omega) (by have := HB.out.size; have := hb3.size; omega) ?_; intro g4 c4 w4 hown4 hg4 hl4)
      go_meet
      rw [Hf.out, Hx.out]
      have B3 := HB.out.trans (hb3.mono HB.out.size)
      exact pr_more HN2.out.symm rfl (lies_ge hl4 rfl hg2 B3.size) hown4 (grown_below B3 hg4 rfl hg2)
  case rest =>
  obtain ⟨g3, c3, n3, rfl, hn3, hg3, hown3, B3⟩ := hcut
  have HN3 : Hid _ := hide hn3
  clear hn3 e2_0
  have e3_0 := (B3.cell (p := ⟨w.heap.size + 1, 4, none⟩) (by simp; omega)).trans t4
  have e3_1 := (B3.cell (p := ⟨w.heap.size, 2, none⟩) (by simp; omega)).trans s2
  go_upto_if 63 with fail
  go_cut [8] (fun b wx => PR W ((k + f1 + f2 + f3) :: (E0 ++ x1 ++ x2 ++ x3)) b wx)
  case first =>
    rcases FK.out with ⟨hq, hf, hx⟩ | ⟨hq, hf, hx⟩
    · have hqb : (q != K) = false := by simp [hq]
      have P : Hid _ := hide (pr_same (L' := (k + f1 + f2 + f3) :: (E0 ++ x1 ++ x2 ++ x3)) (b := .slice (some ⟨g3, 0, none⟩) n3 c3) ⟨g3, c3, n3, rfl, HN3.out, hg3, hown3, B3⟩ (by rw [hf, hx]; simp))
      clear hf hx
      go_wp2_with fail
      go_meet
      exact P.out
    · have hqb : (q != K) = true := by simp [hq]
      have Hf := hide hf
      have Hx := hide hx
      have hlen : ((k + f1 + f2) :: (E0 ++ x1 ++ x2)).length = n3 := HN3.out.symm
      have hn0 : (0 : Int) < (n3 : Int) := by rw [← hlen]; simp only [List.length_cons]; omega
      have hn1 : n3 ≤ 1000 := by rw [← hlen]; have h1 := HE1.out; have h2 := HX1.out; have h3 := HX2.out; simp only [List.length_cons, List.length_append]; omega
      have hcr : wc.cell? ⟨g3, 0, none⟩ = some (.int .u8 (k + f1 + f2)) := hown3.cellAt 0 (by omega)
      have hfr := hown3.frozenAt 0
      have hst : (wc.setCell ⟨g3, 0, none⟩ (.int .u8 (bits .or .u8 (k + f1 + f2) 128))).ownsRow W.heap.size 5 1 (.slice (some ⟨g3, 0, none⟩) n3 c3) n3 ((((k + f1 + f2) + 128) :: (E0 ++ x1 ++ x2)).map (Value.int .u8)) := by
        have h := (hown3.stored 0 (.int .u8 (bits .or .u8 (k + f1 + f2) 128))).1
        rw [or_top (k + f1 + f2) (by have := HX1.out; have := HX2.out; omega) (by have := HX1.out; have := HX2.out; omega)] at h ⊢
        exact h
      have hBs := B3.setCell (p := ⟨g3, 0, none⟩) hg3 (.int .u8 (bits .or .u8 (k + f1 + f2) 128))
      have HO := hide hst
      have HB := hide hBs
      clear hf hx hst hBs hlen
      have hne0 : ¬ g3 = w.heap.size := by omega
      have hne1 : ¬ g3 = w.heap.size + 1 := by omega
      have hne0' : ¬ w.heap.size = g3 := by omega
      have hne1' : ¬ w.heap.size + 1 = g3 := by omega
      go_wp2_with fail
      generalize wc.setCell ⟨g3, 0, none⟩ (.int .u8 (bits .or .u8 (k + f1 + f2) 128)) = W2 at HO HB ⊢
      refine (vr_any _ _ (by omega) (by omega)).mono ?_
      rintro e w3 ⟨c3, rfl, hown3, hb3⟩
      go_wp2_with (at_builtin; refine row_lies w3 rfl (.tmp 69) (.tmp 75) rfl W.heap.size _ n3 (((k + f1 + f2) + 128) :: (E0 ++ x1 ++ x2)) rfl (own_below HO.out hb3) _ _ _ (enc (zig (q - K)).toNat) rfl (own_row_u8 hown3 (uv_u8 _)) (enc_pos _) (by have := enc_le (zig (q - K)).toNat (by omega); omega) (by have := HB.out.size; have := hb3.size; omega) ?_; intro g4 c4 w4 hown4 hg4 hl4)
      go_meet
      rw [Hf.out, Hx.out]
      have B3 := HB.out.trans (hb3.mono HB.out.size)
      exact pr_more HN3.out.symm rfl (lies_ge hl4 rfl hg3 B3.size) hown4 (grown_below B3 hg4 rfl hg3)
  case rest =>
  obtain ⟨g4, c4, n4, rfl, hn4, hg4, hown4, B4⟩ := hcut
  have HN4 : Hid _ := hide hn4
  clear hn4 e3_0 e3_1
  have z0 := (B4.cell (p := ⟨w.heap.size + 1, 0, none⟩) (by simp; omega)).trans t0
  have z1 := (B4.cell (p := ⟨w.heap.size + 1, 1, none⟩) (by simp; omega)).trans t1
  have z2 := (B4.cell (p := ⟨w.heap.size + 1, 2, none⟩) (by simp; omega)).trans t2
  have z3 := (B4.cell (p := ⟨w.heap.size + 1, 3, none⟩) (by simp; omega)).trans t3
  have z4 := (B4.cell (p := ⟨w.heap.size + 1, 4, none⟩) (by simp; omega)).trans t4
  go_wp2_with fail
  refine (bh_any t k o a q wc (by omega) (by omega)).mono ?_
  rintro e w5 ⟨rfl, hb5⟩
  have B5 := B4.trans (hb5.mono B4.size)
  have LZ5 : w5.heap[w.heap.size + 1 + 1]? = some (.cells #[.int .i64 0, .int .u64 0, .int .i64 0] 69 (0, 0)) := (B5.block (w.heap.size + 2) (by omega)).trans LZ
  have O5 := own_below hown4 hb5
  go_wp2_with (refine wpList_store_row rfl 69 (.tmp 5) (.tmp 79) rfl (w.heap.size + 1 + 1) #[.int .i64 (t + 1), .int .u64 o, .int .i64 q] rfl rfl 69 #[.int .i64 0, .int .u64 0, .int .i64 0] LZ5 Tryd.sizeS rfl (st_one _ _ _) ?_)
  (try simp only [Exit.inBlock, Exit.then])
  refine bodyPost_ret (v := .tuple #[.slice (some ⟨g4, 0, none⟩) n4 c4, .agg #[.int .i64 (t + 1), .int .u64 o, .int .i64 q], .int .i64 0]) (by exact results_tct Tryd.results48 _ _ (w.heap.size + 1 + 1) 69 #[.int .i64 (t + 1), .int .u64 o, .int .i64 q] (0, 0) _ rfl (setRow_heap _ _ _ _ _ _ LZ5) Tryd.underlying69 rfl Tryd.sizeS) rfl ?_
  refine ⟨_, n4, rfl, by rw [HX.out]; exact HN4.out, ?_, below_setRow (hb.trans (B5.mono hb.size)) (by omega) _⟩
  rw [HX.out]
  exact own_mono (own_setRow O5 (fun e => by have h9 : g4 = w.heap.size + 1 + 1 := Option.some.inj e; omega) _) hb.size
end Go.Proofs.YtdppbaipmmcjbaaDoor
