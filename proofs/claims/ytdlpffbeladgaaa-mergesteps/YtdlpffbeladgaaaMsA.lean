/-
  A merger and the document's beside it, in memory.
-/
import Derived.Test.YtdlpffbeladgaaaMgK
namespace Go.Proofs.Ytdlpffbeladgaaa
open Go.RowKit
set_option maxRecDepth 8000 in
theorem rnext_nil (w : World) : Calls Try.prog 17 #[.pointer none] w fun r w' => r = .returned (.tuple #[.agg #[.int .i64 0, .int .i64 0, .int .u64 0, .int .u64 0, .slice none 0 0], .int .i64 0, .int .i64 1]) ∧ Below w.heap.size w w' := by
  obtain ⟨w2, hw2⟩ : ∃ w2, w2 = (w.alloc (.cells #[.int .i64 0, .int .i64 0, .int .u64 0, .int .u64 0, .slice none 0 0] 46)).alloc (.cells #[.int .i64 0, .int .i64 0, .int .u64 0, .int .u64 0, .slice none 0 0] 46) := ⟨_, rfl⟩
  have b2 : Below w.heap.size w w2 := by rw [hw2]; exact below_alloc2 _ _ _
  have r0 : w2.heap[w.heap.size]? = some (.cells #[.int .i64 0, .int .i64 0, .int .u64 0, .int .u64 0, .slice none 0 0] 46 (0, 0)) := by rw [hw2]; exact heap_old (heap_new _ _)
  have r1 : w2.heap[w.heap.size + 1]? = some (.cells #[.int .i64 0, .int .i64 0, .int .u64 0, .int .u64 0, .slice none 0 0] 46 (0, 0)) := by rw [hw2]; exact heap_new2 _ _ _
  have e0 : w2.cell? ⟨w.heap.size + 1, 0, none⟩ = some (.int .i64 0) := cell_at r1 rfl
  have e1 : w2.cell? ⟨w.heap.size + 1, 1, none⟩ = some (.int .i64 0) := cell_at r1 rfl
  have e2 : w2.cell? ⟨w.heap.size + 1, 2, none⟩ = some (.int .u64 0) := cell_at r1 rfl
  have e3 : w2.cell? ⟨w.heap.size + 1, 3, none⟩ = some (.int .u64 0) := cell_at r1 rfl
  have e4 : w2.cell? ⟨w.heap.size + 1, 4, none⟩ = some (.slice none 0 0) := cell_at r1 rfl
  have HW2 : Hid _ := hide hw2
  clear hw2
  go_enter Try.func17, Try.ntmps17
  go_upto_region 3 with fail
  rw [← HW2.out]
  go_wp2_with (refine wpList_store_row rfl 46 (.tmp 2) (.tmp 12) rfl w.heap.size #[.int .i64 0, .int .i64 0, .int .u64 0, .int .u64 0, .slice none 0 0] rfl rfl 46 #[.int .i64 0, .int .i64 0, .int .u64 0, .int .u64 0, .slice none 0 0] r0 (by kernel_rfl) rfl (by simp [Value.oneCell']) ?_)
  refine bodyPost_ret (results_ctt Try.results17 _ _ w.heap.size _ _ _ _ _ _ rfl (setRow_heap _ _ _ _ _ _ r0) Try.underlying46 rfl (by kernel_rfl) rfl rfl) rfl ?_
  exact ⟨rfl, b2.trans ((but_setRow _ _ _).below b2.size (fun q hq => by have e : q = w.heap.size := hq; omega))⟩
theorem Rowz.butO {S : Nat → Prop} {w w' : World} {base : Nat} {v : Value} {rws : List Rw} {Gs : List (Int × List Rc)} (h : Rowz w base v rws Gs) (hb : But S w w') (h1 : ∀ q, v.ownBlock = some q → ¬ S q) (h2 : ∀ b cur, base ≤ b → w.heap[b]? = some (.cells cur 41 (0, 0)) → ¬ S b) : Rowz w' base v rws Gs :=
  ⟨h.own.but hb h1, h.len, fun k rw G g1 g2 => ⟨(h.each k rw G g1 g2).1, (h.each k rw G g1 g2).2.but hb (fun q hq => by obtain ⟨cur, hc⟩ := own_ty (h.each k rw G g1 g2).2 hq; exact h2 q cur ((h.each k rw G g1 g2).2.lt q hq).1 hc)⟩, h.one⟩
theorem Rowz.mono {w : World} {base base' : Nat} {v : Value} {rws : List Rw} {Gs : List (Int × List Rc)} (h : Rowz w base v rws Gs) (hb : base' ≤ base) : Rowz w base' v rws Gs :=
  ⟨h.own.mono hb, h.len, fun k rw G g1 g2 => ⟨(h.each k rw G g1 g2).1, (h.each k rw G g1 g2).2.mono hb⟩, h.one⟩
theorem RMg.mono {w : World} {base base' p : Nat} {vr va : Value} {Gs : List (Int × List Rc)} {As : List Nat} {nx : Int} (h : RMg w base p vr va Gs As nx) (hb : base' ≤ base) : RMg w base' p vr va Gs As nx := by
  obtain ⟨rws, hz⟩ := h.rows
  exact ⟨h.blk, ⟨rws, hz.mono hb⟩, h.ats.mono hb, h.len, h.most, Nat.le_trans hb h.ge⟩
theorem RMg.butO {S : Nat → Prop} {w w' : World} {base p : Nat} {vr va : Value} {Gs : List (Int × List Rc)} {As : List Nat} {nx : Int} (h : RMg w base p vr va Gs As nx) (hb : But S w w') (hp : ¬ S p) (hv : ∀ q, va.ownBlock = some q → ¬ S q) (h1 : ∀ q, vr.ownBlock = some q → ¬ S q) (h2 : ∀ b cur, base ≤ b → w.heap[b]? = some (.cells cur 41 (0, 0)) → ¬ S b) : RMg w' base p vr va Gs As nx := by
  obtain ⟨rws, hz⟩ := h.rows
  exact ⟨(hb.block p (get_lt' h.blk) hp).trans h.blk, ⟨rws, hz.butO hb h1 h2⟩, h.ats.but hb hv, h.len, h.most, h.ge⟩
structure PD where
  base : Nat
  p : Nat
  rv : Value
  ph : Nat
  s : MSt
  q : Nat
  vr : Value
  va : Value
  Gs : List (Int × List Rc)
  As : List Nat
/-- What a pair's calls may write, and its lists of rows. -/
def PD.Mut (d : PD) (b : Nat) : Prop := Mine d.p d.rv d.ph d.s.hv b ∨ b = d.q ∨ d.vr.ownBlock = some b ∨ d.va.ownBlock = some b
structure Live (w : World) (d : PD) : Prop where
  mgr : Mgr w d.base d.p d.rv d.ph (d.Gs.map Prod.fst) d.s
  ref : RMg w d.base d.q d.vr d.va d.Gs d.As d.s.at_
  eq : d.s.Ls = leftR d.Gs d.As
  ok : RowsOk d.Gs
  sep : ∀ b, Mine d.p d.rv d.ph d.s.hv b → d.vr.ownBlock ≠ some b
  le : d.base ≤ w.heap.size
theorem Live.ty {w : World} {d : PD} (h : Live w d) {b : Nat} (hb : d.Mut b) : d.base ≤ b ∧ ∃ cur T, w.heap[b]? = some (.cells cur T (0, 0)) ∧ (T = 73 ∨ T = 38 ∨ T = 92 ∨ T = 95 ∨ T = 77 ∨ T = 3) := by
  rcases hb with hb | rfl | hb | hb
  · obtain ⟨cur, T, h1, h2⟩ := h.mgr.ty hb
    exact ⟨h.mgr.mineGe hb, cur, T, h1, by rcases h2 with e | e | e | e <;> simp [e]⟩
  · exact ⟨h.ref.ge, _, _, h.ref.blk, by simp⟩
  · obtain ⟨rws, hz⟩ := h.ref.rows
    obtain ⟨cur, hc⟩ := own_ty hz.own hb
    exact ⟨(hz.own.lt b hb).1, cur, _, hc, by simp⟩
  · obtain ⟨cur, hc⟩ := own_ty h.ref.ats hb
    exact ⟨(h.ref.ats.lt b hb).1, cur, _, hc, by simp⟩
theorem Live.noRec {w : World} {d : PD} (h : Live w d) {b : Nat} {cur : Array Value} (hb : w.heap[b]? = some (.cells cur 41 (0, 0))) : ¬ d.Mut b := by
  intro hm
  obtain ⟨_, cur', T, h1, h2⟩ := h.ty hm
  rw [hb] at h1
  cases h1
  rcases h2 with e | e | e | e | e | e <;> exact absurd e (by decide)
theorem Live.lt {w : World} {d : PD} (h : Live w d) {b : Nat} (hb : d.Mut b) : b < w.heap.size := by
  obtain ⟨_, _, _, h1, _⟩ := h.ty hb
  exact get_lt' h1
theorem Live.but {S : Nat → Prop} {w w' : World} {d : PD} (h : Live w d) (hb : But S w w') (hS : ∀ b, d.Mut b → ¬ S b) (hR : ∀ b cur, d.base ≤ b → w.heap[b]? = some (.cells cur 41 (0, 0)) → ¬ S b) : Live w' d :=
  ⟨h.mgr.but hb (fun q hm => hS q (.inl hm)) hR, h.ref.butO hb (hS _ (.inr (.inl rfl))) (fun q hq => hS q (.inr (.inr (.inr hq)))) (fun q hq => hS q (.inr (.inr (.inl hq)))) hR, h.eq, h.ok, h.sep, Nat.le_trans h.le hb.size⟩
theorem Live.on {w w' : World} {d : PD} (h : Live w d) (hb : Below w.heap.size w w') : Live w' d :=
  h.but (S := fun _ => False) (But.of_below hb) (fun _ _ e => e) (fun _ _ _ _ e => e)
/-- Both, or none of the two. -/
def Pr (w : World) (vp vd : Value) : Option PD → Prop
  | none => vp = .pointer none ∧ vd = .pointer none
  | some d => vp = .pointer (some ⟨d.p, 0, none⟩) ∧ vd = .pointer (some ⟨d.q, 0, none⟩) ∧ Live w d
def MutO : Option PD → Nat → Prop
  | none, _ => False
  | some d, b => d.Mut b
theorem Pr.ty {w : World} {vp vd : Value} : ∀ {d : Option PD}, Pr w vp vd d → ∀ {b : Nat}, MutO d b → ∃ cur T, w.heap[b]? = some (.cells cur T (0, 0)) ∧ (T = 73 ∨ T = 38 ∨ T = 92 ∨ T = 95 ∨ T = 77 ∨ T = 3)
  | none, _, _, hb => hb.elim
  | some _, h, _, hb => (h.2.2.ty hb).2
theorem Pr.not_rec {w : World} {vp vd : Value} : ∀ {d : Option PD}, Pr w vp vd d → ∀ {b : Nat} {cur : Array Value}, w.heap[b]? = some (.cells cur 41 (0, 0)) → ¬ MutO d b
  | none, _, _, _, _ => fun e => e
  | some _, h, _, _, hb => h.2.2.noRec hb
theorem Pr.but {S : Nat → Prop} {w w' : World} {vp vd : Value} : ∀ {d : Option PD}, Pr w vp vd d → But S w w' → (∀ b, MutO d b → ¬ S b) → (∀ b cur, w.heap[b]? = some (.cells cur 41 (0, 0)) → ¬ S b) → Pr w' vp vd d
  | none, h, _, _, _ => h
  | some _, h, hb, hS, hR => ⟨h.1, h.2.1, h.2.2.but hb hS (fun b cur _ => hR b cur)⟩
theorem Pr.on {w w' : World} {vp vd : Value} : ∀ {d : Option PD}, Pr w vp vd d → Below w.heap.size w w' → Pr w' vp vd d
  | none, h, _ => h
  | some _, h, hb => ⟨h.1, h.2.1, h.2.2.on hb⟩
theorem Pr.lt {w : World} {vp vd : Value} : ∀ {d : Option PD}, Pr w vp vd d → ∀ {b : Nat}, MutO d b → b < w.heap.size
  | none, _, _, hb => hb.elim
  | some _, h, _, hb => h.2.2.lt hb
theorem left_pr {w : World} {vp vd : Value} : ∀ {d : Option PD}, Pr w vp vd d → ∃ N : Int, (∀ W, Below w.heap.size w W → Calls Try.prog 14 #[vp] W fun r w' => r = .returned (.int .i64 N) ∧ Below W.heap.size W w') ∧ (∀ W, Below w.heap.size w W → Calls Try.prog 15 #[vd] W fun r w' => r = .returned (.int .i64 N) ∧ Below W.heap.size W w')
  | none, h => by
    obtain ⟨rfl, rfl⟩ := h
    exact ⟨0, fun W _ => (left_nil W).mono (fun r w' ⟨e, e'⟩ => ⟨e, by rw [e']; exact Below.refl _ _⟩), fun W _ => (rleft_nil W).mono (fun r w' ⟨e, e'⟩ => ⟨e, by rw [e']; exact Below.refl _ _⟩)⟩
  | some d, h => by
    obtain ⟨rfl, rfl, hl⟩ := h
    refine ⟨(tot d.s.Ls : Int), fun W hb => (left_any (hl.on hb).mgr).mono (fun r w' ⟨e, e'⟩ => ⟨e, by rw [e']; exact Below.refl _ _⟩), fun W hb => ?_⟩
    rw [hl.eq]
    exact rleft_any (hl.on hb).ref hl.ok.tot (by have := hl.ok.few; omega)
/-- What both Nexts answer. -/
def outV (g k o a id err : Int) : Value := .tuple #[.agg #[.int .i64 g, .int .i64 k, .int .u64 o, .int .u64 a, .slice none 0 0], .int .i64 id, .int .i64 err]
theorem Flt.none_of {Ls : List (List Rc)} {a f : Int} {k : Nat} {r : Rc} {t : List Rc} (hf : Flt Ls a f) (h0 : f ≠ 0) (hp : Pick Ls k r t) (hs : r.stamp = a) : False :=
  h0 (hf.uniq (.inr ⟨k, r, t, hp, by rw [hs, if_neg (by omega), if_neg (by omega)]⟩))
/-- Next of a merger, and then of the document's. -/
theorem next_pr {w : World} {vp vd : Value} : ∀ {d : Option PD}, Pr w vp vd d → Calls Try.prog 16 #[vp] w fun r w1 => ∃ g k o a id err, ∃ d' : Option PD, r = .returned (outV g k o a id err) ∧ But (MutO d) w w1 ∧ (∀ b, MutO d' b → MutO d b ∨ w.heap.size ≤ b) ∧
      ∀ W, Below w1.heap.size w1 W → Calls Try.prog 17 #[vd] W fun r2 w2 => r2 = .returned (outV g k o a id err) ∧ Pr w2 vp vd d' ∧ But (MutO d) W w2
  | none, h => by
    obtain ⟨rfl, rfl⟩ := h
    refine (next_nil w).mono ?_
    rintro r w1 ⟨rfl, b1⟩
    refine ⟨0, 0, 0, 0, 0, 1, none, rfl, But.of_below b1, fun b e => e.elim, fun W _ => (rnext_nil W).mono ?_⟩
    rintro r w2 ⟨rfl, b2⟩
    exact ⟨rfl, ⟨rfl, rfl⟩, But.of_below b2⟩
  | some d, h => by
    obtain ⟨rfl, rfl, hl⟩ := h
    have hx1 := hl.mgr.at1
    have hx0 := hl.mgr.at0
    have hst := hl.ok.rowLen
    have hfew : (d.Gs.length : Int) ≤ 65536 := by have := hl.ok.few; omega
    refine (next_any hl.mgr hl.le).mono ?_
    rintro r w1 (⟨x, s2, rfl, tk⟩ | ⟨f, hf0, hfl, rfl, b1⟩)
    · obtain ⟨k, t, k1, k2, k3, k4, k5⟩ := tk.pick
      have hbM : But (fun b => Mine d.p d.rv d.ph d.s.hv b) w w1 := tk.but
      have noR : ∀ b cur, d.base ≤ b → w.heap[b]? = some (.cells cur 41 (0, 0)) → ¬ Mine d.p d.rv d.ph d.s.hv b := fun b cur _ hb hm => hl.noRec hb (.inl hm)
      have hr1 : RMg w1 d.base d.q d.vr d.va d.Gs d.As d.s.at_ := hl.ref.butO hbM
        (hl.mgr.not_ty hl.ref.blk (fun cur T e => by cases e; decide))
        (fun q hq => by obtain ⟨cur, hc⟩ := own_ty hl.ref.ats hq; exact hl.mgr.not_ty hc (fun cur T e => by cases e; decide))
        (fun q hq hm => hl.sep q hm hq) noR
      refine ⟨x.1, x.2.kind, x.2.obj, x.2.arg, x.2.stack, 0, some { d with s := s2, As := d.As.set k ((d.As.getD k 0) + 1) }, rfl, tk.but.mono (fun b hb => .inl hb), ?_, fun W hW => (rnext_any (hr1.on hW) hst hfew hx0 hx1).mono ?_⟩
      · rintro b (hb | hb | hb | hb)
        · rcases hb with e | e | e | e
          · exact .inl (.inl (.inl e))
          · exact .inl (.inl (.inr (.inl e)))
          · exact .inl (.inl (.inr (.inr (.inl e))))
          · rcases tk.new b e with e | e
            · exact .inl (.inl (.inr (.inr (.inr e))))
            · exact .inr e
        · exact .inl (.inr (.inl hb))
        · exact .inl (.inr (.inr (.inl hb)))
        · exact .inl (.inr (.inr (.inr hb)))
      · rintro r2 w2 (⟨k', n, G, x', g1, g2, g3, g4, rfl, hM2, hb2⟩ | ⟨f, hf0, hfl, rfl, b2⟩)
        · rw [← hl.eq] at g3
          obtain ⟨e1, e2, e3⟩ := k2.uniq g3
          subst e1; subst e2
          have eg : G.1 = x.1 := by
            rw [List.getElem?_map, g1] at k1
            exact Option.some.inj k1
          have en : d.As.getD k 0 = n := by rw [List.getD_eq_getElem?_getD, g2]; rfl
          rw [en]
          refine ⟨by rw [← eg]; rfl, ⟨rfl, rfl, ?_⟩, hb2.mono (fun b hb => by rcases hb with e | e; exact .inr (.inl e); exact .inr (.inr (.inr e)))⟩
          have M2 : Mgr w2 d.base d.p d.rv d.ph (d.Gs.map Prod.fst) s2 := (tk.mgr.below hW).but hb2 (fun q hm hs => by
            have hrW := hr1.on hW
            rcases hs with e | e
            · have e9 : q = d.q := e
              rw [e9] at hm
              exact (tk.mgr.below hW).not_ty hrW.blk (fun cur T e => by cases e; decide) hm
            · obtain ⟨cur, hc⟩ := own_ty hrW.ats e
              exact (tk.mgr.below hW).not_ty hc (fun cur T e => by cases e; decide) hm) (fun b cur _ hb hs => by
            have hrW := hr1.on hW
            rcases hs with e | e
            · have e9 : b = d.q := e
              rw [e9, hrW.blk] at hb; cases hb
            · obtain ⟨cur', hc⟩ := own_ty hrW.ats e
              rw [hc] at hb; cases hb)
          refine ⟨M2, ?_, ?_, hl.ok, fun b hm hv => ?_, Nat.le_trans hl.le (Nat.le_trans tk.but.size (Nat.le_trans hW.size hb2.size))⟩
          · show RMg w2 d.base d.q d.vr d.va d.Gs (d.As.set k (n + 1)) s2.at_
            rw [k5]; exact hM2
          · show s2.Ls = leftR d.Gs (d.As.set k (n + 1))
            rw [k4, leftR_set g1 g2, hl.eq, e3]
          · rcases hm with e | e | e | e
            · exact hl.sep b (.inl e) hv
            · exact hl.sep b (.inr (.inl e)) hv
            · exact hl.sep b (.inr (.inr (.inl e))) hv
            · rcases tk.new b e with e | e
              · exact hl.sep b (.inr (.inr (.inr e))) hv
              · obtain ⟨rws, hz⟩ := hl.ref.rows
                have := (hz.own.lt b hv).2
                omega
        · rw [← hl.eq] at hfl
          exact (hfl.none_of hf0 k2 k3).elim
    · refine ⟨0, 0, 0, 0, 0, f, some d, rfl, But.of_below b1, fun b hb => .inl hb, fun W hW => (rnext_any ((hl.on b1).on hW).ref hst hfew hx0 hx1).mono ?_⟩
      rintro r2 w2 (⟨k', n, G, x', g1, g2, g3, g4, rfl, hM2, hb2⟩ | ⟨f', hf0', hfl', rfl, b2⟩)
      · rw [← hl.eq] at g3
        exact (hfl.none_of hf0 g3 g4).elim
      · rw [← hl.eq] at hfl'
        have e := hfl.uniq hfl'
        subst e
        exact ⟨rfl, ⟨rfl, rfl, ((hl.on b1).on hW).on b2⟩, But.of_below b2⟩
end Go.Proofs.Ytdlpffbeladgaaa
