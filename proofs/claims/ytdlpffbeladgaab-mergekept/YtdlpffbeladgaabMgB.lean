/-
  A merger in memory; New.
-/
import Derived.Test.YtdlpffbeladgaabMgA
import Derived.Test.YtdlpffbeladgaabSpB
namespace Go.Proofs.Ytdlpffbeladgaab
open Go.RowKit
set_option maxRecDepth 8000 in
theorem cloneW (w : World) (a : Option Addr) (n c : Nat) (L : List Rw) (hr : TRow layW w a n L) (h0 : a = none → n = 0 ∧ c = 0) (hl : (n : Int) ≤ 4000000000000) :
    Calls Try.prog 27 #[.slice a n c] w fun r w' => ∃ v', r = .returned v' ∧ Own layW 40 w' w.heap.size v' L ∧ Below w.heap.size w w' := by
  obtain ⟨i0, hi, hz0, hz1, hz2⟩ := info_parts Try.infoW
  have qT : ∀ (w : World) (a : Option Addr) (n c n' c' : Nat), (binOp .eql 31 (.slice a n c) (.slice none n' c')).run Try.prog w = .ok (.bool a.isNone) w := fun w a n c n' c' => by
    simp only [binOp]
    simp [Op.equal, Op.maxDepth, Lib.run_equalIn_slice_nil w 9999 31 _ a n c n' c' Try.underlying31]
  cases a with
  | none =>
    have hE : L = [] := List.eq_nil_of_length_eq_zero (by rw [hr.len]; exact (h0 rfl).1)
    clear hr h0
    subst hE
    go_enter Try.func27, Try.ntmps27
    go_wp2
    go_ret
    exact ⟨_, rfl, Own.nil _ _ _ _, Below.refl _ _⟩
  | some ad =>
    have HR : Hid _ := hide hr
    clear hr h0
    go_enter Try.func27, Try.ntmps27
    go_wp2_with (at_builtin; refine append_lay layW _ 31 40 i0 _ 32 Try.underlying31 hi hz0 hz1 hz2 rfl rfl (.tmp 5) (.tmp 6) rfl w.heap.size (.slice (some ⟨w.heap.size, 0, none⟩) 0 0) [] rfl (Own.lit0 layW 40 w (Nat.le_refl _)) _ _ _ L rfl (HR.out.below (below_alloc1 _ _)) (fun e => by cases e) ?m1 ?m2 (by simp) ?_)
    case m1 => unfold maxLen; simp; omega
    case m2 => simp; omega
    intro v' w2 hown2 hgr2 _
    go_wp2
    go_ret
    refine ⟨v', rfl, hown2, (below_alloc1 w _).grown hgr2 (by simp) (fun k hk => ?_)⟩
    have hk9 : (Value.slice (some ⟨w.heap.size, 0, none⟩) 0 0).ownBlock = some k := hk
    cases hk9
    exact Nat.le_refl _
set_option maxRecDepth 8000 in
theorem cloneR (w : World) (a : Option Addr) (n c : Nat) (L : List Rc) (hr : TRow layR w a n L) (h0 : a = none → n = 0 ∧ c = 0) (hl : (n : Int) ≤ 3500000000000) :
    Calls Try.prog 29 #[.slice a n c] w fun r w' => ∃ v', r = .returned v' ∧ Own layR 42 w' w.heap.size v' L ∧ Below w.heap.size w w' := by
  obtain ⟨i0, hi, hz0, hz1, hz2⟩ := info_parts Try.infoR
  have qT : ∀ (w : World) (a : Option Addr) (n c n' c' : Nat), (binOp .eql 38 (.slice a n c) (.slice none n' c')).run Try.prog w = .ok (.bool a.isNone) w := fun w a n c n' c' => by
    simp only [binOp]
    simp [Op.equal, Op.maxDepth, Lib.run_equalIn_slice_nil w 9999 38 _ a n c n' c' Try.underlying38]
  cases a with
  | none =>
    have hE : L = [] := List.eq_nil_of_length_eq_zero (by rw [hr.len]; exact (h0 rfl).1)
    clear hr h0
    subst hE
    go_enter Try.func29, Try.ntmps29
    go_wp2
    go_ret
    exact ⟨_, rfl, Own.nil _ _ _ _, Below.refl _ _⟩
  | some ad =>
    have HR : Hid _ := hide hr
    clear hr h0
    go_enter Try.func29, Try.ntmps29
    go_wp2_with (at_builtin; refine append_lay layR _ 38 42 i0 _ 40 Try.underlying38 hi hz0 hz1 hz2 rfl rfl (.tmp 5) (.tmp 6) rfl w.heap.size (.slice (some ⟨w.heap.size, 0, none⟩) 0 0) [] rfl (Own.lit0 layR 42 w (Nat.le_refl _)) _ _ _ L rfl (HR.out.below (below_alloc1 _ _)) (fun e => by cases e) ?m1 ?m2 (by simp) ?_)
    case m1 => unfold maxLen; simp; omega
    case m2 => simp; omega
    intro v' w2 hown2 hgr2 _
    go_wp2
    go_ret
    refine ⟨v', rfl, hown2, (below_alloc1 w _).grown hgr2 (by simp) (fun k hk => ?_)⟩
    have hk9 : (Value.slice (some ⟨w.heap.size, 0, none⟩) 0 0).ownBlock = some k := hk
    cases hk9
    exact Nat.le_refl _
/-- Records of a merger's own, what is left of them. -/
structure RecAt (w : World) (base : Nat) (s : Sl) (L : List Rc) : Prop where
  row : TRow layR w s.a s.n L
  cap : s.n ≤ s.c
  blk : L ≠ [] → ∃ b off cur, s.a = some ⟨b, off, none⟩ ∧ base ≤ b ∧ w.heap[b]? = some (.cells cur 42 (0, 0))
theorem cell_but {S : Nat → Prop} {w w' : World} {p : Addr} {v : Value} (h : w.cell? p = some v) (hb : But S w w') (hS : ¬ S p.block) : w'.cell? p = some v :=
  (World.cell?_of_block (hb.block p.block (World.block_lt_of_cell? w _ h) hS)).trans h
theorem TRow.but {α : Type} {y : Lay α} {S : Nat → Prop} {w w' : World} {a : Option Addr} {n : Nat} {L : List α} (h : TRow y w a n L) (hb : But S w w') (hS : ∀ b off, 0 < n → a = some ⟨b, off, none⟩ → ¬ S b) : TRow y w' a n L := by
  refine ⟨h.len, ?_⟩
  rcases h.cells with h0 | ⟨b, off, ha, hc⟩
  · exact .inl h0
  · by_cases hn : 0 < n
    · exact .inr ⟨b, off, ha, fun i x hx t u hu => cell_but (hc i x hx t u hu) hb (hS b off hn ha)⟩
    · exact .inl (by omega)
theorem RecAt.but {S : Nat → Prop} {w w' : World} {base : Nat} {s : Sl} {L : List Rc} (h : RecAt w base s L) (hb : But S w w') (hS : ∀ b cur, base ≤ b → w.heap[b]? = some (.cells cur 42 (0, 0)) → ¬ S b) : RecAt w' base s L := by
  refine ⟨h.row.but hb (fun b off hn ha => ?_), h.cap, fun hL => ?_⟩
  · obtain ⟨b', off', cur, e1, e2, e3⟩ := h.blk (fun e => by have := h.row.len; rw [e] at this; simp at this; omega)
    rw [ha] at e1
    cases e1
    exact hS b cur e2 e3
  · obtain ⟨b, off, cur, e1, e2, e3⟩ := h.blk hL
    exact ⟨b, off, cur, e1, e2, (hb.block b (Array.getElem?_eq_some_iff.1 e3).1 (hS b cur e2 e3)).trans e3⟩
theorem Own.recAt {w : World} {base : Nat} {s : Sl} {L : List Rc} (h : Own layR 42 w base s.v L) : RecAt w base s L := by
  obtain ⟨h1, h2, h3⟩ := own_reads h
  refine ⟨h1, h3, fun hL => ?_⟩
  obtain ⟨g, c, hv, hg, _⟩ := h.frm (List.length_pos_iff.2 hL)
  obtain ⟨cur, hc⟩ := own_ty h (b := g) (by rw [hv]; rfl)
  injection hv with e1 e2 e3
  exact ⟨g, 0, cur, e1, hg, hc⟩
structure MSt where
  Ls : List (List Rc)
  at_ : Int
  hv : Value
  n : Int
/-- A merger at p: its rows' list rv, its heap at ph. -/
structure Mgr (w : World) (base p : Nat) (rv : Value) (ph : Nat) (gs : List Int) (s : MSt) : Prop where
  blk : w.heap[p]? = some (.cells #[rv, .pointer (some ⟨ph, 0, none⟩), .int .i64 s.at_, .int .i64 (tot s.Ls : Int)] 74 (0, 0))
  rows : ∃ rws, Own layW 40 w base rv rws ∧ rws.length = gs.length ∧ ∀ (k : Nat) (rw : Rw) (g : Int) (L : List Rc), rws[k]? = some rw → gs[k]? = some g → s.Ls[k]? = some L → rw.g = g ∧ RecAt w base rw.s L
  heap : ∃ S, HsH w base ph s.hv s.n S ∧ Hds s.Ls S ∧ S.length ≤ gs.length
  len : s.Ls.length = gs.length
  few : gs.length ≤ 65536
  n1 : s.n + (tot s.Ls : Int) ≤ 2000000
  st : ∀ L ∈ s.Ls, Rising L
  at0 : 0 ≤ s.at_
  at1 : s.at_ ≤ 1048576
  ge : base ≤ p
  geh : base ≤ ph
/-- The merger's own blocks. -/
def Mine (p : Nat) (rv : Value) (ph : Nat) (hv : Value) (q : Nat) : Prop := q = p ∨ rv.ownBlock = some q ∨ q = ph ∨ hv.ownBlock = some q
theorem Mgr.ty {w : World} {base p ph : Nat} {rv : Value} {gs : List Int} {s : MSt} (h : Mgr w base p rv ph gs s) {q : Nat} (hq : Mine p rv ph s.hv q) : ∃ cur T, w.heap[q]? = some (.cells cur T (0, 0)) ∧ (T = 74 ∨ T = 40 ∨ T = 88 ∨ T = 91) := by
  obtain ⟨S, hs, _⟩ := h.heap
  obtain ⟨rws, ho, _⟩ := h.rows
  rcases hq with rfl | hq | rfl | hq
  · exact ⟨_, _, h.blk, .inl rfl⟩
  · obtain ⟨cur, hc⟩ := own_ty ho hq
    exact ⟨cur, _, hc, .inr (.inl rfl)⟩
  · exact ⟨_, _, hs.blk, .inr (.inr (.inl rfl))⟩
  · obtain ⟨_, _, cur, hc⟩ := hs.own q hq
    exact ⟨cur, _, hc, .inr (.inr (.inr rfl))⟩
theorem Mgr.mineGe {w : World} {base p ph : Nat} {rv : Value} {gs : List Int} {s : MSt} (h : Mgr w base p rv ph gs s) {q : Nat} (hq : Mine p rv ph s.hv q) : base ≤ q := by
  obtain ⟨S, hs, _⟩ := h.heap
  obtain ⟨rws, ho, _⟩ := h.rows
  rcases hq with rfl | hq | rfl | hq
  · exact h.ge
  · exact (ho.lt q hq).1
  · exact h.geh
  · exact (hs.own q hq).1
theorem Mgr.but {S : Nat → Prop} {w w' : World} {base p ph : Nat} {rv : Value} {gs : List Int} {s : MSt} (h : Mgr w base p rv ph gs s) (hb : But S w w') (hm : ∀ q, Mine p rv ph s.hv q → ¬ S q) (hr : ∀ b cur, base ≤ b → w.heap[b]? = some (.cells cur 42 (0, 0)) → ¬ S b) : Mgr w' base p rv ph gs s := by
  obtain ⟨rws, h1, h2, h3⟩ := h.rows
  obtain ⟨T, g1, g2, g3⟩ := h.heap
  refine ⟨(hb.block p (Array.getElem?_eq_some_iff.1 h.blk).1 (hm p (.inl rfl))).trans h.blk, ⟨rws, h1.but hb (fun q hq => hm q (.inr (.inl hq))), h2, fun k rw g L a1 a2 a3 => ⟨(h3 k rw g L a1 a2 a3).1, (h3 k rw g L a1 a2 a3).2.but hb hr⟩⟩,
    ⟨T, g1.but hb (hm ph (.inr (.inr (.inl rfl)))) (fun q hq => hm q (.inr (.inr (.inr hq)))), g2, g3⟩, h.len, h.few, h.n1, h.st, h.at0, h.at1, h.ge, h.geh⟩
theorem Mgr.below {w w' : World} {base p ph : Nat} {rv : Value} {gs : List Int} {s : MSt} (h : Mgr w base p rv ph gs s) (hb : Below w.heap.size w w') : Mgr w' base p rv ph gs s :=
  h.but (S := fun _ => False) (But.of_below hb) (fun _ _ e => e) (fun _ _ _ _ e => e)
end Go.Proofs.Ytdlpffbeladgaab
