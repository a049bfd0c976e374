/-
  Merge: lists merged by a heap of their heads.
-/
import Derived.Test.YtdmlehbamdcjcabMrM
import Derived.Test.YtdmlehbamdcjcabHpHI
import Derived.Test.YtdmlehbamdcjcabHpW
import Derived.Lib.SliceRun
namespace Go.Proofs.Ytdmlehbamdcjcab
open Go.RowKit
structure Sl where
  a : Option Addr
  n : Nat
  c : Nat
def laySl : Lay Sl := ⟨fun s => [.slice s.a s.n s.c], 1, by decide, fun _ => rfl, by intro a u hu; simp at hu; subst hu; rfl⟩
/-- Where a list lies. -/
structure SitsI (w : World) (s : Sl) (C : List It) : Prop where
  row : TRow layI w s.a s.n C
  nil : s.a = none → s.n = 0 ∧ s.c = 0
  cap : s.n ≤ s.c
theorem SitsI.below {w w' : World} {s : Sl} {C : List It} (h : SitsI w s C) (hb : Below w.heap.size w w') : SitsI w' s C := ⟨h.row.below hb, h.nil, h.cap⟩
theorem Try.infoSI : (Try.prog.info? 24).map (fun i => (i.zero, i.size, i.bytes)) = some (some (.slice none 0 0), 1, 24) := by kernel_rfl
set_option maxRecDepth 8000 in
theorem clonesI (w : World) (a : Option Addr) (N c : Nat) (ss : List Sl) (hr : TRow laySl w a N ss) (h0 : a = none → N = 0 ∧ c = 0) (hl : (N : Int) ≤ 5000000000000) :
    Calls Try.prog 33 #[.slice a N c] w fun r w' => ∃ v', r = .returned v' ∧ Own laySl 24 w' w.heap.size v' ss ∧ Below w.heap.size w w' := by
  obtain ⟨i0, hi, hz0, hz1, hz2⟩ := info_parts Try.infoSI
  have qT : ∀ (w : World) (a : Option Addr) (n c n' c' : Nat), (binOp .eql 65 (.slice a n c) (.slice none n' c')).run Try.prog w = .ok (.bool a.isNone) w := fun w a n c n' c' => Lib.run_eql_slice_nil w _ _ a n c n' c' Try.underlying65
  cases a with
  | none =>
    obtain ⟨rfl, rfl⟩ := h0 rfl
    have hE : ss = [] := List.eq_nil_of_length_eq_zero hr.len
    clear hr h0
    subst hE
    go_enter Try.func33, Try.ntmps33
    go_wp2
    go_ret
    exact ⟨_, rfl, Own.nil _ _ _ _, Below.refl _ _⟩
  | some ad =>
    have HR : Hid _ := hide hr
    clear hr h0
    go_enter Try.func33, Try.ntmps33
    go_wp2_with (at_builtin; refine append_lay laySl _ 65 24 i0 _ 24 Try.underlying65 hi hz0 hz1 hz2 rfl rfl (.tmp 5) (.tmp 6) rfl w.heap.size _ [] rfl (Own.lit0 laySl 24 w (Nat.le_refl _)) _ _ _ ss rfl (HR.out.below (below_alloc1 _ _)) (fun e => by cases e) ?m1 ?m2 (by simp) ?_)
    case m1 => unfold maxLen; simp; omega
    case m2 => simp; omega
    intro v' w2 hown2 hgr2 _
    go_wp2
    go_ret
    refine ⟨v', rfl, hown2, (below_alloc1 w _).grown hgr2 (by simp) (fun k hk => ?_)⟩
    simp [Value.ownBlock] at hk
    omega
theorem ty_neN {w : World} {b p : Nat} {cs ds : Array Value} {t u : TypeId} {fr fs : Nat × Nat} (h : w.heap[b]? = some (.cells cs t fr)) (hp : w.heap[p]? = some (.cells ds u fs)) (ht : t ≠ u) : b ≠ p := by
  intro e
  rw [e, hp] at h
  injection h with h
  injection h with _ h _
  exact ht h.symm
theorem own_at {α : Type} {y : Lay α} {e : TypeId} {w : World} {base : Nat} {v : Value} {L : List α} (h : Own y e w base v L) : ∀ g, v.ownBlock = some g → ∃ cur, w.heap[g]? = some (.cells cur e (0, 0)) := by
  intro g hg
  rcases h.2 with ⟨e, _⟩ | ⟨g', cap, cur, e, _, hh, _⟩
  · rw [e] at hg; cases hg
  · rw [e] at hg; injection hg with hg; exact ⟨cur, by rw [← hg]; exact hh⟩
set_option maxRecDepth 8000 in
set_option maxHeartbeats 3200000 in
theorem putHeadI (w : World) (base p gl N c k : Nat) (v : Value) (n : Int) (E : List (It × Int)) (ss : List Sl) (s : Sl) (C : List It) (h : HqI w base p v n E) (hO : Own laySl 24 w base (.slice (some ⟨gl, 0, none⟩) N c) ss) (hN : ss.length = N) (hk : k < N) (hs : ss[k]? = some s) (hC : SitsI w s C) (hbase : base ≤ w.heap.size) (hl : (E.length : Int) + 1 ≤ 5000000000000) :
    Calls Try.prog 34 #[.pointer (some ⟨p, 0, none⟩), .slice (some ⟨gl, 0, none⟩) N c, .int .i64 k] w fun r w' => r = .returned (.tuple #[]) ∧ ∃ v' s' E', HqI w' base p v' n E' ∧ E'.Perm (E ++ heads [C] k) ∧ (Ord (fst bfI) → Hp (fst bfI) E → Hp (fst bfI) E') ∧ Own laySl 24 w' base (.slice (some ⟨gl, 0, none⟩) N c) (ss.set k s') ∧ (∀ wx, SitsI wx s C → SitsI wx s' C.tail) ∧ But (fun b => b = p ∨ v.ownBlock = some b ∨ b = gl) w w' ∧ (∀ g, v'.ownBlock = some g → v.ownBlock = some g ∨ w.heap.size ≤ g) := by
  have hkI : (k : Int) < (N : Int) := by omega
  have x0 := hO.cell hs 0 rfl
  simp only [laySl, Nat.mul_one, Nat.add_zero] at x0
  obtain ⟨sa, sn, sc⟩ := s
  have HO : Hid _ := hide hO
  have HQ : Hid _ := hide h
  have HS : Hid _ := hide hs
  have HC : Hid _ := hide hC
  have hcap : sn ≤ sc := hC.cap
  have HLN : Hid (C.length = sn) := hide hC.row.len
  have HN : Hid _ := hide hN
  clear h hO hs hC hN
  by_cases h0 : sn = 0
  · have hC0 : C = [] := List.length_eq_zero_iff.mp (by rw [HLN.out]; exact h0)
    have e1 : ((sn : Int) == 0) = true := by simp [h0]
    have e2 : decide ((sn : Int) = 0) = true := by simp [h0]
    clear h0
    subst hC0
    go_enter Try.func34, Try.ntmps34
    go_wp2_with fail
    refine bodyPost_ret (results_none rfl _ _ _) rfl ?_
    refine ⟨rfl, v, ⟨sa, sn, sc⟩, E, HQ.out, ?_, fun _ h => h, ?_, fun wx hx => ?_, But.refl _ _, fun g hg => .inl hg⟩
    · simp [heads]
    · rw [set_self HS.out]; exact HO.out
    · exact hx
  · obtain ⟨x, t, hxt⟩ : ∃ x t, C = x :: t := by
      cases C with
      | nil => exact absurd HLN.out.symm h0
      | cons x t => exact ⟨x, t, rfl⟩
    subst hxt
    have e1 : ((sn : Int) == 0) = false := by simp; omega
    have e2 : decide ((sn : Int) = 0) = false := by simp; omega
    obtain ⟨b, off, hab, _, hc⟩ := HC.out.row.at (by show 0 < sn; omega)
    have hab' : sa = some ⟨b, off, none⟩ := hab
    subst hab'
    have z0 := hc 0 x rfl 0 _ rfl
    have z1 := hc 0 x rfl 1 _ rfl
    simp only [layI, Nat.zero_mul, Nat.add_zero] at z0 z1
    have PU := putI w base p v n E (x, (k : Int)) HQ.out.hp HQ.out.own hbase hl
    have hsnI : (0 : Int) < (sn : Int) := by omega
    have hsn1 : (1 : Int) ≤ (sn : Int) := by omega
    have hsc1 : (1 : Int) ≤ (sc : Int) := by omega
    clear hc hab
    go_enter Try.func34, Try.ntmps34
    go_wp2_with fail
    refine PU.mono ?_
    rintro r w1 ⟨rfl, g, c1, E', hp1, hO1, hpe, hhp, hb1, hg1⟩
    obtain ⟨cgl, hgl⟩ := own_at HO.out gl rfl
    have hgl9 : gl < w.heap.size := (HO.out.lt gl rfl).2
    have NE : Hid (gl ≠ p ∧ v.ownBlock ≠ some gl) := hide ⟨ty_neN hgl HQ.out.hp (by decide), fun e9 => by
      obtain ⟨cur, hcur⟩ := own_at HQ.out.own gl e9
      exact ty_neN hgl hcur (by decide) rfl⟩
    have o1 : Own laySl 24 w1 base (.slice (some ⟨gl, 0, none⟩) N c) ss := HO.out.but hb1 (fun g' hg' => by
      have e7 : some gl = some g' := hg'
      injection e7 with e7
      subst e7
      rintro (e9 | e9)
      · exact NE.out.1 e9
      · exact NE.out.2 e9)
    have hpl1 : p < w1.heap.size := by have := hb1.size; have := HQ.out.lt; omega
    have x1 := o1.cell HS.out 0 rfl
    simp only [laySl, Nat.mul_one, Nat.add_zero] at x1
    have f1 := o1.frozen k
    have O1 : Hid _ := hide o1
    have HP1 : Hid _ := hide hp1
    have HO1 : Hid _ := hide hO1
    have HPE : Hid _ := hide hpe
    have HHP : Hid _ := hide hhp
    have HB1 : Hid _ := hide hb1
    have HG1 : Hid _ := hide hg1
    clear o1 hp1 hO1 hpe hhp hb1 hg1 hgl x0 z0 z1 PU
    by_cases hsc : sc = 1
    · have hn1 : sn = 1 := by omega
      have HN1 : Hid _ := hide hn1
      clear hn1
      go_wp2_with fail
      obtain ⟨w2, hw2⟩ : ∃ w2, w2 = setC w1 gl k [.slice (some ⟨b, off, none⟩) (sn - 1) 0] := ⟨_, rfl⟩
      have hw2' : w1.setCell ⟨gl, k, none⟩ (.slice (some ⟨b, off, none⟩) (sn - 1) 0) = w2 := by rw [hw2]; rfl
      rw [hw2']
      go_end0
      have b2 : But (fun b => b = gl) w1 w2 := by rw [hw2]; exact (But.refl (fun b => b = gl) w1).setC _ (fun _ => rfl)
      have O2 : Own laySl 24 w2 base (.slice (some ⟨gl, 0, none⟩) N c) (ss.set k ⟨(some ⟨b, off, none⟩), sn - 1, 0⟩) := by
        have h9 := O1.out.set HN.out (i := k) (by rw [HN.out]; exact hk) (⟨(some ⟨b, off, none⟩), sn - 1, 0⟩ : Sl)
        rw [hw2]
        simpa [laySl] using h9
      refine ⟨rfl, _, ⟨(some ⟨b, off, none⟩), sn - 1, 0⟩, E', ⟨(b2.block p hpl1 (fun e9 => NE.out.1 e9.symm)).trans HP1.out, HO1.out.but b2 (fun g' hg' e9 => ?_)⟩, by simpa [heads] using HPE.out, HHP.out, O2, fun wx hx => ?_, ?_, fun g' hg' => ?_⟩
      · have e8 : g' = gl := e9
        have e7 : some g = some g' := hg'
        injection e7 with e7
        rcases HG1.out with hg2 | hg2
        · exact NE.out.2 (by rw [← e8, ← e7]; exact hg2)
        · have := hgl9; omega
      · refine ⟨?_, fun e => (by cases e), by show sn - 1 ≤ 0; (try have := HN1.out); omega⟩
        show TRow layI wx (some ⟨b, off, none⟩) (sn - 1) t
        exact ⟨by have h8 := hx.row.len; have h7 : (x :: t).length = sn := h8; simp at h7; omega, .inl (by have := HN1.out; omega)⟩
      · exact (HB1.out.mono (fun b hb => hb.elim .inl (fun e => .inr (.inl e)))).trans b2 (fun b _ e => .inr (.inr e))
      · have e7 : some g = some g' := hg'
        injection e7 with e7
        rw [← e7]
        exact HG1.out
    · skip
      go_wp2_with fail
      obtain ⟨w2, hw2⟩ : ∃ w2, w2 = setC w1 gl k [.slice (some ⟨b, off + 2, none⟩) (sn - 1) (sc - 1)] := ⟨_, rfl⟩
      have hw2' : w1.setCell ⟨gl, k, none⟩ (.slice (some ⟨b, off + 2, none⟩) (sn - 1) (sc - 1)) = w2 := by rw [hw2]; rfl
      rw [hw2']
      go_end0
      have b2 : But (fun b => b = gl) w1 w2 := by rw [hw2]; exact (But.refl (fun b => b = gl) w1).setC _ (fun _ => rfl)
      have O2 : Own laySl 24 w2 base (.slice (some ⟨gl, 0, none⟩) N c) (ss.set k ⟨(some ⟨b, off + 2, none⟩), sn - 1, (sc - 1)⟩) := by
        have h9 := O1.out.set HN.out (i := k) (by rw [HN.out]; exact hk) (⟨(some ⟨b, off + 2, none⟩), sn - 1, (sc - 1)⟩ : Sl)
        rw [hw2]
        simpa [laySl] using h9
      refine ⟨rfl, _, ⟨(some ⟨b, off + 2, none⟩), sn - 1, (sc - 1)⟩, E', ⟨(b2.block p hpl1 (fun e9 => NE.out.1 e9.symm)).trans HP1.out, HO1.out.but b2 (fun g' hg' e9 => ?_)⟩, by simpa [heads] using HPE.out, HHP.out, O2, fun wx hx => ?_, ?_, fun g' hg' => ?_⟩
      · have e8 : g' = gl := e9
        have e7 : some g = some g' := hg'
        injection e7 with e7
        rcases HG1.out with hg2 | hg2
        · exact NE.out.2 (by rw [← e8, ← e7]; exact hg2)
        · have := hgl9; omega
      · refine ⟨?_, fun e => (by cases e), by show sn - 1 ≤ (sc - 1); (try have := HN1.out); omega⟩
        show TRow layI wx (some ⟨b, off + 2, none⟩) (sn - 1) t
        exact hx.row.drop 1 (by show 1 ≤ sn; omega)
      · exact (HB1.out.mono (fun b hb => hb.elim .inl (fun e => .inr (.inl e)))).trans b2 (fun b _ e => .inr (.inr e))
      · have e7 : some g = some g' := hg'
        injection e7 with e7
        rw [← e7]
        exact HG1.out
end Go.Proofs.Ytdmlehbamdcjcab
