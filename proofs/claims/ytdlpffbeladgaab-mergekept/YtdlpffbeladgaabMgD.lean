/-
  The records of a merger in their turn: inTurn and what it hands back.
-/
import Derived.Test.YtdlpffbeladgaabMgN
import Derived.Test.YtdlpffbeladgaabRgT
namespace Go.Proofs.Ytdlpffbeladgaab
open Go.RowKit Go.Maps Go.Shelf
attribute [local go_sem] Oper.semAt_some
theorem inturn_any {w : World} {base p ph : Nat} {rv : Value} {gs : List Int} {s : MSt} (h : Mgr w base p rv ph gs s) :
    Calls Try.prog 19 #[.pointer (some ⟨p, 0, none⟩)] w fun r w' => r = .returned (.func (.func 31) #[] #[.pointer (some ⟨w.heap.size, 0, none⟩), .pointer (some ⟨w.heap.size + 1, 0, none⟩)]) ∧ w' = (w.alloc (.cells #[.pointer (some ⟨p, 0, none⟩)] 56)).alloc (.cells #[.pointer (some ⟨ph, 0, none⟩)] 69) := by
  obtain ⟨_, c1, _, _, hp⟩ := h.cells
  clear h
  go_enter Try.func19, Try.ntmps19
  go_wp2
  go_ret
  exact ⟨rfl, rfl⟩
/-- A record is taken. -/
structure Take (base p : Nat) (rv : Value) (ph : Nat) (gs : List Int) (s : MSt) (x : Int × Rc) (W W2 : World) (s2 : MSt) : Prop where
  pick : ∃ k t, gs[k]? = some x.1 ∧ Pick s.Ls k x.2 t ∧ x.2.stamp = s.at_ ∧ s2.Ls = s.Ls.set k t ∧ s2.at_ = s.at_ + 1
  mgr : Mgr W2 base p rv ph gs s2
  but : But (Mine p rv ph s.hv) W W2
  new : ∀ q, s2.hv.ownBlock = some q → s.hv.ownBlock = some q ∨ W.heap.size ≤ q
def leftV (W : World) (p : Nat) : Nat := numV ((W.cell? ⟨p, 3, none⟩).getD undef)
theorem Mgr.leftV {w : World} {base p ph : Nat} {rv : Value} {gs : List Int} {s : MSt} (h : Mgr w base p rv ph gs s) : leftV w p = tot s.Ls := by
  unfold Go.Proofs.Ytdlpffbeladgaab.leftV
  rw [h.cells.2.2.2.1]
  simp [numV]
theorem RecAt.tail {w : World} {base : Nat} {b off n c : Nat} {r : Rc} {t : List Rc} (h : RecAt w base ⟨some ⟨b, off, none⟩, n, c⟩ (r :: t)) : RecAt w base ⟨if c = 1 then some ⟨b, off, none⟩ else some ⟨b, off + 5, none⟩, n - 1, c - 1⟩ t := by
  have hl := h.row.len
  have hc := h.cap
  dsimp only at hl hc
  have h1 := h.row.drop_if 1 (by rw [← hl]; simp) hc
  refine ⟨?_, by dsimp only; omega, fun ht => ?_⟩
  · have h2 := h1
    simp only [List.drop_succ_cons, List.drop_zero, layR, Nat.one_mul] at h2
    exact h2
  · obtain ⟨b', off', cur, e1, e2, e3⟩ := h.blk (by simp)
    dsimp only at e1
    cases e1
    have : ¬ c = 1 := by
      have : 0 < t.length := List.length_pos_iff.2 ht
      simp at hl
      omega
    exact ⟨b, off + 5, cur, by rw [if_neg this], e2, e3⟩
theorem Mgr.step {w X : World} {base p ph : Nat} {rv : Value} {gs : List Int} {s : MSt} {k : Nat} {r : Rc} {t : List Rc} {rws : List Rw} {hv : Value} {n : Int} {S : List (Hd × Int)} (h : Mgr w base p rv ph gs s) (hpk : Pick s.Ls k r t) (hst : r.stamp = s.at_)
    (hP : X.heap[p]? = some (.cells #[rv, .pointer (some ⟨ph, 0, none⟩), .int .i64 s.at_, .int .i64 (tot s.Ls : Int)] 74 (0, 0))) (hO : Own layW 40 X base rv rws) (hl : rws.length = gs.length)
    (hE : ∀ (j : Nat) (rw : Rw) (g : Int) (L : List Rc), rws[j]? = some rw → gs[j]? = some g → (s.Ls.set k t)[j]? = some L → rw.g = g ∧ RecAt X base rw.s L) (hS : HsH X base ph hv n S) (hD : Hds (s.Ls.set k t) S) (hSl : S.length ≤ gs.length) (hn : n ≤ s.n + 1) :
    Mgr ((X.setCell ⟨p, 2, none⟩ (.int .i64 (s.at_ + 1))).setCell ⟨p, 3, none⟩ (.int .i64 ((tot s.Ls : Int) - 1))) base p rv ph gs ⟨s.Ls.set k t, s.at_ + 1, hv, n⟩ ∧ But (fun q => q = p) X ((X.setCell ⟨p, 2, none⟩ (.int .i64 (s.at_ + 1))).setCell ⟨p, 3, none⟩ (.int .i64 ((tot s.Ls : Int) - 1))) := by
  have hb : But (fun q => q = p) X ((X.setCell ⟨p, 2, none⟩ (.int .i64 (s.at_ + 1))).setCell ⟨p, 3, none⟩ (.int .i64 ((tot s.Ls : Int) - 1))) := ((But.refl (fun q => q = p) X).setCell ⟨p, 2, none⟩ (fun _ => rfl) _).setCell ⟨p, 3, none⟩ (fun _ => rfl) _
  have hty : ∀ {b : Nat} {cur : Array Value} {T : TypeId}, X.heap[b]? = some (.cells cur T (0, 0)) → T ≠ 74 → ¬ b = p := fun h1 h2 e => by
    rw [e, hP] at h1
    simp at h1
    exact h2 h1.2.symm
  have ht := tot_set hpk.at_
  have hr := (h.st _ (List.mem_of_getElem? hpk.at_))
  have hr0 := hr.2 r (List.mem_cons_self ..)
  refine ⟨⟨?_, ⟨rws, hO.but hb (fun q hq => by obtain ⟨cu, hcu⟩ := own_ty hO hq; exact hty hcu (by decide)), hl, fun j rw g L a1 a2 a3 => ⟨(hE j rw g L a1 a2 a3).1, (hE j rw g L a1 a2 a3).2.but hb (fun b cu _ h8 => hty h8 (by decide))⟩⟩, ⟨S, ?_, hD, hSl⟩, ?_, h.few, ?_, ?_, ?_, ?_, h.ge, h.geh⟩, hb⟩
  · have h1 := set1_heap (i := 3) (.int .i64 ((tot s.Ls : Int) - 1)) (set1_heap (i := 2) (.int .i64 (s.at_ + 1)) hP)
    have e1 : ((tot s.Ls : Int) - 1) = ((tot (s.Ls.set k t) : Nat) : Int) := by omega
    rw [h1, e1]; rfl
  · exact hS.but hb (hty hS.blk (by decide)) (fun q hq => by obtain ⟨_, _, cu, hcu⟩ := hS.own q hq; exact hty hcu (by decide))
  · rw [List.length_set, h.len]
  · have := h.n1
    dsimp only
    omega
  · intro L hL
    rcases List.mem_or_eq_of_mem_set hL with h9 | h9
    · exact h.st L h9
    · subst h9
      exact ⟨(List.pairwise_cons.1 hr.1).2, fun x hx => hr.2 x (List.mem_cons_of_mem _ hx)⟩
  · have := h.at0; dsimp only; omega
  · dsimp only; omega
set_option maxRecDepth 100000 in
set_option maxHeartbeats 25600000 in
theorem turn_in (n : Nat) (l B1 B2 base p ph : Nat) (rv : Value) (gs : List Int) (J : MSt → World → Prop) (Jx : World → Prop)
    (hJ : ∀ s W, J s W → Mgr W base p rv ph gs s ∧ W.cell? ⟨B1, 0, none⟩ = some (.pointer (some ⟨p, 0, none⟩)) ∧ W.cell? ⟨B2, 0, none⟩ = some (.pointer (some ⟨ph, 0, none⟩)) ∧ (∀ s, Mgr W base p rv ph gs s → ¬ Mine p rv ph s.hv B1 ∧ ¬ Mine p rv ph s.hv B2) ∧ base ≤ W.heap.size)
    (hJb : ∀ s W W', J s W → Below W.heap.size W W' → J s W')
    (hY : ∀ s x W1 W2 s2, J s W1 → Take base p rv ph gs s x W1 W2 s2 → YieldAt Fence.wide (n - 1) Try.prog l #[.int .i64 x.1, .agg #[.int .i64 x.2.stamp, .int .i64 x.2.kind, .int .u64 x.2.obj, .int .u64 x.2.arg, .int .i64 x.2.stack]] W2 fun e W' => (e = .returned (.bool true) ∧ J s2 W') ∨ (e = .returned (.bool false) ∧ Jx W'))
    (W : World) (s0 : MSt) (h0 : J s0 W) (hn : 1 ≤ n) :
    CallsIn Fence.wide n Try.prog 31 #[.func (.yield l) #[] #[], .pointer (some ⟨B1, 0, none⟩), .pointer (some ⟨B2, 0, none⟩)] W fun e W' => (∃ v, e = .returned v) ∧ ((∃ s, (∃ f, Flt s.Ls s.at_ f ∧ f ≠ 0) ∧ J s W') ∨ Jx W') := by
  have HJ : Hid _ := hide hJ
  have HJb : Hid _ := hide hJb
  have HY : Hid _ := hide hY
  clear hJ hJb hY
  refine callsIn_of_wp Try.func31 rfl trivial ?_ rfl
  simp only [Try.ntmps31, List.size_toArray, List.length_cons, List.length_nil, Nat.reduceAdd, Nat.reduceSub, Array.replicate_succ, Array.replicate_zero, List.push_toArray, List.append_toArray, List.nil_append, List.cons_append]
  gi_wp2_with fail
  gi_loopw [8] (fun _ wr => ∃ s, Hid (J s wr)) (fun _ wr => leftV wr p)
  case atStart => exact ⟨s0, hide h0⟩
  case round =>
    obtain ⟨s, HJs⟩ := hrel
    refine wpIn_wide.2 ?_
    obtain ⟨M, c1, c2, -, hbs⟩ := HJ.out _ _ HJs.out
    have FA := fault_any M
    have hlv := M.leftV
    have HLV : Hid _ := hide hlv
    clear M hlv
    go_wp2_with fail
    refine FA.mono ?_
    rintro rr w1 ⟨f, rfl, hf, b1⟩
    clear FA
    have hJ1 := HJb.out s wr w1 HJs.out b1
    have HJ1 : Hid _ := hide hJ1
    have hLV1 : leftV w1 p = leftV wr p := by
      obtain ⟨M1, _⟩ := HJ.out _ _ hJ1
      rw [M1.leftV, HLV.out]
    have HLV1 : Hid _ := hide hLV1
    by_cases hf0 : f = 0
    · subst hf0
      obtain ⟨M1, d1, d2, hmine, hbs1⟩ := HJ.out _ _ hJ1
      obtain ⟨k, r, t, hpk, hst⟩ : ∃ k r t, Pick s.Ls k r t ∧ r.stamp = s.at_ := by
        rcases hf with ⟨h9, _⟩ | ⟨k, r, t, h1, h2⟩
        · omega
        · refine ⟨k, r, t, h1, ?_⟩
          by_cases q1 : r.stamp < s.at_
          · rw [if_pos q1] at h2; omega
          · rw [if_neg q1] at h2
            by_cases q2 : s.at_ < r.stamp
            · rw [if_pos q2] at h2; omega
            · omega
      obtain ⟨S, hS, hD, hSl⟩ := M1.heap
      cases S with
      | nil => exact absurd (hD.nil _ (List.mem_of_getElem? hpk.at_)) (by simp)
      | cons e S =>
        obtain ⟨k', r', t', hpk', he⟩ := hD.pick hS.srt
        obtain ⟨e1, e2, e3⟩ := hpk.uniq hpk'
        subst e1; subst e2; subst e3
        have PO := hpopH hS (by simp at hSl; have := M1.few; omega)
        rw [he] at PO
        dsimp only at PO
        obtain ⟨rws, ho, hrl, heach⟩ := M1.rows
        have hkl : k < gs.length := by rw [← M1.len]; exact get_lt hpk.at_
        obtain ⟨g, hgk⟩ : ∃ g, gs[k]? = some g := ⟨_, List.getElem?_eq_getElem hkl⟩
        obtain ⟨x, hxk⟩ : ∃ x, rws[k]? = some x := ⟨_, List.getElem?_eq_getElem (by rw [hrl]; exact hkl)⟩
        obtain ⟨hxg, hra⟩ := heach k x g _ hxk hgk hpk.at_
        obtain ⟨rb, rc, hrv, hrb0, hrb1, hrc⟩ := ho.frm (by rw [hrl]; omega)
        rw [hrl] at hrv
        obtain ⟨N, hN⟩ : ∃ N, N = gs.length := ⟨_, rfl⟩
        rw [← hN] at hrv
        have HN : Hid _ := hide hN
        have hkN : k < N := by omega
        have hN6 : Hid (N ≤ 65536) := hide (by rw [hN]; exact M1.few)
        clear hN
        obtain ⟨xg, xs⟩ := x
        obtain ⟨xa, xn, xc⟩ := xs
        dsimp only at hxg
        subst hxg
        obtain ⟨b, off, cur, hxa, hbb, hcur⟩ := hra.blk (by simp)
        dsimp only at hxa
        subst hxa
        obtain ⟨_, _, _, _, hp1⟩ := M1.cells
        have HM1 : Hid _ := hide M1
        have HS : Hid _ := hide hS
        have HD : Hid _ := hide hD
        have HSl : Hid _ := hide hSl
        have HPk : Hid _ := hide hpk
        have HSt : Hid _ := hide hst
        have HE : Hid _ := hide he
        have HO : Hid _ := hide ho
        have HRl : Hid _ := hide hrl
        have HEa : Hid _ := hide heach
        have HG : Hid _ := hide hgk
        have HX : Hid _ := hide hxk
        have HRa : Hid _ := hide hra
        have HCu : Hid _ := hide hcur
        have HRV : Hid _ := hide hrv
        have HMi : Hid _ := hide hmine
        have hd2l := World.block_lt_of_cell? _ _ d2
        have hd1l := World.block_lt_of_cell? _ _ d1
        clear hf hJ1 hLV1 M1 hS hD hSl hpk hpk' hst he ho hrl heach hgk hxk hra hcur hmine b1 hrv hrc
        go_wp2_with fail
        refine PO.mono ?_
        rintro rr w2 ⟨rfl, hv2, hs2, b2, n2⟩
        clear PO
        obtain ⟨w3, hw3⟩ : ∃ w3, w3 = w2.alloc (.cells #[.int .i64 r.stamp, .int .i64 (k : Int)] 72) := ⟨_, rfl⟩
        have hs12 := b2.size
        have b3 : But (fun q => q = ph ∨ s.hv.ownBlock = some q) w1 w3 := by rw [hw3]; exact b2.alloc _
        have HB3 : Hid _ := hide b3
        have HS3 : Hid (HsH w3 base ph hv2 s.n S) := hide (by rw [hw3]; exact hs2.below (below_alloc1 _ _))
        have r3 : w3.heap[w2.heap.size]? = some (.cells #[.int .i64 r.stamp, .int .i64 (k : Int)] 72 (0, 0)) := by rw [hw3]; exact heap_new _ _
        have s3 : w2.heap.size < w3.heap.size := by rw [hw3]; simp
        have HR3 : Hid _ := hide r3
        have HW3 : Hid _ := hide hw3
        have HN2 : Hid _ := hide n2
        have hP3 : w3.heap[p]? = some (.cells #[rv, .pointer (some ⟨ph, 0, none⟩), .int .i64 s.at_, .int .i64 (tot s.Ls : Int)] 74 (0, 0)) := (b3.block p hp1 (fun e => by
          rcases e with e | e
          · have := HS.out.blk; rw [← e, HM1.out.blk] at this; simp at this
          · obtain ⟨_, _, cu, hcu⟩ := HS.out.own _ e; rw [HM1.out.blk] at hcu; simp at hcu)).trans HM1.out.blk
        have HP3 : Hid _ := hide hP3
        have HO3 : Hid (Own layW 40 w3 base rv rws) := hide (HO.out.but b3 (fun q hq e => by
          obtain ⟨cu, hcu⟩ := own_ty HO.out hq
          rcases e with e | e
          · have := HS.out.blk; rw [← e, hcu] at this; simp at this
          · obtain ⟨_, _, cu', hcu'⟩ := HS.out.own _ e; rw [hcu] at hcu'; simp at hcu'))
        have hA3 : ∀ {sl : Sl} {L : List Rc}, RecAt w1 base sl L → RecAt w3 base sl L := fun h => h.but b3 (fun b' cu _ h8 e => by
          rcases e with e | e
          · have := HS.out.blk; rw [← e, h8] at this; simp at this
          · obtain ⟨_, _, cu', hcu'⟩ := HS.out.own _ e; rw [h8] at hcu'; simp at hcu')
        have HA3 : Hid (∀ (j : Nat) (rw : Rw) (g : Int) (L : List Rc), rws[j]? = some rw → gs[j]? = some g → s.Ls[j]? = some L → rw.g = g ∧ RecAt w3 base rw.s L) := hide (fun j rw g L q1 q2 q3 => ⟨(HEa.out j rw g L q1 q2 q3).1, hA3 (HEa.out j rw g L q1 q2 q3).2⟩)
        have hR3 := hA3 HRa.out
        have HRa3 : Hid _ := hide hR3
        obtain ⟨bq, oq, hq9, hbq, hcells⟩ := hR3.row.at (by have := hR3.row.len; simp at this; dsimp only; omega)
        dsimp only at hq9
        cases hq9
        have v0 := hcells 0 r rfl 0 _ rfl
        have v1 := hcells 0 r rfl 1 _ rfl
        have v2 := hcells 0 r rfl 2 _ rfl
        have v3 := hcells 0 r rfl 3 _ rfl
        have v4 := hcells 0 r rfl 4 _ rfl
        simp only [layR, Nat.add_zero, Nat.zero_mul] at v0 v1 v2 v3 v4
        have hxn : xn = t.length + 1 := by have := hR3.row.len; simp at this; exact this.symm
        have hxc : xn ≤ xc := hR3.cap
        have q0 : w3.cell? ⟨p, 0, none⟩ = some rv := cell_at hP3 rfl
        rw [HRV.out] at q0
        have u1 := HO3.out
        rw [HRV.out] at u1
        have x0 := u1.cell HX.out 0 (u := .int .i64 xg) rfl
        have x1 := u1.cell HX.out 1 (u := .slice (some ⟨b, off, none⟩) xn xc) rfl
        have fzr := u1.frozen (k * 2 + 1)
        simp only [layW, Nat.add_zero] at x0 x1
        have e1 : w3.cell? ⟨w2.heap.size, 1, none⟩ = some (.int .i64 (k : Int)) := cell_at r3 rfl
        have HB1 : Hid (w3.cell? ⟨B1, 0, none⟩ = some (.pointer (some ⟨p, 0, none⟩)) ∧ w3.cell? ⟨B2, 0, none⟩ = some (.pointer (some ⟨ph, 0, none⟩))) := hide (by
          obtain ⟨m1, m2⟩ := HMi.out s HM1.out
          refine ⟨cell_but d1 b3 (fun e => m1 ?_), cell_but d2 b3 (fun e => m2 ?_)⟩
          · rcases e with e | e
            · exact .inr (.inr (.inl e))
            · exact .inr (.inr (.inr e))
          · rcases e with e | e
            · exact .inr (.inr (.inl e))
            · exact .inr (.inr (.inr e)))
        obtain ⟨f1, f2⟩ := HB1.out
        have hkI : (k : Int) < (N : Int) := by omega
        clear hs2 b2 n2 hw3 b3 r3 hP3 hA3 hR3 hcells u1 d1 d2
        go_wp2_with fail
        rw [← HW3.out]
        go_quiet (fail)
        generalize hwd : w3.drewN _ = w4
        have b4 : Below w3.heap.size w3 w4 := by rw [← hwd]; exact below_drewN (Below.refl _ _) _
        have hrb3 : rb < w3.heap.size := World.block_lt_of_cell? _ _ x0
        have hb3l : b < w3.heap.size := World.block_lt_of_cell? _ _ v0
        obtain ⟨w5, hw5⟩ : ∃ w5, w5 = w4.alloc (.cells #[.int .i64 r.stamp, .int .i64 r.kind, .int .u64 r.obj, .int .u64 r.arg, .int .i64 r.stack] 42) := ⟨_, rfl⟩
        have b45 : Below w4.heap.size w4 w5 := by rw [hw5]; exact below_alloc1 _ _
        have b35 : Below w3.heap.size w3 w5 := b4.trans (b45.mono b4.size)
        have r5 : w5.heap[w4.heap.size]? = some (.cells #[.int .i64 r.stamp, .int .i64 r.kind, .int .u64 r.obj, .int .u64 r.arg, .int .i64 r.stack] 42 (0, 0)) := by rw [hw5]; exact heap_new _ _
        have s45 : w4.heap.size < w5.heap.size := by rw [hw5]; simp
        have s34 := b4.size
        have x14 : w4.cell? ⟨rb, k * 2 + 1, none⟩ = some (.slice (some ⟨b, off, none⟩) xn xc) := (b4.cell (p := ⟨rb, k * 2 + 1, none⟩) hrb3).trans x1
        have y0 : w4.cell? ⟨b, off, none⟩ = some (.int .i64 r.stamp) := (b4.cell (p := ⟨b, off, none⟩) hb3l).trans v0
        have y1 : w4.cell? ⟨b, off + 1, none⟩ = some (.int .i64 r.kind) := (b4.cell (p := ⟨b, off + 1, none⟩) hb3l).trans v1
        have y2 : w4.cell? ⟨b, off + 2, none⟩ = some (.int .u64 r.obj) := (b4.cell (p := ⟨b, off + 2, none⟩) hb3l).trans v2
        have y3 : w4.cell? ⟨b, off + 3, none⟩ = some (.int .u64 r.arg) := (b4.cell (p := ⟨b, off + 3, none⟩) hb3l).trans v3
        have y4 : w4.cell? ⟨b, off + 4, none⟩ = some (.int .i64 r.stack) := (b4.cell (p := ⟨b, off + 4, none⟩) hb3l).trans v4
        have x15 : w5.cell? ⟨rb, k * 2 + 1, none⟩ = some (.slice (some ⟨b, off, none⟩) xn xc) := (b35.cell (p := ⟨rb, k * 2 + 1, none⟩) hrb3).trans x1
        have HR5 : Hid _ := hide r5
        have HW5 : Hid _ := hide hw5
        have HO5 : Hid _ := hide (HO3.out.below b35)
        have HS5 : Hid _ := hide (HS3.out.below b35)
        have HRa5 : Hid (RecAt w5 base ⟨some ⟨b, off, none⟩, xn, xc⟩ (r :: t)) := hide (HRa3.out.but (S := fun _ => False) (But.of_below b35) (fun _ _ _ _ e => e))
        have HA5 : Hid (∀ (j : Nat) (rw : Rw) (g : Int) (L : List Rc), rws[j]? = some rw → gs[j]? = some g → s.Ls[j]? = some L → rw.g = g ∧ RecAt w5 base rw.s L) := hide (fun j rw g L q1 q2 q3 => ⟨(HA3.out j rw g L q1 q2 q3).1, (HA3.out j rw g L q1 q2 q3).2.but (S := fun _ => False) (But.of_below b35) (fun _ _ _ _ e => e)⟩)
        have HP5 : Hid _ := hide ((b35.block p (Array.getElem?_eq_some_iff.1 HP3.out).1).trans HP3.out)
        have HB15 : Hid (w5.cell? ⟨B1, 0, none⟩ = some (.pointer (some ⟨p, 0, none⟩)) ∧ w5.cell? ⟨B2, 0, none⟩ = some (.pointer (some ⟨ph, 0, none⟩))) := hide ⟨(b35.cell (p := ⟨B1, 0, none⟩) (World.block_lt_of_cell? _ _ f1)).trans f1, (b35.cell (p := ⟨B2, 0, none⟩) (World.block_lt_of_cell? _ _ f2)).trans f2⟩
        have HR35 : Hid _ := hide ((b35.block w2.heap.size s3).trans HR3.out)
        have HB05 : Hid (But (fun q => q = ph ∨ s.hv.ownBlock = some q) w1 w5) := hide (HB3.out.on b35)
        have u5 := HO5.out
        rw [HRV.out] at u5
        have fz5 := u5.frozen (k * 2 + 1)
        have HTl : Hid _ := hide HRa5.out.tail
        -- the store of what is left of the row
        have W6 : Hid (∀ sl : Sl, RecAt w5 base sl t → But (fun q => q = rb) w5 (w5.setCell ⟨rb, k * 2 + 1, none⟩ (.slice sl.a sl.n sl.c)) ∧ Own layW 40 (w5.setCell ⟨rb, k * 2 + 1, none⟩ (.slice sl.a sl.n sl.c)) base rv (rws.set k ⟨xg, sl⟩) ∧ (∀ (j : Nat) (rw : Rw) (g : Int) (L : List Rc), (rws.set k ⟨xg, sl⟩)[j]? = some rw → gs[j]? = some g → (s.Ls.set k t)[j]? = some L → rw.g = g ∧ RecAt (w5.setCell ⟨rb, k * 2 + 1, none⟩ (.slice sl.a sl.n sl.c)) base rw.s L) ∧ HsH (w5.setCell ⟨rb, k * 2 + 1, none⟩ (.slice sl.a sl.n sl.c)) base ph hv2 s.n S ∧ (w5.setCell ⟨rb, k * 2 + 1, none⟩ (.slice sl.a sl.n sl.c)).heap[p]? = some (.cells #[rv, .pointer (some ⟨ph, 0, none⟩), .int .i64 s.at_, .int .i64 (tot s.Ls : Int)] 74 (0, 0))) := hide (fun sl hsl => by
          have hb : But (fun q => q = rb) w5 (w5.setCell ⟨rb, k * 2 + 1, none⟩ (.slice sl.a sl.n sl.c)) := (But.refl (fun q => q = rb) w5).setCell ⟨rb, k * 2 + 1, none⟩ (fun _ => rfl) _
          have hty : ∀ {b : Nat} {cur : Array Value} {T : TypeId}, w5.heap[b]? = some (.cells cur T (0, 0)) → T ≠ 40 → ¬ b = rb := fun h1 h2 e => by
            obtain ⟨cu, hcu⟩ := own_ty u5 (b := rb) rfl
            rw [e, hcu] at h1
            simp at h1
            exact h2 h1.2.symm
          refine ⟨hb, ?_, fun j rw g L q1 q2 q3 => ?_, HS5.out.but hb (hty HS5.out.blk (by decide)) (fun q hq => by obtain ⟨_, _, cu, hcu⟩ := HS5.out.own q hq; exact hty hcu (by decide)), (hb.block p (Array.getElem?_eq_some_iff.1 HP5.out).1 (hty HP5.out (by decide))).trans HP5.out⟩
          · rw [HRV.out]
            exact Own.set1 u5 (by rw [HRl.out, HN.out]) HX.out sl
          · by_cases hj : k = j
            · subst hj
              rw [List.getElem?_set_self (get_lt HX.out)] at q1
              rw [List.getElem?_set_self (get_lt HPk.out.at_)] at q3
              injection q1 with q1
              injection q3 with q3
              subst q1; subst q3
              rw [HG.out] at q2
              injection q2 with q2
              exact ⟨q2, hsl.but hb (fun b' cu _ h8 => hty h8 (by decide))⟩
            · rw [List.getElem?_set_ne hj] at q1 q3
              exact ⟨(HA5.out j rw g L q1 q2 q3).1, (HA5.out j rw g L q1 q2 q3).2.but hb (fun b' cu _ h8 => hty h8 (by decide))⟩)
        have hne : ∀ (q : Nat) (cur : Array Value) (T : TypeId), w5.heap[q]? = some (.cells cur T (0, 0)) → T ≠ 40 → ¬ q = rb := fun q cur T h1 h2 e => by
            obtain ⟨cu, hcu⟩ := own_ty u5 (b := rb) rfl
            rw [e, hcu] at h1
            simp at h1
            exact h2 h1.2.symm
        have HNe : Hid _ := hide hne
        clear hwd b4 hw5 b45 b35 r5 v0 v1 v2 v3 v4 x1 u5 f1 f2 fzr hne q0
        cases t with
        | nil =>
          have hx1 : xn = 1 := by simpa using hxn
          subst hx1
          clear hxn
          by_cases hxc1 : xc = 1
          · subst hxc1
            go_upto_region 4 with fail
            rw [← HW5.out]
            clear y0 y1 y2 y3 y4 x14
            obtain ⟨c1, c2, c3, c4, c5⟩ := W6.out ⟨some ⟨b, off, none⟩, 0, 0⟩ (by have h9 := HTl.out; rw [if_pos rfl] at h9; exact h9)
            obtain ⟨w6, hw6⟩ : ∃ w6, w6 = w5.setCell ⟨rb, k * 2 + 1, none⟩ (.slice (some ⟨b, off, none⟩) 0 (0)) := ⟨_, rfl⟩
            have hw6' : w6 = w5.setCell ⟨rb, k * 2 + 1, none⟩ (.slice (⟨some ⟨b, off, none⟩, 0, 0⟩ : Sl).a (⟨some ⟨b, off, none⟩, 0, 0⟩ : Sl).n (⟨some ⟨b, off, none⟩, 0, 0⟩ : Sl).c) := hw6
            rw [← hw6'] at c1 c2 c3 c4 c5
            have HPX : Hid _ := hide c5
            have HOX : Hid _ := hide c2
            have HEX : Hid _ := hide c3
            have HSX : Hid _ := hide c4
            have HBX : Hid (But (Mine p rv ph s.hv) w1 w6) := hide ((HB05.out.mono (T := Mine p rv ph s.hv) (fun q e => e.elim (fun e => .inr (.inr (.inl e))) (fun e => .inr (.inr (.inr e))))).trans c1 (fun q _ e => .inr (.inl (by rw [HRV.out]; have e9 : q = rb := e; rw [e9]; rfl))))
            have HRX : Hid _ := hide ((c1.block w4.heap.size s45 (HNe.out _ _ _ HR5.out (by decide))).trans HR5.out)
            have HC1 : Hid (w6.cell? ⟨B1, 0, none⟩ = some (.pointer (some ⟨p, 0, none⟩))) := hide (cell_but HB15.out.1 c1 (fun e => (HMi.out s HM1.out).1 (.inr (.inl (by rw [HRV.out]; have e9 : B1 = rb := e; rw [e9]; rfl)))))
            have uu := c2
            rw [HRV.out] at uu
            have x16 := uu.cell (List.getElem?_set_self (get_lt HX.out)) 1 (u := .slice (some ⟨b, off, none⟩) 0 (0)) rfl
            simp only [layW] at x16
            have HW6 : Hid _ := hide hw6
            clear hw6 hw6' c1 c2 c3 c4 c5 uu
            go_upto_region 5 with fail
            rw [← HW6.out]
            clear x15 fz5
            obtain ⟨M8, b8⟩ := Mgr.step HM1.out HPk.out HSt.out HPX.out HOX.out (by rw [List.length_set, HRl.out]) HEX.out HSX.out (HD.out.pop HPk.out.at_ HE.out) (by have := HSl.out; simp at this; omega) (by omega)
            obtain ⟨w8, hw8⟩ : ∃ w8, w8 = (w6.setCell ⟨p, 2, none⟩ (.int .i64 (s.at_ + 1))).setCell ⟨p, 3, none⟩ (.int .i64 ((tot s.Ls : Int) - 1)) := ⟨_, rfl⟩
            rw [← hw8] at M8 b8
            have HM8 : Hid _ := hide M8
            have hBp : ¬ B1 = p := fun e => (HMi.out s HM1.out).1 (.inl e)
            have hrp : ¬ rb = p := fun e => by
              obtain ⟨cu, hcu⟩ := own_ty HOX.out (b := rb) (by rw [HRV.out]; rfl)
              rw [e, HPX.out] at hcu
              simp at hcu
            have g1 := HC1.out
            have g2 : w6.cell? ⟨p, 2, none⟩ = some (.int .i64 s.at_) := cell_at HPX.out rfl
            have g3 : w6.cell? ⟨p, 3, none⟩ = some (.int .i64 (tot s.Ls : Int)) := cell_at HPX.out rfl
            have fz2 := frz HPX.out 2
            have fz3 := frz HPX.out 3
            have hat := HM1.out.at1
            have hat0 := HM1.out.at0
            have htI : (tot s.Ls : Int) ≤ 2000000 := by have := HM1.out.n1; have := HS.out.n0; omega
            have htI0 : (0 : Int) ≤ (tot s.Ls : Int) := by omega
            have uX := HOX.out
            rw [HRV.out] at uX
            have m0 := uX.cell (List.getElem?_set_self (get_lt HX.out)) 0 (u := .int .i64 xg) rfl
            simp only [layW, Nat.add_zero] at m0
            have j0 : w8.cell? ⟨rb, k * 2, none⟩ = some (.int .i64 xg) := cell_but m0 b8 hrp
            have r8 := (b8.block w4.heap.size (Array.getElem?_eq_some_iff.1 HRX.out).1 (fun e => by have e9 : w4.heap.size = p := e; rw [e9, HPX.out] at HRX; exact absurd HRX.out (by simp))).trans HRX.out
            have k0 : w8.cell? ⟨w4.heap.size, 0, none⟩ = some (.int .i64 r.stamp) := cell_at r8 rfl
            have k1 : w8.cell? ⟨w4.heap.size, 1, none⟩ = some (.int .i64 r.kind) := cell_at r8 rfl
            have k2 : w8.cell? ⟨w4.heap.size, 2, none⟩ = some (.int .u64 r.obj) := cell_at r8 rfl
            have k3 : w8.cell? ⟨w4.heap.size, 3, none⟩ = some (.int .u64 r.arg) := cell_at r8 rfl
            have k4 : w8.cell? ⟨w4.heap.size, 4, none⟩ = some (.int .i64 r.stack) := cell_at r8 rfl
            have HB8 : Hid (But (Mine p rv ph s.hv) w1 w8) := hide (HBX.out.trans b8 (fun q _ e => .inl e))
            have HY8 : Hid (∀ W2, Below w8.heap.size w8 W2 → YieldAt Fence.wide (n - 1) Try.prog l #[.int .i64 xg, .agg #[.int .i64 r.stamp, .int .i64 r.kind, .int .u64 r.obj, .int .u64 r.arg, .int .i64 r.stack]] W2 fun e W' => (e = .returned (.bool true) ∧ J ⟨s.Ls.set k ([]), s.at_ + 1, hv2, s.n⟩ W') ∨ (e = .returned (.bool false) ∧ Jx W')) := hide (fun W2 hW2 =>
              HY.out s (xg, r) w1 W2 ⟨s.Ls.set k ([]), s.at_ + 1, hv2, s.n⟩ HJ1.out ⟨⟨k, [], HG.out, HPk.out, HSt.out, rfl, rfl⟩, HM8.out.below hW2, HB8.out.on hW2, fun q hq => .inl (by rw [← HN2.out]; exact hq)⟩)
            have HW8 : Hid _ := hide hw8
            have HTS : Hid (tot (s.Ls.set k ([])) < tot s.Ls) := hide (by have := tot_set HPk.out.at_; omega)
            clear M8 b8 hw8 r8 uX m0
            go_upto_region 9 with fail
            rw [← HW8.out]
            clear g1 g2 g3 fz2 fz3
            refine (wpIn_wide (n := n)).1 ?_
            obtain ⟨fn, tm, asg, bd, hy, hR⟩ := HY8.out w8.drew (Below.refl _ _).drew
            have HR9 : Hid _ := hide (hR.mono (R' := fun e W' => ∃ bo : Bool, e = .returned (.bool bo) ∧ Hid ((bo = true ∧ J ⟨s.Ls.set k ([]), s.at_ + 1, hv2, s.n⟩ W') ∨ (bo = false ∧ Jx W'))) (fun e W' h9 => by
              rcases h9 with ⟨rfl, h9⟩ | ⟨rfl, h9⟩
              · exact ⟨true, rfl, hide (.inl ⟨rfl, h9⟩)⟩
              · exact ⟨false, rfl, hide (.inr ⟨rfl, h9⟩)⟩))
            clear hR
            gi_region_with (refine HR9.out.mono ?_; rintro e9 W9 ⟨bo, rfl, HJ9⟩)
            all_goals (clear hy j0 k0 k1 k2 k3 k4)
            all_goals rcases HJ9.out with ⟨rfl, hJ9⟩ | ⟨rfl, hJ9⟩
            all_goals first
              | (have HJx : Hid (J _ W9) := hide hJ9
                 clear hJ9 HJ9
                 go_wp2
                 refine ⟨?_, ?_⟩
                 · (repeat apply Exists.intro)
                   exact ⟨⟨_, HJx⟩, rfl⟩
                 · obtain ⟨M9, -⟩ := HJ.out _ _ HJx.out
                   rw [M9.leftV, HLV.out]
                   exact HTS.out)
              | (have HJx : Hid (Jx W9) := hide hJ9
                 clear hJ9 HJ9
                 go_wp2
                 refine bodyPost_ret (results_none rfl _ _ _) rfl ?_
                 exact ⟨⟨_, rfl⟩, .inr HJx.out⟩)
          · go_upto_region 4 with fail
            rw [← HW5.out]
            clear y0 y1 y2 y3 y4 x14
            obtain ⟨c1, c2, c3, c4, c5⟩ := W6.out ⟨some ⟨b, off + 5, none⟩, 0, xc - 1⟩ (by have h9 := HTl.out; rw [if_neg hxc1] at h9; exact h9)
            obtain ⟨w6, hw6⟩ : ∃ w6, w6 = w5.setCell ⟨rb, k * 2 + 1, none⟩ (.slice (some ⟨b, off + 5, none⟩) 0 (xc - 1)) := ⟨_, rfl⟩
            have hw6' : w6 = w5.setCell ⟨rb, k * 2 + 1, none⟩ (.slice (⟨some ⟨b, off + 5, none⟩, 0, xc - 1⟩ : Sl).a (⟨some ⟨b, off + 5, none⟩, 0, xc - 1⟩ : Sl).n (⟨some ⟨b, off + 5, none⟩, 0, xc - 1⟩ : Sl).c) := hw6
            rw [← hw6'] at c1 c2 c3 c4 c5
            have HPX : Hid _ := hide c5
            have HOX : Hid _ := hide c2
            have HEX : Hid _ := hide c3
            have HSX : Hid _ := hide c4
            have HBX : Hid (But (Mine p rv ph s.hv) w1 w6) := hide ((HB05.out.mono (T := Mine p rv ph s.hv) (fun q e => e.elim (fun e => .inr (.inr (.inl e))) (fun e => .inr (.inr (.inr e))))).trans c1 (fun q _ e => .inr (.inl (by rw [HRV.out]; have e9 : q = rb := e; rw [e9]; rfl))))
            have HRX : Hid _ := hide ((c1.block w4.heap.size s45 (HNe.out _ _ _ HR5.out (by decide))).trans HR5.out)
            have HC1 : Hid (w6.cell? ⟨B1, 0, none⟩ = some (.pointer (some ⟨p, 0, none⟩))) := hide (cell_but HB15.out.1 c1 (fun e => (HMi.out s HM1.out).1 (.inr (.inl (by rw [HRV.out]; have e9 : B1 = rb := e; rw [e9]; rfl)))))
            have uu := c2
            rw [HRV.out] at uu
            have x16 := uu.cell (List.getElem?_set_self (get_lt HX.out)) 1 (u := .slice (some ⟨b, off + 5, none⟩) 0 (xc - 1)) rfl
            simp only [layW] at x16
            have HW6 : Hid _ := hide hw6
            clear hw6 hw6' c1 c2 c3 c4 c5 uu
            go_upto_region 5 with fail
            rw [← HW6.out]
            clear x15 fz5
            obtain ⟨M8, b8⟩ := Mgr.step HM1.out HPk.out HSt.out HPX.out HOX.out (by rw [List.length_set, HRl.out]) HEX.out HSX.out (HD.out.pop HPk.out.at_ HE.out) (by have := HSl.out; simp at this; omega) (by omega)
            obtain ⟨w8, hw8⟩ : ∃ w8, w8 = (w6.setCell ⟨p, 2, none⟩ (.int .i64 (s.at_ + 1))).setCell ⟨p, 3, none⟩ (.int .i64 ((tot s.Ls : Int) - 1)) := ⟨_, rfl⟩
            rw [← hw8] at M8 b8
            have HM8 : Hid _ := hide M8
            have hBp : ¬ B1 = p := fun e => (HMi.out s HM1.out).1 (.inl e)
            have hrp : ¬ rb = p := fun e => by
              obtain ⟨cu, hcu⟩ := own_ty HOX.out (b := rb) (by rw [HRV.out]; rfl)
              rw [e, HPX.out] at hcu
              simp at hcu
            have g1 := HC1.out
            have g2 : w6.cell? ⟨p, 2, none⟩ = some (.int .i64 s.at_) := cell_at HPX.out rfl
            have g3 : w6.cell? ⟨p, 3, none⟩ = some (.int .i64 (tot s.Ls : Int)) := cell_at HPX.out rfl
            have fz2 := frz HPX.out 2
            have fz3 := frz HPX.out 3
            have hat := HM1.out.at1
            have hat0 := HM1.out.at0
            have htI : (tot s.Ls : Int) ≤ 2000000 := by have := HM1.out.n1; have := HS.out.n0; omega
            have htI0 : (0 : Int) ≤ (tot s.Ls : Int) := by omega
            have uX := HOX.out
            rw [HRV.out] at uX
            have m0 := uX.cell (List.getElem?_set_self (get_lt HX.out)) 0 (u := .int .i64 xg) rfl
            simp only [layW, Nat.add_zero] at m0
            have j0 : w8.cell? ⟨rb, k * 2, none⟩ = some (.int .i64 xg) := cell_but m0 b8 hrp
            have r8 := (b8.block w4.heap.size (Array.getElem?_eq_some_iff.1 HRX.out).1 (fun e => by have e9 : w4.heap.size = p := e; rw [e9, HPX.out] at HRX; exact absurd HRX.out (by simp))).trans HRX.out
            have k0 : w8.cell? ⟨w4.heap.size, 0, none⟩ = some (.int .i64 r.stamp) := cell_at r8 rfl
            have k1 : w8.cell? ⟨w4.heap.size, 1, none⟩ = some (.int .i64 r.kind) := cell_at r8 rfl
            have k2 : w8.cell? ⟨w4.heap.size, 2, none⟩ = some (.int .u64 r.obj) := cell_at r8 rfl
            have k3 : w8.cell? ⟨w4.heap.size, 3, none⟩ = some (.int .u64 r.arg) := cell_at r8 rfl
            have k4 : w8.cell? ⟨w4.heap.size, 4, none⟩ = some (.int .i64 r.stack) := cell_at r8 rfl
            have HB8 : Hid (But (Mine p rv ph s.hv) w1 w8) := hide (HBX.out.trans b8 (fun q _ e => .inl e))
            have HY8 : Hid (∀ W2, Below w8.heap.size w8 W2 → YieldAt Fence.wide (n - 1) Try.prog l #[.int .i64 xg, .agg #[.int .i64 r.stamp, .int .i64 r.kind, .int .u64 r.obj, .int .u64 r.arg, .int .i64 r.stack]] W2 fun e W' => (e = .returned (.bool true) ∧ J ⟨s.Ls.set k ([]), s.at_ + 1, hv2, s.n⟩ W') ∨ (e = .returned (.bool false) ∧ Jx W')) := hide (fun W2 hW2 =>
              HY.out s (xg, r) w1 W2 ⟨s.Ls.set k ([]), s.at_ + 1, hv2, s.n⟩ HJ1.out ⟨⟨k, [], HG.out, HPk.out, HSt.out, rfl, rfl⟩, HM8.out.below hW2, HB8.out.on hW2, fun q hq => .inl (by rw [← HN2.out]; exact hq)⟩)
            have HW8 : Hid _ := hide hw8
            have HTS : Hid (tot (s.Ls.set k ([])) < tot s.Ls) := hide (by have := tot_set HPk.out.at_; omega)
            clear M8 b8 hw8 r8 uX m0
            go_upto_region 9 with fail
            rw [← HW8.out]
            clear g1 g2 g3 fz2 fz3
            refine (wpIn_wide (n := n)).1 ?_
            obtain ⟨fn, tm, asg, bd, hy, hR⟩ := HY8.out w8.drew (Below.refl _ _).drew
            have HR9 : Hid _ := hide (hR.mono (R' := fun e W' => ∃ bo : Bool, e = .returned (.bool bo) ∧ Hid ((bo = true ∧ J ⟨s.Ls.set k ([]), s.at_ + 1, hv2, s.n⟩ W') ∨ (bo = false ∧ Jx W'))) (fun e W' h9 => by
              rcases h9 with ⟨rfl, h9⟩ | ⟨rfl, h9⟩
              · exact ⟨true, rfl, hide (.inl ⟨rfl, h9⟩)⟩
              · exact ⟨false, rfl, hide (.inr ⟨rfl, h9⟩)⟩))
            clear hR
            gi_region_with (refine HR9.out.mono ?_; rintro e9 W9 ⟨bo, rfl, HJ9⟩)
            all_goals (clear hy j0 k0 k1 k2 k3 k4)
            all_goals rcases HJ9.out with ⟨rfl, hJ9⟩ | ⟨rfl, hJ9⟩
            all_goals first
              | (have HJx : Hid (J _ W9) := hide hJ9
                 clear hJ9 HJ9
                 go_wp2
                 refine ⟨?_, ?_⟩
                 · (repeat apply Exists.intro)
                   exact ⟨⟨_, HJx⟩, rfl⟩
                 · obtain ⟨M9, -⟩ := HJ.out _ _ HJx.out
                   rw [M9.leftV, HLV.out]
                   exact HTS.out)
              | (have HJx : Hid (Jx W9) := hide hJ9
                 clear hJ9 HJ9
                 go_wp2
                 refine bodyPost_ret (results_none rfl _ _ _) rfl ?_
                 exact ⟨⟨_, rfl⟩, .inr HJx.out⟩)
        | cons q9 t9 =>
          have hxc1 : ¬ xc = 1 := by simp at hxn; omega
          obtain ⟨m, hm⟩ : ∃ m, xn = m + 1 := ⟨t9.length + 1, by simpa using hxn⟩
          have hm0 : 0 < m := by simp at hxn; omega
          have hmI : (0 : Int) < (m : Int) := by omega
          clear hxn
          subst hm
          go_upto_region 4 with fail
          rw [← HW5.out]
          clear y0 y1 y2 y3 y4 x14
          obtain ⟨c1, c2, c3, c4, c5⟩ := W6.out ⟨some ⟨b, off + 5, none⟩, m, xc - 1⟩ (by have h9 := HTl.out; rw [if_neg hxc1] at h9; exact h9)
          obtain ⟨w6, hw6⟩ : ∃ w6, w6 = w5.setCell ⟨rb, k * 2 + 1, none⟩ (.slice (some ⟨b, off + 5, none⟩) m (xc - 1)) := ⟨_, rfl⟩
          have hw6' : w6 = w5.setCell ⟨rb, k * 2 + 1, none⟩ (.slice (⟨some ⟨b, off + 5, none⟩, m, xc - 1⟩ : Sl).a (⟨some ⟨b, off + 5, none⟩, m, xc - 1⟩ : Sl).n (⟨some ⟨b, off + 5, none⟩, m, xc - 1⟩ : Sl).c) := hw6
          rw [← hw6'] at c1 c2 c3 c4 c5
          have HP6 : Hid _ := hide c5
          have HO6 : Hid _ := hide c2
          have HE6 : Hid _ := hide c3
          have HS6 : Hid _ := hide c4
          have HBX6 : Hid (But (Mine p rv ph s.hv) w1 w6) := hide ((HB05.out.mono (T := Mine p rv ph s.hv) (fun q e => e.elim (fun e => .inr (.inr (.inl e))) (fun e => .inr (.inr (.inr e))))).trans c1 (fun q _ e => .inr (.inl (by rw [HRV.out]; have e9 : q = rb := e; rw [e9]; rfl))))
          have HRX6 : Hid _ := hide ((c1.block w4.heap.size s45 (HNe.out _ _ _ HR5.out (by decide))).trans HR5.out)
          have HC6 : Hid (w6.cell? ⟨B1, 0, none⟩ = some (.pointer (some ⟨p, 0, none⟩))) := hide (cell_but HB15.out.1 c1 (fun e => (HMi.out s HM1.out).1 (.inr (.inl (by rw [HRV.out]; have e9 : B1 = rb := e; rw [e9]; rfl)))))
          have HC62 : Hid (w6.cell? ⟨B2, 0, none⟩ = some (.pointer (some ⟨ph, 0, none⟩))) := hide (cell_but HB15.out.2 c1 (fun e => (HMi.out s HM1.out).2 (.inr (.inl (by rw [HRV.out]; have e9 : B2 = rb := e; rw [e9]; rfl)))))
          have HH6 : Hid _ := hide ((c1.block w2.heap.size (Array.getElem?_eq_some_iff.1 HR35.out).1 (HNe.out _ _ _ HR35.out (by decide))).trans HR35.out)
          have uu := c2
          rw [HRV.out] at uu
          have x16 := uu.cell (List.getElem?_set_self (get_lt HX.out)) 1 (u := .slice (some ⟨b, off + 5, none⟩) m (xc - 1)) rfl
          simp only [layW] at x16
          have hq6 := (c3 k _ xg _ (List.getElem?_set_self (get_lt HX.out)) HG.out (List.getElem?_set_self (get_lt HPk.out.at_))).2
          obtain ⟨bq, oq, hq9', hbq, hcells⟩ := hq6.row.at hm0
          dsimp only at hq9'
          cases hq9'
          have z9 := hcells 0 q9 rfl 0 _ rfl
          simp only [layR, Nat.add_zero, Nat.zero_mul] at z9
          have HK6 : Hid (∀ X, But (fun q => q = ph ∨ hv2.ownBlock = some q) w6 X → X.cell? ⟨B2, 0, none⟩ = some (.pointer (some ⟨ph, 0, none⟩)) ∧ X.cell? ⟨rb, k * 2 + 1, none⟩ = some (.slice (some ⟨b, off + 5, none⟩) m (xc - 1)) ∧ X.cell? ⟨b, off + 5, none⟩ = some (.int .i64 q9.stamp) ∧ X.cell? ⟨w2.heap.size, 1, none⟩ = some (.int .i64 (k : Int))) := hide (fun X hX => by
            have hty : ∀ {q : Nat} {cur : Array Value} {T : TypeId}, w6.heap[q]? = some (.cells cur T (0, 0)) → T ≠ 88 → T ≠ 91 → ¬ (q = ph ∨ hv2.ownBlock = some q) := fun h1 h2 h3 e => by
              rcases e with e | e
              · rw [e, HS6.out.blk] at h1
                simp at h1
                exact h2 h1.2.symm
              · obtain ⟨_, _, cu, hcu⟩ := HS6.out.own _ e
                rw [hcu] at h1
                simp at h1
                exact h3 h1.2.symm
            refine ⟨cell_but HC62.out hX (fun e => (HMi.out s HM1.out).2 ?_), ?_, ?_, ?_⟩
            · rcases e with e | e
              · exact .inr (.inr (.inl e))
              · exact .inr (.inr (.inr (by rw [← HN2.out]; exact e)))
            · obtain ⟨cu, hcu⟩ := own_ty HO6.out (b := rb) (by rw [HRV.out]; rfl)
              exact cell_but x16 hX (hty hcu (by decide) (by decide))
            · obtain ⟨b', off', cu, e1, _, e3⟩ := hq6.blk (by simp)
              cases e1
              exact cell_but z9 hX (hty e3 (by decide) (by decide))
            · exact cell_but (cell_at (cs := #[.int .i64 r.stamp, .int .i64 (k : Int)]) HH6.out rfl) hX (hty HH6.out (by decide) (by decide)))
          have HW6 : Hid _ := hide hw6
          have PU := fun (X : World) (hX : Below w6.heap.size w6 X) => hpushH (⟨q9.stamp, (k : Int)⟩ : Hd) (HS6.out.below hX) (by have h8 := hX.size; have h7 := HBX6.out.size; omega) (by have h8 := HM1.out.n1; omega) (by have h8 := HSl.out; have h7 := HM1.out.few; simp at h8; omega)
          obtain ⟨i1, i2, i3, i4⟩ := HK6.out w6 (But.refl _ _)
          clear hw6 hw6' c1 c2 c3 c4 c5 uu x16 hq6 hcells z9
          go_upto_region 6 with fail
          rw [← HW6.out]
          clear x15 fz5
          go_region_held3 (fun X => X.cell? ⟨B2, 0, none⟩ = some (.pointer (some ⟨ph, 0, none⟩)) ∧ X.cell? ⟨rb, k * 2 + 1, none⟩ = some (.slice (some ⟨b, off + 5, none⟩) m (xc - 1)) ∧ X.cell? ⟨b, off + 5, none⟩ = some (.int .i64 q9.stamp) ∧ X.cell? ⟨w2.heap.size, 1, none⟩ = some (.int .i64 (k : Int))) (first | exact HK6.out _ hb7 | exact HK6.out _ (But.refl _ _).drew | exact ⟨i1, i2, i3, i4⟩) (first
            | (go_at_call 30; go_must (
               refine (PU _ (Below.refl _ _).drew).mono ?_
               rintro e7 w7 ⟨rfl, hv7, hs7, b7, n7⟩
               have hb7 : But (fun q => q = ph ∨ hv2.ownBlock = some q) w6 w7 := (But.refl _ _).drew.trans b7 (fun _ _ e => e))))
          have hty : ∀ {q : Nat} {cur : Array Value} {T : TypeId}, w6.heap[q]? = some (.cells cur T (0, 0)) → T ≠ 88 → T ≠ 91 → ¬ (q = ph ∨ hv2.ownBlock = some q) := fun h1 h2 h3 e => by
              rcases e with e | e
              · rw [e, HS6.out.blk] at h1
                simp at h1
                exact h2 h1.2.symm
              · obtain ⟨_, _, cu, hcu⟩ := HS6.out.own _ e
                rw [hcu] at h1
                simp at h1
                exact h3 h1.2.symm
          have HPX : Hid _ := hide ((hb7.block p (Array.getElem?_eq_some_iff.1 HP6.out).1 (hty HP6.out (by decide) (by decide))).trans HP6.out)
          have HOX : Hid _ := hide (HO6.out.but hb7 (fun q hq => by obtain ⟨cu, hcu⟩ := own_ty HO6.out hq; exact hty hcu (by decide) (by decide)))
          have HEX : Hid (∀ (j : Nat) (rw : Rw) (g : Int) (L : List Rc), (rws.set k ⟨xg, ⟨some ⟨b, off + 5, none⟩, m, xc - 1⟩⟩)[j]? = some rw → gs[j]? = some g → (s.Ls.set k (q9 :: t9))[j]? = some L → rw.g = g ∧ RecAt w7 base rw.s L) := hide (fun j rw g L a1 a2 a3 => ⟨(HE6.out j rw g L a1 a2 a3).1, (HE6.out j rw g L a1 a2 a3).2.but hb7 (fun b' cu _ h8 => hty h8 (by decide) (by decide))⟩)
          have HSX : Hid _ := hide hs7
          have HBX : Hid (But (Mine p rv ph s.hv) w1 w7) := hide (HBX6.out.trans hb7 (fun q _ e => e.elim (fun e => .inr (.inr (.inl e))) (fun e => .inr (.inr (.inr (by rw [← HN2.out]; exact e))))))
          have HRX : Hid _ := hide ((hb7.block w4.heap.size (Array.getElem?_eq_some_iff.1 HRX6.out).1 (hty HRX6.out (by decide) (by decide))).trans HRX6.out)
          have HC1 : Hid (w7.cell? ⟨B1, 0, none⟩ = some (.pointer (some ⟨p, 0, none⟩))) := hide (cell_but HC6.out hb7 (fun e => (HMi.out s HM1.out).1 (by
            rcases e with e | e
            · exact .inr (.inr (.inl e))
            · exact .inr (.inr (.inr (by rw [← HN2.out]; exact e))))))
          have HN7 : Hid (∀ q, hv7.ownBlock = some q → s.hv.ownBlock = some q ∨ w1.heap.size ≤ q) := hide (fun q hq => by
            rcases n7 q hq with h9 | h9
            · exact .inl (by rw [← HN2.out]; exact h9)
            · have h8 := HBX6.out.size
              have h7 : w6.heap.size ≤ q := h9
              exact .inr (by omega))
          clear hs7 b7 n7 hb7 hty PU i1 i2 i3 i4
          go_upto_region 7 with fail
          obtain ⟨M8, b8⟩ := Mgr.step HM1.out HPk.out HSt.out HPX.out HOX.out (by rw [List.length_set, HRl.out]) HEX.out HSX.out (HD.out.push HPk.out.at_ HE.out s.n) (by rw [ins_len]; have := HSl.out; simp at this; omega) (by omega)
          obtain ⟨w8, hw8⟩ : ∃ w8, w8 = (w7.setCell ⟨p, 2, none⟩ (.int .i64 (s.at_ + 1))).setCell ⟨p, 3, none⟩ (.int .i64 ((tot s.Ls : Int) - 1)) := ⟨_, rfl⟩
          rw [← hw8] at M8 b8
          have HM8 : Hid _ := hide M8
          have hBp : ¬ B1 = p := fun e => (HMi.out s HM1.out).1 (.inl e)
          have hrp : ¬ rb = p := fun e => by
            obtain ⟨cu, hcu⟩ := own_ty HOX.out (b := rb) (by rw [HRV.out]; rfl)
            rw [e, HPX.out] at hcu
            simp at hcu
          have g1 := HC1.out
          have g2 : w7.cell? ⟨p, 2, none⟩ = some (.int .i64 s.at_) := cell_at HPX.out rfl
          have g3 : w7.cell? ⟨p, 3, none⟩ = some (.int .i64 (tot s.Ls : Int)) := cell_at HPX.out rfl
          have fz2 := frz HPX.out 2
          have fz3 := frz HPX.out 3
          have hat := HM1.out.at1
          have hat0 := HM1.out.at0
          have htI : (tot s.Ls : Int) ≤ 2000000 := by have := HM1.out.n1; have := HS.out.n0; omega
          have htI0 : (0 : Int) ≤ (tot s.Ls : Int) := by omega
          have uX := HOX.out
          rw [HRV.out] at uX
          have m0 := uX.cell (List.getElem?_set_self (get_lt HX.out)) 0 (u := .int .i64 xg) rfl
          simp only [layW, Nat.add_zero] at m0
          have j0 : w8.cell? ⟨rb, k * 2, none⟩ = some (.int .i64 xg) := cell_but m0 b8 hrp
          have r8 := (b8.block w4.heap.size (Array.getElem?_eq_some_iff.1 HRX.out).1 (fun e => by have e9 : w4.heap.size = p := e; rw [e9, HPX.out] at HRX; exact absurd HRX.out (by simp))).trans HRX.out
          have k0 : w8.cell? ⟨w4.heap.size, 0, none⟩ = some (.int .i64 r.stamp) := cell_at r8 rfl
          have k1 : w8.cell? ⟨w4.heap.size, 1, none⟩ = some (.int .i64 r.kind) := cell_at r8 rfl
          have k2 : w8.cell? ⟨w4.heap.size, 2, none⟩ = some (.int .u64 r.obj) := cell_at r8 rfl
          have k3 : w8.cell? ⟨w4.heap.size, 3, none⟩ = some (.int .u64 r.arg) := cell_at r8 rfl
          have k4 : w8.cell? ⟨w4.heap.size, 4, none⟩ = some (.int .i64 r.stack) := cell_at r8 rfl
          have HB8 : Hid (But (Mine p rv ph s.hv) w1 w8) := hide (HBX.out.trans b8 (fun q _ e => .inl e))
          have HY8 : Hid (∀ W2, Below w8.heap.size w8 W2 → YieldAt Fence.wide (n - 1) Try.prog l #[.int .i64 xg, .agg #[.int .i64 r.stamp, .int .i64 r.kind, .int .u64 r.obj, .int .u64 r.arg, .int .i64 r.stack]] W2 fun e W' => (e = .returned (.bool true) ∧ J ⟨s.Ls.set k (q9 :: t9), s.at_ + 1, hv7, s.n + 1⟩ W') ∨ (e = .returned (.bool false) ∧ Jx W')) := hide (fun W2 hW2 =>
            HY.out s (xg, r) w1 W2 ⟨s.Ls.set k (q9 :: t9), s.at_ + 1, hv7, s.n + 1⟩ HJ1.out ⟨⟨k, q9 :: t9, HG.out, HPk.out, HSt.out, rfl, rfl⟩, HM8.out.below hW2, HB8.out.on hW2, HN7.out⟩)
          have HW8 : Hid _ := hide hw8
          have HTS : Hid (tot (s.Ls.set k (q9 :: t9)) < tot s.Ls) := hide (by have := tot_set HPk.out.at_; omega)
          clear M8 b8 hw8 r8 uX m0
          go_upto_region 9 with fail
          rw [← HW8.out]
          clear g1 g2 g3 fz2 fz3
          refine (wpIn_wide (n := n)).1 ?_
          obtain ⟨fn, tm, asg, bd, hy, hR⟩ := HY8.out w8.drew (Below.refl _ _).drew
          have HR9 : Hid _ := hide (hR.mono (R' := fun e W' => ∃ bo : Bool, e = .returned (.bool bo) ∧ Hid ((bo = true ∧ J ⟨s.Ls.set k (q9 :: t9), s.at_ + 1, hv7, s.n + 1⟩ W') ∨ (bo = false ∧ Jx W'))) (fun e W' h9 => by
            rcases h9 with ⟨rfl, h9⟩ | ⟨rfl, h9⟩
            · exact ⟨true, rfl, hide (.inl ⟨rfl, h9⟩)⟩
            · exact ⟨false, rfl, hide (.inr ⟨rfl, h9⟩)⟩))
          clear hR
          gi_region_with (refine HR9.out.mono ?_; rintro e9 W9 ⟨bo, rfl, HJ9⟩)
          all_goals (clear hy j0 k0 k1 k2 k3 k4)
          all_goals rcases HJ9.out with ⟨rfl, hJ9⟩ | ⟨rfl, hJ9⟩
          all_goals first
            | (have HJx : Hid (J _ W9) := hide hJ9
               clear hJ9 HJ9
               go_wp2
               refine ⟨?_, ?_⟩
               · (repeat apply Exists.intro)
                 exact ⟨⟨_, HJx⟩, rfl⟩
               · obtain ⟨M9, -⟩ := HJ.out _ _ HJx.out
                 rw [M9.leftV, HLV.out]
                 exact HTS.out)
            | (have HJx : Hid (Jx W9) := hide hJ9
               clear hJ9 HJ9
               go_wp2
               refine bodyPost_ret (results_none rfl _ _ _) rfl ?_
               exact ⟨⟨_, rfl⟩, .inr HJx.out⟩)
    · have hfb : (f == 0) = false := by simp [hf0]
      have HF : Hid _ := hide hf
      clear hf hJ1 hLV1 b1
      go_wp2
      go_end0
      exact ⟨⟨_, rfl⟩, .inl ⟨s, ⟨f, HF.out, hf0⟩, HJ1.out⟩⟩
end Go.Proofs.Ytdlpffbeladgaab
