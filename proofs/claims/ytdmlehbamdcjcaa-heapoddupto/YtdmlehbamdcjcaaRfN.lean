/-
  The document's Merge: the walk.
-/
import Derived.Test.YtdmlehbamdcjcaaRfM
import Derived.Deep.RegionHeld3
import Derived.Deep.AppendLies
namespace Go.Proofs.Ytdmlehbamdcjcaa
open Go.RowKit
theorem Try.info3m : (Try.prog.info? 3).map (fun i => (i.zero, i.size, i.bytes)) = some (some (.int .i64 0), 1, 8) := by kernel_rfl
theorem cur_zero (Cs : List (List It)) : CurI Cs (List.replicate Cs.length 0) Cs := by
  refine ⟨by simp, rfl, fun j C hC => ⟨0, ?_, Nat.zero_le _, by simpa using hC⟩⟩
  rw [List.getElem?_replicate, if_pos (get_lt hC)]
  rfl
theorem cell_but {S : Nat → Prop} {w w' : World} {b o : Nat} {v : Value} (hb : But S w w') (h1 : b < w.heap.size) (h2 : ¬ S b) (h : w.cell? ⟨b, o, none⟩ = some v) : w'.cell? ⟨b, o, none⟩ = some v := by
  rw [← h]
  unfold World.cell?
  simp only [hb.block b h1 h2]
theorem len_total {α : Type} {Ls : List (List α)} {k : Nat} {C : List α} (h : Ls[k]? = some C) : C.length ≤ total Ls := by
  induction Ls generalizing k with
  | nil => simp at h
  | cons D Ls ih =>
    cases k with
    | zero => simp at h; subst h; simp [total]
    | succ k => have := ih (k := k) (by simpa using h); simp [total]; omega
/-- 'append(l, x)' of one thing in a new block, in a region that draws. -/
theorem stepTI (w : World) {ops : Array Oper} {oo : Oper} {aa : Act} {K : Act → World → Prop} {Q : Exit → Act → World → Prop} {E0 : Prop} (hgd : oo.guard = none) (s x : Operand)
    (ho : oo.op = .call { callee := .builtin .append, args := #[s, x], argTypes := #[23, 23] }) (base : Nat)
    (v : Value) (L : List It) (hs : aa.eval s = v) (hown : Own layI 27 w base v L)
    (B : Nat) (e : It) (hx : aa.eval x = .slice (some ⟨B, 0, none⟩) 1 1) (hB : w.heap[B]? = some (.cells #[.int .i64 e.k, .int .i64 e.t] 27 (0, 0)))
    (hb : (L.length : Int) + 1 ≤ 5000000000000) (hbase : base ≤ w.heap.size)
    (h : ∀ g cap w', Own layI 27 w' base (.slice (some ⟨g, 0, none⟩) (L.length + 1) cap) (L ++ [e]) → w.grownBy w' v.ownBlock → (v.ownBlock = some g ∨ g = w.heap.size) → K (aa.put oo.dst (.slice (some ⟨g, 0, none⟩) (L.length + 1) cap)) w') :
    if Region.wanted oo (yielded ops aa.tmps) = true then Oper.wp Try.prog oo aa w K Q else E0 := by
  obtain ⟨i0, hi, hz0, hz1, hz2⟩ := info_parts Try.infoTI
  refine step_append_lies w hgd s x 23 ho base 27 i0 _ 2 16 Try.underlying23 hi hz0 hz1 hz2 rfl (by decide) v L.length _ hs hown ⟨B, 0, none⟩ 1 1 (layI.cs e) hx rfl (World.news_of_block hB) (layI.one e) (by decide) (by unfold maxLen; omega) (by omega) hbase _ rfl ?_
  intro g cap w' h1 h2 h3 _
  refine h g cap w' ?_ h2 h3
  unfold Own
  rw [List.length_append, layI.fl_app, layI.fl_one]
  exact h1
set_option maxRecDepth 8000 in
set_option maxHeartbeats 12800000 in
theorem rmerge_any (w : World) (a : Option Addr) (N c : Nat) (ss : List Sl) (Cs : List (List It)) (hr : TRow laySl w a N ss) (hCl : Cs.length = N) (hS : ∀ (j : Nat) (s : Sl) (C : List It), ss[j]? = some s → Cs[j]? = some C → SitsI w s C) (hN : (N : Int) ≤ 4000000000000) (hT : (total Cs : Int) ≤ 4000000000000) :
    Calls Try.prog 11 #[.slice a N c] w fun r w' => ∃ v O, r = .returned v ∧ Own layI 27 w' w.heap.size v O ∧ Mrg (fst bfI) Cs O ∧ Below w.heap.size w w' := by
  obtain ⟨i0, hi, hz0, hz1, hz2⟩ := info_parts Try.info3m
  obtain ⟨T, hTT⟩ : ∃ T, T = total Cs := ⟨_, rfl⟩
  rw [← hTT] at hT
  have HTT : Hid _ := hide hTT
  have HSS : Hid (ss.length = N) := hide hr.len
  have HCL : Hid _ := hide hCl
  have HSI : Hid _ := hide hS
  have HR : Hid _ := hide hr
  clear hTT hCl hS hr
  go_enter Try.func11, Try.ntmps11
  go_wp2_with (at_make; refine wpList_make_full _ rfl _ _ 31 rfl w.heap.size 3 i0 (.int .i64 0) 1 Try.underlying31 hi hz0 hz1 _ _ _ _ N rfl rfl rfl rfl ?b2 ?b3 (Nat.le_refl _) ?_)
  case b2 => rw [hz2]; omega
  case b3 => unfold maxLen; omega
  intro w1 hown1 hgr1
  have O1 : Own layN 3 w1 w.heap.size (.slice (some ⟨w.heap.size, 0, none⟩) N N) (List.replicate N (0 : Int)) := by
    have h9 := made_fl layN 0 N
    rw [show N * layN.z = N from Nat.mul_one N] at h9
    unfold Own
    rw [List.length_replicate, ← h9]
    exact hown1
  have B1 : Below w.heap.size w w1 := (Below.refl _ _).grown hgr1 (Nat.le_refl _) (fun k h => by cases h)
  have HO1 : Hid _ := hide O1
  have HB1 : Hid _ := hide B1
  clear O1 B1 hown1 hgr1 i0 hi hz0 hz1 hz2
  obtain ⟨i0, hi, hz0, hz1, hz2⟩ := info_parts Try.infoTI
  go_wp2_with fail
  go_loopw [4] (fun so wr => ∃ (A : List Int) (cur : List (List It)) (O : List It), Own layI 27 wr w.heap.size so O ∧ Own layN 3 wr w.heap.size (.slice (some ⟨w.heap.size, 0, none⟩) N N) A ∧ CurI Cs A cur ∧ (∀ R, Mrg (fst bfI) cur R → Mrg (fst bfI) Cs (O ++ R)) ∧ O.length + total cur = T ∧ Below w.heap.size w wr) (fun so _ => T - slLen so)
  case atStart => exact ⟨_, Cs, [], Own.nil _ _ _ _, HO1.out, by have := cur_zero Cs; rw [HCL.out] at this; exact this, fun R h => h, by rw [HTT.out]; simp, HB1.out⟩
  case round =>
    obtain ⟨A, cur, O, ho, hat, hcu, hmr, htt, hb⟩ := hrel
    have HO : Hid _ := hide ho
    have HA : Hid _ := hide hat
    have HC : Hid _ := hide hcu
    have HM : Hid _ := hide hmr
    have HT : Hid _ := hide htt
    have HB : Hid _ := hide hb
    obtain ⟨av, cv, hvv, hnil, hcap⟩ := own_form ho
    obtain ⟨m, hm9⟩ : ∃ m, m = O.length := ⟨_, rfl⟩
    rw [← hm9] at hvv hnil hcap htt
    subst hvv
    have HML : Hid _ := hide hm9
    have hmT : m ≤ T := by omega
    clear ho hat hcu hmr htt hb hm9 hnil
    go_wp2_with fail
    go_loopw [5, 6] (fun sf si wq => ∃ (i : Nat) (f : Int), si = .int .i64 i ∧ sf = .int .i64 f ∧ i ≤ N ∧ BestM cur i f ∧ Below wr.heap.size wr wq) (fun _ si _ => N - (intOf si).toNat)
    case atStart => exact ⟨0, -1, rfl, rfl, Nat.zero_le _, BestM.zero _, Below.refl _ _⟩
    case round =>
      rename World => wq
      obtain ⟨i, f, rfl, rfl, hiN, hbe, hbq⟩ := hrel
      have HBE : Hid _ := hide hbe
      have HBQ : Hid _ := hide hbq
      have HAQ : Hid _ := hide (HA.out.below hbq)
      have HWQ : Hid (Below w.heap.size w wq) := hide (HB.out.trans (hbq.mono HB.out.size))
      clear hbe hbq
      by_cases hlt : i < N
      · have hltI : (i : Int) < (N : Int) := by omega
        obtain ⟨s, hs⟩ : ∃ s, ss[i]? = some s := ⟨_, List.getElem?_eq_getElem (by rw [HSS.out]; exact hlt)⟩
        obtain ⟨C, hC⟩ : ∃ C, Cs[i]? = some C := ⟨_, List.getElem?_eq_getElem (by rw [HCL.out]; exact hlt)⟩
        obtain ⟨p, hp, hpl, hcur⟩ := HC.out.pos i C hC
        have hsit := (HSI.out i s C hs hC).below HWQ.out
        obtain ⟨lb, lo, rfl, _, hcL⟩ := (HR.out.below HWQ.out).at (by omega)
        have x0 := hcL i s hs 0 _ rfl
        have y0 := HAQ.out.cell hp 0 rfl
        simp only [laySl, layN, Nat.mul_one, Nat.add_zero] at x0 y0
        have hlen : C.length = s.n := hsit.row.len
        obtain ⟨sa, sn, sc⟩ := s
        have hlen' : C.length = sn := hlen
        by_cases hpn : p < sn
        · have hpnI : (p : Int) < (sn : Int) := by omega
          obtain ⟨x, hx⟩ : ∃ x, C[p]? = some x := ⟨_, List.getElem?_eq_getElem (by rw [hlen']; exact hpn)⟩
          obtain ⟨tb, tf, hta, _, hcT⟩ := hsit.row.at (by show 0 < sn; omega)
          have hta' : sa = some ⟨tb, tf, none⟩ := hta
          subst hta'
          have z0 := hcT p x hx 0 _ rfl
          simp only [layI, Nat.add_zero] at z0
          have hcx : cur[i]? = some (x :: C.drop (p + 1)) := by
            rw [hcur, List.drop_eq_getElem_cons (by rw [hlen']; exact hpn)]
            rw [List.getElem?_eq_getElem (by rw [hlen']; exact hpn)] at hx
            rw [Option.some.inj hx]
          have HCX : Hid _ := hide hcx
          by_cases hf0 : f < 0
          · have hfm : f = -1 := by
              rcases HBE.out with ⟨h1, _⟩ | ⟨n, _, _, h1, _⟩
              · exact h1
              · omega
            subst hfm
            clear hs hC hp hcur hsit hcL hlen hlen' hx hta hcT hcx hf0
            go_wp2_with fail
            go_quiet (fail)
            go_wp2_with fail
            exact ⟨⟨i + 1, i, by go_num, rfl, by omega, HBE.out.start HCX.out, below_drewN HBQ.out _⟩, by simp [intOf]; omega⟩
          · obtain ⟨n, x', t', hfn, hni, hcn⟩ : ∃ (n : Nat) (x' : It) (t' : List It), f = (n : Int) ∧ n < i ∧ cur[n]? = some (x' :: t') := by
              rcases HBE.out with ⟨h1, _⟩ | ⟨n, x', t', h1, h2, h3, _⟩
              · omega
              · exact ⟨n, x', t', h1, h2, h3⟩
            subst hfn
            have hnN : n < N := by omega
            have hnI : (n : Int) < (N : Int) := by omega
            obtain ⟨s', hs'⟩ : ∃ s, ss[n]? = some s := ⟨_, List.getElem?_eq_getElem (by rw [HSS.out]; exact hnN)⟩
            obtain ⟨C', hC'⟩ : ∃ C, Cs[n]? = some C := ⟨_, List.getElem?_eq_getElem (by rw [HCL.out]; exact hnN)⟩
            obtain ⟨p', hp', hpl', hcur'⟩ := HC.out.pos n C' hC'
            have hx' := (HC.out.step hC' hp' hcn).1
            have hsit' := (HSI.out n s' C' hs' hC').below HWQ.out
            have x1 := hcL n s' hs' 0 _ rfl
            have y1 := HAQ.out.cell hp' 0 rfl
            simp only [laySl, layN, Nat.mul_one, Nat.add_zero] at x1 y1
            have hlen2 : C'.length = s'.n := hsit'.row.len
            obtain ⟨sa', sn', sc'⟩ := s'
            have hpn' : p' < sn' := by have h1 := get_lt hx'; have h2 : C'.length = sn' := hlen2; omega
            have hpnI' : (p' : Int) < (sn' : Int) := by omega
            obtain ⟨tb', tf', hta2, _, hcT'⟩ := hsit'.row.at (by show 0 < sn'; omega)
            have hta2' : sa' = some ⟨tb', tf', none⟩ := hta2
            subst hta2'
            have z1 := hcT' p' x' hx' 0 _ rfl
            simp only [layI, Nat.add_zero] at z1
            have HCN : Hid _ := hide hcn
            have d0 : decide ((n : Int) < 0) = false := decide_eq_false hf0
            clear hs hC hp hcur hsit hcL hlen hlen' hx hta hcT hcx hs' hC' hp' hcur' hsit' hlen2 hx' hta2 hcT' hcn
            go_wp2_with fail
            by_cases hcmp : x.k < x'.k
            · have d1 : decide (x.k < x'.k) = true := decide_eq_true hcmp
              go_quiet (fail)
              go_wp2_with fail
              exact ⟨⟨i + 1, i, by go_num, rfl, by omega, (HBE.out.more HCN.out HCX.out).1 hcmp, below_drewN HBQ.out _⟩, by simp [intOf]; omega⟩
            · have d1 : decide (x.k < x'.k) = false := decide_eq_false hcmp
              go_quiet (fail)
              go_wp2_with fail
              exact ⟨⟨i + 1, n, by go_num, rfl, by omega, (HBE.out.more HCN.out HCX.out).2 hcmp, below_drewN HBQ.out _⟩, by simp [intOf]; omega⟩
        · have hpnI : ¬ (p : Int) < (sn : Int) := by omega
          have d1 : decide ((p : Int) < (sn : Int)) = false := decide_eq_false hpnI
          have HCX : Hid (cur[i]? = some []) := hide (by rw [hcur, List.drop_of_length_le (by omega)])
          clear hs hC hp hcur hsit hcL hlen hlen'
          go_wp2_with fail
          go_quiet (fail)
          go_wp2_with fail
          exact ⟨⟨i + 1, f, by go_num, rfl, by omega, HBE.out.skip HCX.out, below_drewN HBQ.out _⟩, by simp [intOf]; omega⟩
      · have hltI : ¬ (i : Int) < (N : Int) := by omega
        have hiN' : i = N := by omega
        have HLC : Hid (cur.length = N) := hide (by rw [HC.out.lc]; exact HCL.out)
        have HBN : Hid (BestM cur N f) := hide (by rw [← hiN']; exact HBE.out)
        clear hiN' HBE
        by_cases hf0 : f < 0
        · have hfm : f = -1 := by
            rcases HBN.out with ⟨h1, _⟩ | ⟨n, _, _, h1, _⟩
            · exact h1
            · omega
          subst hfm
          have HMG : Hid (Mrg (fst bfI) Cs O) := hide (by have := HM.out [] (.done (HBN.out.none HLC.out)); rw [List.append_nil] at this; exact this)
          clear hf0
          go_wp2_with fail
          go_ret
          first | exact ⟨_, O, rfl, HO.out.below HBQ.out, HMG.out, HWQ.out⟩ | exact ⟨_, rfl, O, HO.out.below HBQ.out, HMG.out, HWQ.out⟩
        · obtain ⟨n, x, t, hfn, hnN, hcn⟩ : ∃ (n : Nat) (x : It) (t : List It), f = (n : Int) ∧ n < N ∧ cur[n]? = some (x :: t) := by
            rcases HBN.out with ⟨h1, _⟩ | ⟨n, x, t, h1, h2, h3, _⟩
            · omega
            · exact ⟨n, x, t, h1, h2, h3⟩
          subst hfn
          have hnI : (n : Int) < (N : Int) := by omega
          obtain ⟨s, hs⟩ : ∃ s, ss[n]? = some s := ⟨_, List.getElem?_eq_getElem (by rw [HSS.out]; exact hnN)⟩
          obtain ⟨C, hC⟩ : ∃ C, Cs[n]? = some C := ⟨_, List.getElem?_eq_getElem (by rw [HCL.out]; exact hnN)⟩
          obtain ⟨p, hp, hpl, hcur⟩ := HC.out.pos n C hC
          obtain ⟨hx, hcu2⟩ := HC.out.step hC hp hcn
          have hsit := (HSI.out n s C hs hC).below HWQ.out
          have hsit0 := HSI.out n s C hs hC
          obtain ⟨lb, lo, rfl, hlb, -⟩ := HR.out.at (by omega)
          obtain ⟨lb2, lo2, he2, -, hcL⟩ := (HR.out.below HWQ.out).at (by omega)
          injection he2 with he2
          injection he2 with he3 he4
          subst he3
          subst he4
          have x0 := hcL n s hs 0 _ rfl
          have y0 := HAQ.out.cell hp 0 rfl
          simp only [laySl, layN, Nat.mul_one, Nat.add_zero] at x0 y0
          have hlen2 : C.length = s.n := hsit.row.len
          obtain ⟨sa, sn, sc⟩ := s
          have hpn : p < sn := by have h1 := get_lt hx; have h2 : C.length = sn := hlen2; omega
          have hpnI : (p : Int) < (sn : Int) := by omega
          obtain ⟨tb, tf, hta, htb, -⟩ := hsit0.row.at (by show 0 < sn; omega)
          have hta' : sa = some ⟨tb, tf, none⟩ := hta
          subst hta'
          obtain ⟨tb2, tf2, hta3, -, hcT⟩ := hsit.row.at (by show 0 < sn; omega)
          injection hta3 with hta3
          injection hta3 with hta4 hta5
          subst hta4
          subst hta5
          have z0 := hcT p x hx 0 _ rfl
          have z1 := hcT p x hx 1 _ rfl
          obtain ⟨xk, xt⟩ := x
          simp only [layI, Nat.add_zero] at z0 z1
          have HCN : Hid _ := hide hcn
          have HC2 : Hid _ := hide hcu2
          have HP : Hid _ := hide hp
          have HLS : Hid _ := hide (HBN.out.least HLC.out hcn)
          have HS : Hid (∀ X : World, But (fun b => (Value.slice av m cv).ownBlock = some b) wq X → X.cell? ⟨lb, lo + n, none⟩ = some (.slice (some ⟨tb, tf, none⟩) sn sc) ∧ X.cell? ⟨w.heap.size, n, none⟩ = some (.int .i64 p) ∧ X.cell? ⟨tb, tf + p * 2, none⟩ = some (.int .i64 xk) ∧ X.cell? ⟨tb, tf + p * 2 + 1, none⟩ = some (.int .i64 xt)) := hide (fun X hX => by
            have hws := HWQ.out.size
            have hat := (HAQ.out.lt w.heap.size rfl).2
            have hlo : ∀ b, b < w.heap.size → ¬ (Value.slice av m cv).ownBlock = some b := fun b hb e9 => by
              have := (HO.out.lt b e9).1
              omega
            refine ⟨cell_but hX (by omega) (hlo lb hlb) x0, cell_but hX hat (fun e9 => ?_) y0, cell_but hX (by omega) (hlo tb htb) z0, cell_but hX (by omega) (hlo tb htb) z1⟩
            obtain ⟨cc, hcc⟩ := own_at HO.out _ e9
            obtain ⟨cd, hcd⟩ := own_at HA.out w.heap.size rfl
            exact ty_neN hcc hcd (by decide) rfl)
          have HOQ : Hid _ := hide (HO.out.below HBQ.out)
          have HTS : Hid _ := hide (total_set hcn)
          have hmb : (m : Int) + 1 ≤ 4000000000000 := by have h1 := HTS.out; have h2 := HT.out; rw [← HML.out] at h2; omega
          have hpb : (p : Int) + 1 ≤ 4000000000001 := by have h1 := len_total hC; have h2 := get_lt hx; rw [← HTT.out] at h1; omega
          have BA : Hid (Below wq.heap.size wq (wq.alloc (.cells #[.int .i64 xk, .int .i64 xt] 27 (0, 0))).drew) := hide (below_alloc1 _ _).drew
          have HNB : Hid ((wq.alloc (.cells #[.int .i64 xk, .int .i64 xt] 27 (0, 0))).drew.heap[wq.heap.size]? = some (.cells #[.int .i64 xk, .int .i64 xt] 27 (0, 0))) := hide (heap_new wq _)
          have hws : w.heap.size ≤ wq.heap.size := HWQ.out.size
          clear hs hC hp hcur hsit hsit0 hcL hlen2 hx hta hcT hcn hcu2
          go_wp2_with fail
          go_region_held3 (fun X => X.cell? ⟨lb, lo + n, none⟩ = some (.slice (some ⟨tb, tf, none⟩) sn sc) ∧ X.cell? ⟨w.heap.size, n, none⟩ = some (.int .i64 p) ∧ X.cell? ⟨tb, tf + p * 2, none⟩ = some (.int .i64 xk) ∧ X.cell? ⟨tb, tf + p * 2 + 1, none⟩ = some (.int .i64 xt)) (first | exact HS.out _ BG3 | exact HS.out _ (But.refl _ _) | exact HS.out _ (But.refl _ _).drew | exact HS.out _ ((But.refl _ _).alloc _) | exact HS.out _ ((But.refl _ _).drew.alloc _) | exact HS.out _ ((But.refl _ _).alloc _).drew) (first | (refine stepTI (wq.alloc (.cells #[.int .i64 xk, .int .i64 xt] 27 (0, 0))).drew rfl (.tmp 59) (.tmp 70) rfl w.heap.size _ O rfl (HOQ.out.below BA.out) wq.heap.size ⟨xk, xt⟩ rfl HNB.out (by rw [← HML.out]; omega) (Nat.le_trans hws BA.out.size) ?_; intro g cap w3 hown3 hgr3 hl3; have BG3 : But (fun b => (Value.slice av m cv).ownBlock = some b) wq w3 := ((But.refl _ wq).alloc _).drew.grown hgr3 (fun _ _ e => e)))
          have OA3 : Own layN 3 w3 w.heap.size (.slice (some ⟨w.heap.size, 0, none⟩) N N) A := HAQ.out.but BG3 (fun g' hg' e9 => by
            obtain ⟨cc, hcc⟩ := own_at HOQ.out _ e9
            obtain ⟨cd, hcd⟩ := own_at HAQ.out _ hg'
            exact ty_neN hcc hcd (by decide) rfl)
          have B3 : Below w.heap.size w w3 := HWQ.out.trans (BG3.below hws (fun b hb => (HO.out.lt b hb).1))
          have y3 := OA3.cell HP.out 0 rfl
          have f3 := OA3.frozen n
          simp only [layN, Nat.mul_one, Nat.add_zero] at y3
          have HO3 : Hid _ := hide hown3
          have HA3 : Hid _ := hide OA3
          have HB3 : Hid _ := hide B3
          rw [← HML.out] at hown3 ⊢
          have HO3' : Hid _ := hide hown3
          have hAl : A.length = N := by rw [HC.out.la]; exact HCL.out
          have HAL : Hid _ := hide hAl
          clear hown3 hgr3 hl3 BG3 OA3 B3 x0 y0 z0 z1 hAl
          go_wp2_with fail
          obtain ⟨w4, hw4⟩ : ∃ w4, w4 = setC w3 w.heap.size n [.int .i64 ((p : Int) + 1)] := ⟨_, rfl⟩
          have hw4' : w3.setCell ⟨w.heap.size, n, none⟩ (.int .i64 ((p : Int) + 1)) = w4 := by rw [hw4]; rfl
          rw [hw4']
          have b4 : But (fun b => b = w.heap.size) w3 w4 := by rw [hw4]; exact (But.refl (fun b => b = w.heap.size) w3).setC _ (fun _ => rfl)
          have O4 : Own layN 3 w4 w.heap.size (.slice (some ⟨w.heap.size, 0, none⟩) N N) (A.set n ((p + 1 : Nat) : Int)) := by
            have h9 := HA3.out.set HAL.out (i := n) (by rw [HAL.out]; exact hnN) ((p + 1 : Nat) : Int)
            rw [hw4]
            simpa [layN] using h9
          refine ⟨⟨A.set n ((p + 1 : Nat) : Int), cur.set n t, O ++ [(⟨xk, xt⟩ : It)], HO3'.out.but b4 (fun g' hg' e9 => ?_), O4, HC2.out, fun R hR => ?_, ?_, HB3.out.trans (b4.below HB3.out.size (fun b hb => Nat.le_of_eq hb.symm))⟩, ?_⟩
          · have e8 : g' = w.heap.size := e9
            obtain ⟨cc, hcc⟩ := own_at HO3'.out _ hg'
            obtain ⟨cd, hcd⟩ := own_at HA3.out w.heap.size rfl
            exact ty_neN hcc hcd (by decide) e8
          · have h1 := HM.out _ (Mrg.step HCN.out (fun _ => HLS.out) hR)
            rw [List.append_assoc]
            exact h1
          · have h1 := HTS.out
            have h2 := HT.out
            rw [List.length_append, List.length_singleton]
            omega
          · have h1 := HTS.out
            have h2 := HT.out
            rw [← HML.out] at h2
            show T - (m + 1) < T - m
            omega
end Go.Proofs.Ytdmlehbamdcjcaa
