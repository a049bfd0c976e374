/-
  New: a merger at the begin.
-/
import Derived.Test.YtdlpffbeladgaabMgC
namespace Go.Proofs.Ytdlpffbeladgaab
open Go.RowKit
theorem Own.set1 {e : TypeId} {w : World} {base g n c k : Nat} {L : List Rw} {x : Rw} (h : Own layW e w base (.slice (some ⟨g, 0, none⟩) n c) L) (hn : L.length = n) (hk : L[k]? = some x) (s : Sl) :
    Own layW e (w.setCell ⟨g, k * 2 + 1, none⟩ (.slice s.a s.n s.c)) base (.slice (some ⟨g, 0, none⟩) n c) (L.set k ⟨x.g, s⟩) := by
  subst hn
  unfold Own at h ⊢
  have h1 := (h.stored (k * 2 + 1) (.slice s.a s.n s.c)).1
  have hl := get_lt hk
  have e1 := layW.fl_set hl (⟨x.g, s⟩ : Rw)
  have e2 : (layW.fl L)[k * 2]? = some (.int .i64 x.g) := by have := layW.fl_get hk (t := 0) (by decide); simpa [layW] using this
  have e3 : (layW.fl L).set (k * 2 + 1) (.slice s.a s.n s.c) = layW.fl (L.set k ⟨x.g, s⟩) := by
    rw [← e1]
    have e4 : (layW.fl L).set (k * 2) (.int .i64 x.g) = layW.fl L := by
      have hlt := get_lt e2
      rw [List.getElem?_eq_getElem hlt] at e2
      rw [← Option.some.inj e2]
      exact List.set_getElem_self hlt
    show _ = setL (layW.fl L) (k * 2) [.int .i64 x.g, .slice s.a s.n s.c]
    simp only [setL]
    rw [e4]
  rw [List.length_set, ← e3]
  exact h1
set_option maxRecDepth 8000 in
theorem new_bad (w : World) (a : Option Addr) (n c : Nat) (rws : List Rw) (Gs : List (Int × List Rc)) (hr : Rdz w a n rws Gs) (hn : (n : Int) ≤ 9000000000000000000) (hm : ∀ G ∈ Gs, G.2.length * 40 ≤ 140737488355328) (hf : rfault (-1) 0 Gs ≠ 0) :
    Calls Try.prog 17 #[.slice a n c] w fun r w' => r = .returned (.tuple #[.pointer none, .int .i64 (rfault (-1) 0 Gs)]) ∧ Below w.heap.size w w' := by
  have RF := rf_any w a n c rws Gs hr hn hm
  generalize rfault (-1) 0 Gs = t at RF hf
  have hb : (t == 0) = false := by simp [hf]
  clear hr hm
  go_enter Try.func17, Try.ntmps17
  go_wp2_with fail
  refine RF.mono ?_
  rintro r w1 ⟨rfl, b1⟩
  have HB1 : Hid _ := hide b1
  clear RF b1
  go_wp2
  go_ret2
  exact ⟨rfl, HB1.out⟩
theorem take_snd {Gs : List (Int × List Rc)} {k : Nat} {G : Int × List Rc} (h : Gs[k]? = some G) : (Gs.take (k + 1)).map Prod.snd = (Gs.take k).map Prod.snd ++ [G.2] := by
  have hl := get_lt h
  rw [List.take_succ_eq_append_getElem hl, List.map_append]
  rw [List.getElem?_eq_getElem hl] at h
  rw [Option.some.inj h]; rfl
theorem tot_snoc (Ls : List (List Rc)) (L : List Rc) : tot (Ls ++ [L]) = tot Ls + L.length := by simp [tot]
theorem tot_take (Ls : List (List Rc)) (k : Nat) : tot (Ls.take k) ≤ tot Ls := by
  induction Ls generalizing k with
  | nil => simp
  | cons L Ls ih =>
    cases k with
    | zero => simp [tot]
    | succ k => rw [List.take_succ_cons, tot_cons, tot_cons]; have := ih k; omega
set_option maxRecDepth 8000 in
set_option maxHeartbeats 12800000 in
theorem new_ok (w : World) (a : Option Addr) (n c : Nat) (rws : List Rw) (Gs : List (Int × List Rc)) (hr : Rdz w a n rws Gs) (h0 : a = none → n = 0 ∧ c = 0) (hm : ∀ G ∈ Gs, G.2.length * 40 ≤ 140737488355328) (hok : RowsOk Gs) :
    Calls Try.prog 17 #[.slice a n c] w fun r w' => ∃ p rv ph hv, r = .returned (.tuple #[.pointer (some ⟨p, 0, none⟩), .int .i64 0]) ∧ Mgr w' w.heap.size p rv ph (Gs.map Prod.fst) ⟨Gs.map Prod.snd, 0, hv, Gs.length⟩ ∧ Below w.heap.size w w' := by
  have hGn : Gs.length = n := by rw [← hr.len, hr.row.len]
  have hn6 : n ≤ 65536 := by
    rw [← hGn]
    have h1 := nd_len (K := Gs.map Prod.fst) (M := (List.range 65536).map (fun i : Nat => (i : Int))) (asc_nodup hok.asc) (fun x hx => by
      obtain ⟨G, hG, rfl⟩ := List.mem_map.1 hx
      have := hok.g G hG
      exact List.mem_map.2 ⟨G.1.toNat, List.mem_range.2 (by omega), by omega⟩)
    simpa using h1
  have hnI : (n : Int) ≤ 65536 := by omega
  have RF := rf_any w a n c rws Gs hr (by omega) hm
  rw [hok.zero] at RF
  have HR : Hid _ := hide hr
  have HL : Hid _ := hide hr.row.len
  have HG : Hid _ := hide hGn
  have HK : Hid _ := hide hok
  have HA0 : Hid _ := hide h0
  clear hr hm hGn h0
  go_enter Try.func17, Try.ntmps17
  go_wp2_with fail
  refine RF.mono ?_
  rintro r w1 ⟨rfl, b1⟩
  clear RF
  have CW := cloneW w1 a n c rws (HR.out.row.below b1) HA0.out (by omega)
  have HB1 : Hid _ := hide b1
  have hs1 := b1.size
  clear b1
  go_wp2_with fail
  refine CW.mono ?_
  rintro r w2 ⟨rv, rfl, o2, b2⟩
  clear CW
  obtain ⟨ra, rc, hrv, -, -⟩ := own_form o2
  rw [HL.out] at hrv
  subst hrv
  have hs2 := b2.size
  have HN := hnewH w2
  have HO2 : Hid (Own layW 40 w2 w.heap.size (.slice ra n rc) rws) := hide (o2.mono hs1)
  have HB2 : Hid (Below w.heap.size w w2) := hide (HB1.out.trans (b2.mono hs1))
  have HBz : Hid (w.heap.size ≤ w2.heap.size) := hide HB2.out.size
  clear o2 b2
  go_wp2_with fail
  refine HN.mono ?_
  rintro r w3 ⟨rfl, hs3, b3⟩
  clear HN
  obtain ⟨w4, hw4⟩ : ∃ w4, w4 = w3.alloc (.cells #[.slice ra n rc, .pointer (some ⟨w2.heap.size, 0, none⟩), .int .i64 0, .int .i64 0] 74) := ⟨_, rfl⟩
  have b34 : Below w3.heap.size w3 w4 := by rw [hw4]; exact below_alloc1 _ _
  have hsz3 := b3.size
  have r4 : w4.heap[w3.heap.size]? = some (.cells #[.slice ra n rc, .pointer (some ⟨w2.heap.size, 0, none⟩), .int .i64 0, .int .i64 0] 74 (0, 0)) := by rw [hw4]; exact heap_new _ _
  have HBlk : Hid (w4.heap[w3.heap.size]? = some (.cells #[.slice ra n rc, .pointer (some ⟨w2.heap.size, 0, none⟩), .int .i64 0, .int .i64 (tot ((Gs.take 0).map Prod.snd) : Int)] 74 (0, 0))) := hide r4
  have HOw : Hid (Own layW 40 w4 w.heap.size (.slice ra n rc) rws) := hide ((HO2.out.below b3).below b34)
  have hh4 : HsH w4 w.heap.size w2.heap.size (.slice none 0 0) 0 [] := by
    have h9 := hs3.below b34
    obtain ⟨E, q1, q2, q3⟩ := h9.hq
    exact ⟨⟨E, ⟨q1.hp, q1.own.mono (by omega)⟩, q2, q3⟩, h9.srt, h9.trn, h9.lt, h9.n0⟩
  have HH4 : Hid (HsH w4 w.heap.size w2.heap.size (.slice none 0 0) ((0 : Nat) : Int) []) := hide hh4
  have HEa : Hid (∀ (j : Nat) (rw : Rw) (G : Int × List Rc), rws[j]? = some rw → Gs[j]? = some G → rw.g = G.1 ∧ (j < 0 → RecAt w4 w.heap.size rw.s G.2)) := hide (fun j rw G h1 h2 => ⟨(HR.out.each j rw G h1 h2).1, fun h => by omega⟩)
  have HB4 : Hid (Below w.heap.size w w4) := hide (HB2.out.trans ((b3.mono HB2.out.size).trans (b34.mono (by omega))))
  have HW4 : Hid _ := hide hw4
  have hpp : w.heap.size ≤ w3.heap.size := by omega
  have hsw3 : w2.heap.size < w3.heap.size := (Array.getElem?_eq_some_iff.1 hs3.blk).1
  clear hs3 b3 b34 hh4 r4 hw4
  go_wp2_with fail
  rw [← HW4.out]
  go_loopw [20] (fun i wr => ∃ (k : Nat) (rw9 : List Rw) (S : List (Hd × Int)) (hv : Value), i = .int .i64 k ∧ k ≤ n ∧ Hid (wr.heap[w3.heap.size]? = some (.cells #[.slice ra n rc, .pointer (some ⟨w2.heap.size, 0, none⟩), .int .i64 0, .int .i64 (tot ((Gs.take k).map Prod.snd) : Int)] 74 (0, 0))) ∧ Hid (rw9.length = n) ∧ Hid (Own layW 40 wr w.heap.size (.slice ra n rc) rw9) ∧ Hid (∀ (j : Nat) (rw : Rw) (G : Int × List Rc), rw9[j]? = some rw → Gs[j]? = some G → rw.g = G.1 ∧ (j < k → RecAt wr w.heap.size rw.s G.2)) ∧ Hid (HsH wr w.heap.size w2.heap.size hv (k : Int) S) ∧ Hid (Hds ((Gs.take k).map Prod.snd) S) ∧ Hid (S.length = k) ∧ Hid (Below w.heap.size w wr)) (fun i _ => n - numV i)
  case atStart => exact ⟨0, rws, [], _, rfl, Nat.zero_le _, HBlk, HL, HOw, HEa, HH4, hide Hds.none_, hide rfl, HB4⟩
  case round =>
    clear HBlk HOw HEa HH4 HB4 HW4 HO2 HB2 HB1
    obtain ⟨k, rw9, S, hv, rfl, hk, HBlk, HRl, HOw, HEa, HHs, HHd, HSl, HB⟩ := hrel
    by_cases hlt : k < n
    · have hltI : (k : Int) < (n : Int) := by omega
      obtain ⟨x, hx⟩ : ∃ r, rws[k]? = some r := ⟨_, List.getElem?_eq_getElem (by rw [HL.out]; exact hlt)⟩
      obtain ⟨y, hy⟩ : ∃ r, rw9[k]? = some r := ⟨_, List.getElem?_eq_getElem (by rw [HRl.out]; exact hlt)⟩
      obtain ⟨G, hGk⟩ : ∃ r, Gs[k]? = some r := ⟨_, List.getElem?_eq_getElem (by rw [HG.out]; exact hlt)⟩
      have A1 := HR.out.below HB.out
      obtain ⟨lb, lo, rfl, hlb, hc⟩ := A1.row.at (by omega)
      obtain ⟨pg, pr, p0', pcap⟩ := A1.each k x G hx hGk
      have yg := (HEa.out k y G hy hGk).1
      have x0 := hc k x hx 0 _ rfl
      have x1 := hc k x hx 1 _ rfl
      have hne := HK.out.ne G (List.mem_of_getElem? hGk)
      have hri := HK.out.rise G (List.mem_of_getElem? hGk)
      have HTS := hide (take_snd hGk)
      have htot : tot ((Gs.take (k + 1)).map Prod.snd) ≤ 1048576 := by
        have h8 := HK.out.tot
        have h9 := tot_take (Gs.map Prod.snd) (k + 1)
        rw [List.map_take]; omega
      obtain ⟨g, R⟩ := G
      obtain ⟨xg, pa, pn, pc⟩ := x
      dsimp only at pg pr p0' pcap hne hri
      subst pg
      simp only [layW, Nat.add_zero] at x0 x1
      obtain ⟨r0, R', hRR⟩ : ∃ r0 R', R = r0 :: R' := by cases R with | nil => exact absurd rfl hne | cons a b => exact ⟨a, b, rfl⟩
      have hpn := pr.len
      have htk : tot ((Gs.take (k + 1)).map Prod.snd) = tot ((Gs.take k).map Prod.snd) + pn := by rw [HTS.out, tot_snoc]; dsimp only; rw [hpn]
      rw [htk] at htot
      obtain ⟨T, hT⟩ : ∃ T, T = tot ((Gs.take k).map Prod.snd) := ⟨_, rfl⟩
      rw [← hT] at htot htk
      have HTk : Hid _ := hide htk
      have hpn0 : 0 < pn := by rw [← hpn, hRR]; simp
      obtain ⟨pb, po, hpa, hpb, hpc⟩ := (HR.out.each k _ _ hx hGk).2.1.at hpn0
      have y0 := hpc 0 r0 (by rw [hRR]; rfl) 0 _ rfl
      dsimp only at hpa
      subst hpa
      simp only [layR, Nat.add_zero, Nat.zero_mul] at y0
      obtain ⟨rb, rc2, hrv, hrb0, hrb, hrc⟩ := HOw.out.frm (by rw [HRl.out]; omega)
      injection hrv with hra hnn hrc2
      subst hra
      clear hrc hrc2 rc2 hnn
      obtain ⟨w5, hw5⟩ : ∃ w5, w5 = wr.alloc (.cells #[.int .i64 xg, .slice (some ⟨pb, po, none⟩) pn pc] 40) := ⟨_, rfl⟩
      have b5 : Below wr.heap.size wr w5 := by rw [hw5]; exact below_alloc1 _ _
      have s5 : wr.heap.size < w5.heap.size := by rw [hw5]; simp
      have r5 : w5.heap[wr.heap.size]? = some (.cells #[.int .i64 xg, .slice (some ⟨pb, po, none⟩) pn pc] 40 (0, 0)) := by rw [hw5]; exact heap_new _ _
      have hbw := HBlk.out
      rw [← hT] at hbw
      have hp5 := (b5.block w3.heap.size (Array.getElem?_eq_some_iff.1 hbw).1).trans hbw
      have hpl : w3.heap.size < wr.heap.size := (Array.getElem?_eq_some_iff.1 hbw).1
      have HP5 : Hid _ := hide hp5
      have HR5 : Hid _ := hide r5
      have HO5 : Hid _ := hide (HOw.out.below b5)
      have HB5 : Hid _ := hide b5
      have HW5 : Hid _ := hide hw5
      have HPR5 : Hid _ := hide (pr.below b5)
      have HYS : Hid (rw9[k]? = some y) := hide hy
      have HGk : Hid (Gs[k]? = some (xg, R)) := hide hGk
      have HXg : Hid (y.g = xg) := hide yg
      have hwr0 : w.heap.size ≤ wr.heap.size := HB.out.size
      have HS5 : Hid (∀ X, But (fun q => q = rb) w5 X → X.cell? ⟨w3.heap.size, 0, none⟩ = some (.slice (some ⟨rb, 0, none⟩) n rc) ∧ X.cell? ⟨wr.heap.size, 1, none⟩ = some (.slice (some ⟨pb, po, none⟩) pn pc)) := hide (fun X hX => by
        have hne1 : ¬ w3.heap.size = rb := fun e => by
          obtain ⟨cu, hcu⟩ := own_ty HOw.out (b := rb) rfl
          rw [← e, HBlk.out] at hcu
          simp at hcu
        have e1 := (hX.block w3.heap.size (by omega) hne1).trans hp5
        have e2 := (hX.block wr.heap.size s5 (fun e => by have e9 : wr.heap.size = rb := e; omega)).trans r5
        exact ⟨cell_at e1 rfl, cell_at e2 rfl⟩)
      have CR := fun (X : World) (hX : Below w5.heap.size w5 X) => cloneR X (some ⟨pb, po, none⟩) pn pc R (HPR5.out.below hX) (fun e => by cases e) (by omega)
      obtain ⟨u0, u1⟩ := HS5.out _ (But.refl _ _)
      clear hc hx hy hGk A1 pr hpn hT htk yg r5 hp5 b5 hw5 p0' hbw hpc
      go_wp2_with fail
      rw [← HW5.out]
      go_region_held3 (fun X => X.cell? ⟨w3.heap.size, 0, none⟩ = some (.slice (some ⟨rb, 0, none⟩) n rc) ∧ X.cell? ⟨wr.heap.size, 1, none⟩ = some (.slice (some ⟨pb, po, none⟩) pn pc)) (first | exact HS5.out _ hb7 | exact HS5.out _ (But.of_below hb6) | exact HS5.out _ (But.refl _ _).drew | exact HS5.out _ (But.refl _ _)) (first
        | (go_at_call 29; go_must (
           refine (CR _ (Below.refl _ _).drew).mono ?_
           rintro e1 w6 ⟨v6, rfl, o6, b6⟩
           have hb6 : Below w5.heap.size w5 w6 := (Below.refl _ _).drew.trans b6
           obtain ⟨na, nc, hv6, -, -⟩ := own_form o6
           rw [HPR5.out.len] at hv6
           subst hv6
           have hO6 := HO5.out.below hb6
           have q1 := hO6.cell HYS.out 1 (u := _) rfl
           simp only [layW] at q1
           have fz := hO6.frozen (k * 2 + 1)
           have hb7 : But (fun q => q = rb) w5 (w6.setCell ⟨rb, k * 2 + 1, none⟩ (.slice na pn nc)) := (But.of_below (S := fun q => q = rb) hb6).setCell ⟨rb, k * 2 + 1, none⟩ (fun _ => rfl) _)))
      obtain ⟨w7, hw7⟩ : ∃ w7, w7 = w6.setCell ⟨rb, k * 2 + 1, none⟩ (.slice na pn nc) := ⟨_, rfl⟩
      rw [← hw7] at hb7 ⊢
      have b57 : But (fun q => q = rb) wr w7 := (But.of_below HB5.out).trans hb7 (fun _ _ e => e)
      have HO7 : Hid (Own layW 40 w7 w.heap.size (.slice (some ⟨rb, 0, none⟩) n rc) (rw9.set k ⟨xg, ⟨na, pn, nc⟩⟩)) := hide (by
        rw [hw7, ← HXg.out]
        exact Own.set1 (HO5.out.below hb6) HRl.out HYS.out ⟨na, pn, nc⟩)
      have hb67 : But (fun q => q = rb) w6 w7 := by rw [hw7]; exact (But.refl (fun q => q = rb) w6).setCell ⟨rb, k * 2 + 1, none⟩ (fun _ => rfl) _
      have hrbt : ∀ {b : Nat} {cur : Array Value} {T : TypeId}, wr.heap[b]? = some (.cells cur T (0, 0)) → T ≠ 40 → ¬ b = rb := fun h1 h2 e => by
        obtain ⟨cu, hcu⟩ := own_ty HOw.out (b := rb) rfl
        rw [e, hcu] at h1
        simp at h1
        exact h2 h1.2.symm
      have HRec : Hid (RecAt w7 w.heap.size ⟨na, pn, nc⟩ R) := hide (by
        have h9 := (o6.mono (base' := w.heap.size) (by simp; omega)).recAt (s := ⟨na, pn, nc⟩)
        refine h9.but hb67 (fun b cur hb h8 e => ?_)
        obtain ⟨cu, hcu⟩ := own_ty (HO5.out.below hb6) (b := rb) rfl
        have e9 : b = rb := e
        rw [e9, hcu] at h8
        simp at h8)
      have HOld : Hid (∀ (j : Nat) (rw : Rw) (G : Int × List Rc), rw9[j]? = some rw → Gs[j]? = some G → rw.g = G.1 ∧ (j < k → RecAt w7 w.heap.size rw.s G.2)) := hide (fun j rw G h1 h2 => ⟨(HEa.out j rw G h1 h2).1, fun hj => ((HEa.out j rw G h1 h2).2 hj).but b57 (fun b cur _ h8 => hrbt h8 (by decide))⟩)
      have HS7 : Hid (HsH w7 w.heap.size w2.heap.size hv (k : Int) S) := hide (HHs.out.but b57 (hrbt HHs.out.blk (by decide)) (fun q hq => by obtain ⟨_, _, cu, hcu⟩ := HHs.out.own q hq; exact hrbt hcu (by decide)))
      have hB7 := HBlk.out
      have HB7 : Hid (w7.heap[w3.heap.size]? = some (.cells #[.slice (some ⟨rb, 0, none⟩) n rc, .pointer (some ⟨w2.heap.size, 0, none⟩), .int .i64 0, .int .i64 (T : Int)] 74 (0, 0))) := hide ((hb7.block w3.heap.size (by omega) (hrbt HBlk.out (by decide))).trans HP5.out)
      have HRw7 : Hid (w7.heap[wr.heap.size]? = some (.cells #[.int .i64 xg, .slice (some ⟨pb, po, none⟩) pn pc] 40 (0, 0))) := hide ((hb7.block wr.heap.size s5 (fun e => by have e9 : wr.heap.size = rb := e; omega)).trans HR5.out)
      have hs57 := hb7.size
      have HBw7 : Hid (Below w.heap.size w w7) := hide (HB.out.trans (b57.below hwr0 (fun q hq => by have e9 : q = rb := hq; omega)))
      have HY : Hid (∀ X, Below w.heap.size w X → X.cell? ⟨pb, po, none⟩ = some (.int .i64 r0.stamp)) := hide (fun X hX => (hX.cell (p := ⟨pb, po, none⟩) hpb).trans y0)
      have HS9 : Hid (∀ X, But (fun q => q = w2.heap.size ∨ hv.ownBlock = some q) w7 X → X.cell? ⟨w3.heap.size, 1, none⟩ = some (.pointer (some ⟨w2.heap.size, 0, none⟩)) ∧ X.cell? ⟨wr.heap.size, 1, none⟩ = some (.slice (some ⟨pb, po, none⟩) pn pc) ∧ X.cell? ⟨pb, po, none⟩ = some (.int .i64 r0.stamp) ∧ X.heap[w3.heap.size]? = some (.cells #[.slice (some ⟨rb, 0, none⟩) n rc, .pointer (some ⟨w2.heap.size, 0, none⟩), .int .i64 0, .int .i64 (T : Int)] 74 (0, 0)) ∧ X.heap[wr.heap.size]? = some (.cells #[.int .i64 xg, .slice (some ⟨pb, po, none⟩) pn pc] 40 (0, 0))) := hide (fun X hX => by
        have e1 := (hX.block w3.heap.size (by omega) (fun e => e.elim (fun e => by have e9 : w3.heap.size = w2.heap.size := e; omega) (fun e => by obtain ⟨_, _, cu, hcu⟩ := HS7.out.own _ e; rw [HB7.out] at hcu; simp at hcu))).trans HB7.out
        have e2 := (hX.block wr.heap.size (by omega) (fun e => e.elim (fun e => by have e9 : wr.heap.size = w2.heap.size := e; omega) (fun e => by obtain ⟨_, _, cu, hcu⟩ := HS7.out.own _ e; rw [HRw7.out] at hcu; simp at hcu))).trans HRw7.out
        refine ⟨cell_at e1 rfl, cell_at e2 rfl, HY.out X (HBw7.out.trans (hX.below HBw7.out.size (fun q hq => hq.elim (fun e => by have e9 : q = w2.heap.size := e; omega) (fun e => (HS7.out.own q e).1)))), e1, e2⟩)
      have PU := fun (X : World) (hX : Below w7.heap.size w7 X) => hpushH (⟨r0.stamp, (k : Int)⟩ : Hd) (HS7.out.below hX) (by have := hX.size; omega) (by omega) (by rw [HSl.out]; omega)
      obtain ⟨t1, t2, t3, -, -⟩ := HS9.out _ (But.refl _ _)
      clear hw7 hb7 hb67 o6 b6 hO6 q1 fz hB7 b57 u0 u1 x0 x1 y0 hb6 hrbt CR
      go_wp2_with fail
      go_region_held3 (fun X => X.cell? ⟨w3.heap.size, 1, none⟩ = some (.pointer (some ⟨w2.heap.size, 0, none⟩)) ∧ X.cell? ⟨wr.heap.size, 1, none⟩ = some (.slice (some ⟨pb, po, none⟩) pn pc) ∧ X.cell? ⟨pb, po, none⟩ = some (.int .i64 r0.stamp)) (first | exact ⟨(HS9.out _ hb8).1, (HS9.out _ hb8).2.1, (HS9.out _ hb8).2.2.1⟩ | exact ⟨(HS9.out _ (But.refl _ _).drew).1, (HS9.out _ (But.refl _ _).drew).2.1, (HS9.out _ (But.refl _ _).drew).2.2.1⟩ | exact ⟨t1, t2, t3⟩) (first
        | (go_at_call 30; go_must (
           refine (PU _ (Below.refl _ _).drew).mono ?_
           rintro e1 w8 ⟨rfl, hv8, hs8, b8, n8⟩
           have hb8 : But (fun q => q = w2.heap.size ∨ hv.ownBlock = some q) w7 w8 := (But.refl _ _).drew.trans b8 (fun _ _ e => e))))
      have HB8 : Hid _ := hide hb8
      have HHs8 : Hid _ := hide hs8
      obtain ⟨v1, v2, v3, hp8, hr8⟩ := HS9.out _ hb8
      have z3 : w8.cell? ⟨w3.heap.size, 3, none⟩ = some (.int .i64 (T : Int)) := cell_at hp8 rfl
      have fz3 := frz hp8 3
      have HP8 : Hid _ := hide hp8
      clear PU hs8 b8 n8 hb8 t1 t2 t3 v1 v3 hp8 hr8
      have hTI : (T : Int) + (pn : Int) ≤ 1048576 := by omega
      go_wp2_with fail
      go_region
      obtain ⟨w9, hw9⟩ : ∃ w9, w9 = (w8.setCell ⟨w3.heap.size, 3, none⟩ (.int .i64 ((T : Int) + (pn : Int)))).drew := ⟨_, rfl⟩
      have b89 : But (fun q => q = w3.heap.size) w8 w9 := by rw [hw9]; exact ((But.refl (fun q => q = w3.heap.size) w8).setCell ⟨w3.heap.size, 3, none⟩ (fun _ => rfl) _).drew
      have r9 : w9.heap[w3.heap.size]? = some (.cells #[.slice (some ⟨rb, 0, none⟩) n rc, .pointer (some ⟨w2.heap.size, 0, none⟩), .int .i64 0, .int .i64 ((T : Int) + (pn : Int))] 74 (0, 0)) := by rw [hw9]; exact set1_heap _ HP8.out
      have hpt : ∀ {b : Nat} {cur : Array Value} {Ty : TypeId}, w8.heap[b]? = some (.cells cur Ty (0, 0)) → Ty ≠ 74 → ¬ b = w3.heap.size := fun h1 h2 e => by
        rw [e, HP8.out] at h1
        simp at h1
        exact h2 h1.2.symm
      have hpt7 : ∀ {b : Nat} {cur : Array Value} {Ty : TypeId}, w7.heap[b]? = some (.cells cur Ty (0, 0)) → Ty ≠ 88 → Ty ≠ 91 → ¬ (b = w2.heap.size ∨ hv.ownBlock = some b) := fun h1 h2 h3 e => by
        rcases e with e | e
        · rw [e, HS7.out.blk] at h1
          simp at h1
          exact h2 h1.2.symm
        · obtain ⟨_, _, cu, hcu⟩ := HS7.out.own _ e
          rw [hcu] at h1
          simp at h1
          exact h3 h1.2.symm
      have hRA : ∀ {s : Sl} {L : List Rc}, RecAt w7 w.heap.size s L → RecAt w9 w.heap.size s L := fun h => (h.but HB8.out (fun b cur _ h8 => hpt7 h8 (by decide) (by decide))).but b89 (fun b cur _ h8 => hpt h8 (by decide))
      have HO9 : Hid (Own layW 40 w9 w.heap.size (.slice (some ⟨rb, 0, none⟩) n rc) (rw9.set k ⟨xg, ⟨na, pn, nc⟩⟩)) := hide (by
        have h8 := HO7.out.but HB8.out (fun q hq => by obtain ⟨cu, hcu⟩ := own_ty HO7.out hq; exact hpt7 hcu (by decide) (by decide))
        exact h8.but b89 (fun q hq => by obtain ⟨cu, hcu⟩ := own_ty h8 hq; exact hpt hcu (by decide)))
      have HE9 : Hid (∀ (j : Nat) (rw : Rw) (G : Int × List Rc), (rw9.set k ⟨xg, ⟨na, pn, nc⟩⟩)[j]? = some rw → Gs[j]? = some G → rw.g = G.1 ∧ (j < k + 1 → RecAt w9 w.heap.size rw.s G.2)) := hide (fun j rw G h1 h2 => by
        by_cases hj : k = j
        · subst hj
          rw [List.getElem?_set_self (get_lt HYS.out)] at h1
          rw [HGk.out] at h2
          injection h1 with h1
          injection h2 with h2
          subst h1; subst h2
          exact ⟨rfl, fun _ => hRA HRec.out⟩
        · rw [List.getElem?_set_ne hj] at h1
          obtain ⟨q1, q2⟩ := HOld.out j rw G h1 h2
          exact ⟨q1, fun hj2 => hRA (q2 (by omega))⟩)
      have HH9 : Hid (HsH w9 w.heap.size w2.heap.size hv8 (((k + 1 : Nat)) : Int) (ins (fst bfH) (⟨r0.stamp, (k : Int)⟩, (k : Int)) S)) := hide (by
        have h8 := HHs8.out.but b89 (hpt HHs8.out.blk (by decide)) (fun q hq => by obtain ⟨_, _, cu, hcu⟩ := HHs8.out.own q hq; exact hpt hcu (by decide))
        exact h8)
      have HD9 : Hid (Hds ((Gs.take (k + 1)).map Prod.snd) (ins (fst bfH) (⟨r0.stamp, (k : Int)⟩, (k : Int)) S)) := hide (by
        have h8 := HHd.out.more r0 R' (k : Int)
        rw [HTS.out]
        show Hds (_ ++ [R]) _
        rw [hRR]
        have e8 : ((Gs.take k).map Prod.snd).length = k := by rw [List.length_map, List.length_take, HG.out]; omega
        rw [e8] at h8
        exact h8)
      have HL9 : Hid ((ins (fst bfH) ((⟨r0.stamp, (k : Int)⟩ : Hd), (k : Int)) S).length = k + 1) := hide (by rw [ins_len, HSl.out])
      have HR9 : Hid (w9.heap[w3.heap.size]? = some (.cells #[.slice (some ⟨rb, 0, none⟩) n rc, .pointer (some ⟨w2.heap.size, 0, none⟩), .int .i64 0, .int .i64 (tot ((Gs.take (k + 1)).map Prod.snd) : Int)] 74 (0, 0))) := hide (by rw [r9, HTk.out]; rfl)
      have HB9 : Hid (Below w.heap.size w w9) := hide (HBw7.out.trans ((HB8.out.below HBw7.out.size (fun q hq => hq.elim (fun e => by have e9 : q = w2.heap.size := e; omega) (fun e => (HS7.out.own q e).1))).trans (b89.below (by have := HB8.out.size; have := HBw7.out.size; omega) (fun q hq => by have e9 : q = w3.heap.size := hq; omega))))
      have HRl9 : Hid ((rw9.set k (⟨xg, ⟨na, pn, nc⟩⟩ : Rw)).length = n) := hide (by rw [List.length_set, HRl.out])
      rw [← hw9]
      clear hw9 b89 r9 hpt hpt7 hRA z3 fz3 v2
      go_wp2
      exact ⟨⟨k + 1, _, _, _, by go_num, by omega, HR9, HRl9, HO9, HE9, HH9, HD9, HL9, HB9⟩, by simp [numV]; omega⟩
    · have hltI : ¬ (k : Int) < (n : Int) := by omega
      obtain rfl : k = n := by omega
      go_wp2
      go_ret2
      refine ⟨w3.heap.size, rfl, ⟨.slice ra k rc, w2.heap.size, hv, ⟨?_, ⟨rw9, HOw.out, ?_, ?_⟩, ⟨S, ?_, ?_, ?_⟩, ?_, ?_, ?_, ?_, ?_, ?_, ?_, ?_⟩⟩, HB.out⟩
      · have h9 := HBlk.out
        rw [List.take_of_length_le (by rw [HG.out]; exact Nat.le_refl _)] at h9
        exact h9
      · rw [HRl.out, List.length_map, HG.out]
      · intro j rw g L h1 h2 h3
        obtain ⟨G, hG⟩ : ∃ G, Gs[j]? = some G := ⟨_, List.getElem?_eq_getElem (by have := get_lt h2; simpa using this)⟩
        simp [hG] at h2 h3
        subst h2; subst h3
        obtain ⟨q1, q2⟩ := HEa.out j rw G h1 hG
        exact ⟨q1, q2 (by rw [← HG.out]; exact get_lt hG)⟩
      · dsimp only; rw [HG.out]; exact HHs.out
      · have h9 := HHd.out
        rw [List.take_of_length_le (by rw [HG.out]; exact Nat.le_refl _)] at h9
        exact h9
      · rw [HSl.out, List.length_map, HG.out]; exact Nat.le_refl _
      · simp
      · rw [List.length_map, HG.out]; exact hn6
      · have := HK.out.tot
        dsimp only
        rw [HG.out]
        omega
      · intro L hL
        obtain ⟨G, hG, rfl⟩ := List.mem_map.1 hL
        exact HK.out.rise G hG
      · exact Int.le_refl _
      · dsimp only; omega
      · exact hpp
      · exact HBz.out
end Go.Proofs.Ytdlpffbeladgaab
