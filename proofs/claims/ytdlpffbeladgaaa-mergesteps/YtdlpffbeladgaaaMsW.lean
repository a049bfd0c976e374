/-
  MergeSteps: the walk.
-/
import Derived.Test.YtdlpffbeladgaaaMsC
import Derived.Test.YtdlpffbeladgaaaMRm
namespace Go.Proofs.Ytdlpffbeladgaaa
open Go.RowKit
set_option maxRecDepth 8000 in
set_option maxHeartbeats 25600000 in
theorem mergeSteps (w : World) (a0 : Option Addr) (n0 c0 : Nat) (r0 : List Rw) (G0 : List (Int × List Rc)) (hr0 : Rdz w a0 n0 r0 G0) (hn0 : n0 * 32 ≤ 140737488355328) (hm0 : ∀ G ∈ G0, G.2.length * 40 ≤ 140737488355328)
    (a1 : Option Addr) (n1 c1 : Nat) (r1 : List Rw) (G1 : List (Int × List Rc)) (hr1 : Rdz w a1 n1 r1 G1) (hn1 : n1 * 32 ≤ 140737488355328) (hm1 : ∀ G ∈ G1, G.2.length * 40 ≤ 140737488355328)
    (at_ : Option Addr) (nt ct : Nat) (ts : List Int) (ht : TRow layN w at_ nt ts) (hnt : (nt : Int) ≤ 9000000000000000000) :
    Calls Try.prog 3 #[.slice a0 n0 c0, .slice a1 n1 c1, .slice at_ nt ct] w fun r w' => r = .returned (.bool true) ∧ Below w.heap.size w w' := by
  have HSEL : Hid (∀ k : Nat, k < 2 → ∃ ai ni ci ri Gi, (#[Value.slice a0 n0 c0, Value.slice a1 n1 c1] : Array Value)[k]? = some (.slice ai ni ci) ∧ Rdz w ai ni ri Gi ∧ ni * 32 ≤ 140737488355328 ∧ ∀ G ∈ Gi, G.2.length * 40 ≤ 140737488355328) := hide (fun k hk => by
    have : k = 0 ∨ k = 1 := by omega
    rcases this with rfl | rfl
    · exact ⟨a0, n0, c0, r0, G0, rfl, hr0, hn0, hm0⟩
    · exact ⟨a1, n1, c1, r1, G1, rfl, hr1, hn1, hm1⟩)
  have HTS : Hid _ := hide ht
  have HTL : Hid _ := hide ht.len
  clear hr0 hn0 hm0 hr1 hn1 hm1 ht
  obtain ⟨w3, hw3⟩ : ∃ w3, w3 = ((w.alloc (.cells #[.slice a0 n0 c0, .slice a1 n1 c1] 24)).alloc (.cells #[.pointer none, .pointer none] 26)).alloc (.cells #[.pointer none, .pointer none] 28) := ⟨_, rfl⟩
  have HL3 : Hid (LP w w3 (.slice a0 n0 c0) (.slice a1 n1 c1) 0 none none none none none none) := hide (by
    rw [hw3]
    refine ⟨heap_old (heap_old (heap_new _ _)), heap_old (heap_new2 _ _ _), ?_, fun e => by omega, fun e => by omega, fun e => by omega, (below_alloc2 _ _ _).alloc (by simp; omega) _⟩
    have h9 := World.alloc_heap_new ((w.alloc (.cells #[.slice a0 n0 c0, .slice a1 n1 c1] 24)).alloc (.cells #[.pointer none, .pointer none] 26)) (.cells #[.pointer none, .pointer none] 28)
    rw [World.size_alloc, World.size_alloc] at h9
    exact h9)
  have HW3 : Hid _ := hide hw3
  clear hw3
  go_enter Try.func3, Try.ntmps3
  go_wp2_with fail
  rw [← HW3.out]
  go_loopw [10] (fun i wr => ∃ (k : Nat) (po0 po1 qo0 qo1 : Option Addr) (d0 d1 : Option PD), i = .int .i64 k ∧ k ≤ 2 ∧ Hid (LP w wr (.slice a0 n0 c0) (.slice a1 n1 c1) k po0 po1 qo0 qo1 d0 d1)) (fun i _ => 2 - numV i)
  case atStart => exact ⟨0, none, none, none, none, none, none, rfl, by omega, HL3⟩
  case round =>
    obtain ⟨k, po0, po1, qo0, qo1, d0, d1, rfl, hk, HLP⟩ := hrel
    by_cases hlt : k < 2
    · have hltI : (k : Int) < 2 := by omega
      obtain ⟨ai, ni, ci, ri, Gi, hsl, hri, hni, hmi⟩ := HSEL.out k hlt
      have cb : wr.cell? ⟨w.heap.size, k, none⟩ = some (.slice ai ni ci) := cell_at HLP.out.bb hsl
      have TN := twins_any wr ai ni ci ri Gi (hri.below HLP.out.below) hni hmi
      have HRI : Hid _ := hide hri
      have HNI : Hid _ := hide hni
      have HMI : Hid _ := hide hmi
      have HSL : Hid _ := hide hsl
      have HGI : Hid (Gi.length = ni) := hide (by rw [← hri.len, hri.row.len])
      have hniI : (ni : Int) ≤ 4398046511104 := by omega
      clear hri hni hmi hsl
      go_wp2_with fail
      refine TN.mono ?_
      rintro r w1 ⟨vg, rg, rfl, zg, b1⟩
      clear TN
      obtain ⟨ag, cg, hvg, hg0⟩ := zg.form
      rw [HGI.out] at hvg hg0
      subst hvg
      have HB1 : Hid _ := hide b1
      have HZG : Hid _ := hide zg
      have HLP1 : Hid _ := hide (HLP.out.on b1)
      have HRGL : Hid (rg.length = ni) := hide (by rw [zg.len, HGI.out])
      have NW := new_pr w1 ag ai ni cg ci rg ri Gi (zg.reads HRGL.out) hg0 (HRI.out.below HLP1.out.below) HNI.out HMI.out
      have HG0 : Hid _ := hide hg0
      clear b1 zg cb hg0
      go_wp2_with fail
      refine NW.mono ?_
      rintro r w2 ⟨po, er, rfl, b2, hnx⟩
      clear NW
      have HB2 : Hid _ := hide b2
      have HLP2 : Hid _ := hide (HLP1.out.on b2)
      have cb : w2.cell? ⟨w.heap.size, k, none⟩ = some (.slice ai ni ci) := cell_at HLP2.out.bb HSL.out
      have NX := hnx w2 (Below.refl _ _)
      clear hnx b2
      go_wp2_with fail
      refine NX.mono ?_
      rintro r w3' ⟨qo, d, rfl, hiso, b3, hpr, hbase⟩
      clear NX cb
      have HB3 : Hid _ := hide b3
      have HLP3 : Hid _ := hide (HLP2.out.on b3)
      have HPR : Hid _ := hide hpr
      have HBase : Hid _ := hide hbase
      have cb : w3'.cell? ⟨w.heap.size, k, none⟩ = some (.slice ai ni ci) := cell_at HLP3.out.bb HSL.out
      have SR := sameRw ag ai ni cg ci rg ri Gi w3' (((HZG.out.reads HRGL.out).below HB2.out).below b3) (HRI.out.below HLP3.out.below) (by omega) (fun G hG => by have := HMI.out G hG; omega)
      have q1 : ∀ W : World, (binOp .eql 25 (.pointer po) (.pointer none)).run Try.prog W = .ok (.bool po.isNone) W := fun W => by cases po <;> go_simp
      have q2 : ∀ W : World, (binOp .eql 27 (.pointer qo) (.pointer none)).run Try.prog W = .ok (.bool po.isNone) W := fun W => by rw [← hiso]; cases qo <;> go_simp
      have hee : (er == er) = true := by simp
      have hen : (er != er) = false := by simp
      have hbn : (po.isNone != po.isNone) = false := by simp
      have hbe : (po.isNone == po.isNone) = true := by simp
      clear hiso b3 hpr hbase
      go_wp2_with fail
      refine SR.mono ?_
      rintro r w4 ⟨rfl, b4⟩
      clear SR cb
      have HB4 : Hid _ := hide b4
      have HBr4 : Hid (Below wr.heap.size wr w4) := hide (((HB1.out.trans (HB2.out.mono HB1.out.size)).trans (HB3.out.mono (Nat.le_trans HB1.out.size HB2.out.size))).trans (b4.mono (Nat.le_trans HB1.out.size (Nat.le_trans HB2.out.size HB3.out.size))))
      have HPR4 : Hid _ := hide (HPR.out.on b4)
      have HGV : Hid (0 < ni → ∃ b, ag = some ⟨b, 0, none⟩ ∧ Gvn w4 wr.heap.size w1.heap.size b ni rg) := hide (fun hpos => by
        obtain ⟨g, c', hv, _, _, _⟩ := HZG.out.own.frm (by rw [HRGL.out]; exact hpos)
        injection hv with e1 e2 e3
        refine ⟨g, e1, ?_⟩
        have h9 := HZG.out
        rw [e1] at h9
        exact (((Gvn.of h9 HRGL.out).below HB2.out).below HB3.out).below b4)
      clear b4 q1 q2 hee hen hbn hbe
      go_wp2_with fail
      go_loopw [16] (fun i2 wo => ∃ q : Nat, i2 = .int .i64 q ∧ q ≤ ni ∧ Hid (0 < ni → ∃ b, ag = some ⟨b, 0, none⟩ ∧ Gvn wo wr.heap.size w1.heap.size b ni rg) ∧ Hid (But (fun z => wr.heap.size ≤ z ∧ z < w1.heap.size) w4 wo)) (fun i2 _ => ni - numV i2)
      case atStart => exact ⟨0, rfl, Nat.zero_le _, HGV, hide (But.refl _ _)⟩
      case round =>
        obtain ⟨q, rfl, hq, HGO, HBO⟩ := hrel
        rename World => wo
        by_cases hlt2 : q < ni
        · have hltJ : (q : Int) < (ni : Int) := by omega
          obtain ⟨b, rfl, gv⟩ := HGO.out (by omega)
          obtain ⟨rw, hrw⟩ : ∃ rw, rg[q]? = some rw := ⟨_, List.getElem?_eq_getElem (by rw [HRGL.out]; exact hlt2)⟩
          have HGVo : Hid _ := hide gv
          have HRW : Hid _ := hide hrw
          obtain ⟨rg0, sa, sn, sc⟩ := rw
          clear gv hrw HGO
          have hsnI : (sn : Int) ≤ 3518437208884 := by
            obtain ⟨G, hG⟩ : ∃ G, Gi[q]? = some G := ⟨_, List.getElem?_eq_getElem (by rw [HGI.out]; exact hlt2)⟩
            have h8 := (HZG.out.each q _ G HRW.out hG).2
            have h9 := HMI.out G (List.mem_of_getElem? hG)
            obtain ⟨_, _, e, _, _⟩ := own_form h8
            injection e with _ e _
            have e' : sn = G.2.length := e
            omega
          go_wp2_with fail
          go_loopw [17] (fun j wi => ∃ m : Nat, j = .int .i64 m ∧ m ≤ sn ∧ Hid (Gvn wi wr.heap.size w1.heap.size b ni rg) ∧ Hid (But (fun z => wr.heap.size ≤ z ∧ z < w1.heap.size) w4 wi)) (fun j _ => sn - numV j)
          case atStart => exact ⟨0, rfl, Nat.zero_le _, HGVo, HBO⟩
          case round =>
            obtain ⟨m, rfl, hm, HGI', HBI⟩ := hrel
            rename World => wi
            obtain ⟨cs, h1, h2, h3⟩ := HGI'.out.own
            have x1 : wi.cell? ⟨b, q * 2 + 1, none⟩ = some (.slice sa sn sc) := cell_at h1 (h3 q _ HRW.out)
            obtain ⟨xv, hxv⟩ := arr_at (cr := cs) (i := q * 2) (by omega)
            have x0 : wi.cell? ⟨b, q * 2, none⟩ = some xv := cell_at h1 hxv
            have fx := frz h1 (q * 2)
            clear h1 h2 h3 hxv cs
            by_cases hlt3 : m < sn
            · have hltM : (m : Int) < (sn : Int) := by omega
              rcases HGI'.out.recs q _ HRW.out with e | ⟨g, cr, e1, e2, e3, e4, e5, e6⟩
              · exact absurd (show sn = 0 from e) (by omega)
              · have e1' : sa = some ⟨g, 0, none⟩ := e1
                subst e1'
                have e5' : sn * 5 ≤ cr.size := e5
                obtain ⟨u0, hu0⟩ := arr_at (cr := cr) (i := m * 5) (by omega)
                obtain ⟨u1, hu1⟩ := arr_at (cr := cr) (i := m * 5 + 1) (by omega)
                obtain ⟨u2, hu2⟩ := arr_at (cr := cr) (i := m * 5 + 2) (by omega)
                obtain ⟨u3, hu3⟩ := arr_at (cr := cr) (i := m * 5 + 3) (by omega)
                obtain ⟨u4, hu4⟩ := arr_at (cr := cr) (i := m * 5 + 4) (by omega)
                have y0 : wi.cell? ⟨g, m * 5, none⟩ = some u0 := cell_at e4 hu0
                have y1 : wi.cell? ⟨g, m * 5 + 1, none⟩ = some u1 := cell_at e4 hu1
                have y2 : wi.cell? ⟨g, m * 5 + 2, none⟩ = some u2 := cell_at e4 hu2
                have y3 : wi.cell? ⟨g, m * 5 + 3, none⟩ = some u3 := cell_at e4 hu3
                have y4 : wi.cell? ⟨g, m * 5 + 4, none⟩ = some u4 := cell_at e4 hu4
                have z0 := frz e4 (m * 5)
                have z1 := frz e4 (m * 5 + 1)
                have z2 := frz e4 (m * 5 + 2)
                have z3 := frz e4 (m * 5 + 3)
                have z4 := frz e4 (m * 5 + 4)
                have HE4 : Hid _ := hide e4
                have HE2 : Hid (wr.heap.size ≤ g ∧ g < w1.heap.size) := hide ⟨e2, e3⟩
                have HE6 : (sn : Int) ≤ (sc : Int) := by have e6' : sn ≤ sc := e6; omega
                clear e1 e2 e3 e4 e5 e5' e6 hu0 hu1 hu2 hu3 hu4
                go_wp2_with fail
                refine ⟨⟨m + 1, by go_num, by omega, hide (HGI'.out.setR5 HE4.out _ _ _ _ _ _), hide (HBI.out.setR5 (fun _ => HE2.out) _ _ _ _ _ _)⟩, by simp [numV]; omega⟩
            · have hltM : ¬ (m : Int) < (sn : Int) := by omega
              obtain rfl : m = sn := by omega
              go_wp2_with fail
              refine ⟨⟨q + 1, by go_num, by omega, hide (fun _ => ⟨b, rfl, HGI'.out.setG q _⟩), hide (HBI.out.setCell ⟨b, q * 2, none⟩ (fun _ => ⟨HGI'.out.lo_, HGI'.out.hi_⟩) _)⟩, by simp [numV]; omega⟩
        · have hltJ : ¬ (q : Int) < (ni : Int) := by omega
          obtain rfl : q = ni := by omega
          have HBro : Hid (Below wr.heap.size wr wo) := hide (HBr4.out.trans (HBO.out.below HBr4.out.size (fun z hz => hz.1)))
          have HLPo : Hid _ := hide (HLP.out.on HBro.out)
          have HPRo : Hid (Pr wo (.pointer po) (.pointer qo) d) := hide (by
            have h9 := HPR4.out
            cases d with
            | none => exact h9
            | some d' =>
              have hb9 := HBase.out d' rfl
              refine ⟨h9.1, h9.2.1, h9.2.2.but HBO.out (fun b hm hs => ?_) (fun b cur hge _ hs => ?_)⟩
              · have := (h9.2.2.ty hm).1
                omega
              · omega)
          have HGE : Hid (∀ b, MutO d b → w1.heap.size ≤ b) := hide (fun b hm => by
            have h9 := HPR4.out
            cases d with
            | none => exact hm.elim
            | some d' =>
              have hb9 := HBase.out d' rfl
              have := (h9.2.2.ty hm).1
              omega)
          have HW1 : Hid (w.heap.size ≤ w1.heap.size) := hide (Nat.le_trans HLP.out.below.size HB1.out.size)
          obtain ⟨ov, hov⟩ : ∃ v, (#[Value.pointer po0, Value.pointer po1] : Array Value)[k]? = some v := arr_at (by simpa using hlt)
          obtain ⟨rv, hrv⟩ : ∃ v, (#[Value.pointer qo0, Value.pointer qo1] : Array Value)[k]? = some v := arr_at (by simpa using hlt)
          have s1 : wo.cell? ⟨w.heap.size + 1, k, none⟩ = some ov := cell_at HLPo.out.bo hov
          have f1 := frz HLPo.out.bo k
          have s2 : wo.cell? ⟨w.heap.size + 1 + 1, k, none⟩ = some rv := cell_at HLPo.out.br hrv
          have f2 := frz HLPo.out.br k
          clear hov hrv
          go_wp2_with fail
          have sb1 := but_setC wo ⟨w.heap.size + 1, k, none⟩ (.pointer po)
          have sb2 := but_setC (wo.setCell ⟨w.heap.size + 1, k, none⟩ (.pointer po)) ⟨w.heap.size + 1 + 1, k, none⟩ (.pointer qo)
          have sb : But (fun z => z = w.heap.size + 1 ∨ z = w.heap.size + 1 + 1) wo ((wo.setCell ⟨w.heap.size + 1, k, none⟩ (.pointer po)).setCell ⟨w.heap.size + 1 + 1, k, none⟩ (.pointer qo)) := (sb1.mono (fun z e => .inl e)).trans sb2 (fun z _ e => .inr e)
          have t0 := (sb.block w.heap.size (get_lt' HLPo.out.bb) (by omega)).trans HLPo.out.bb
          have t1 := (sb2.block (w.heap.size + 1) (by have := get_lt' HLPo.out.bo; simpa using this) (by show ¬ _; simp)).trans (set1_heap (i := k) (.pointer po) HLPo.out.bo)
          have t2 := set1_heap (i := k) (.pointer qo) ((sb1.block (w.heap.size + 1 + 1) (get_lt' HLPo.out.br) (by show ¬ _; simp)).trans HLPo.out.br)
          have hnb : ∀ {e : Option PD} {vp vd : Value}, Pr wo vp vd e → ∀ b, MutO e b → ¬ (b = w.heap.size + 1 ∨ b = w.heap.size + 1 + 1) := fun hp b hm hs => by
            rcases hs with e | e
            · rw [e] at hm; exact hp.not_ty HLPo.out.bo (by decide) hm
            · rw [e] at hm; exact hp.not_ty HLPo.out.br (by decide) hm
          have hnr : ∀ b cur, wo.heap[b]? = some (.cells cur 41 (0, 0)) → ¬ (b = w.heap.size + 1 ∨ b = w.heap.size + 1 + 1) := fun b cur hb hs => by
            rcases hs with e | e
            · rw [e, HLPo.out.bo] at hb; cases hb
            · rw [e, HLPo.out.br] at hb; cases hb
          have pN := HPRo.out.but sb (hnb HPRo.out) hnr
          have bl := HLPo.out.below.trans (sb.below HLPo.out.below.size (fun z hz => by omega))
          have hk9 : k = 0 ∨ k = 1 := by omega
          rcases hk9 with rfl | rfl
          · refine ⟨⟨1, po, po1, qo, qo1, d, d1, rfl, by omega, hide ⟨t0, t1, t2, fun _ => ⟨pN, fun b hm => Nat.le_trans HW1.out (HGE.out b hm)⟩, fun e => by omega, fun e => by omega, bl⟩⟩, by simp [numV]⟩
          · refine ⟨⟨2, po0, po, qo0, qo, d0, d, rfl, by omega, hide ⟨t0, t1, t2, fun _ => ⟨(HLPo.out.a (by omega)).1.but sb (hnb (HLPo.out.a (by omega)).1) hnr, (HLPo.out.a (by omega)).2⟩, fun _ => ⟨pN, fun b hm => Nat.le_trans HW1.out (HGE.out b hm)⟩, fun _ b hm hm1 => ?_, bl⟩⟩, by simp [numV]⟩
            have h8 := (HLP.out.a (by omega)).1.lt hm
            have h9 := HGE.out b hm1
            have := HB1.out.size
            omega
    · have hltI : ¬ (k : Int) < 2 := by omega
      obtain rfl : k = 2 := by omega
      go_wp2_with fail
      go_loopw [18] (fun i wt => ∃ (j : Nat) (e0 e1 : Option PD), i = .int .i64 j ∧ j ≤ nt ∧ Hid (LP w wt (.slice a0 n0 c0) (.slice a1 n1 c1) 2 po0 po1 qo0 qo1 e0 e1)) (fun i _ => nt - numV i)
      case atStart => exact ⟨0, d0, d1, rfl, Nat.zero_le _, HLP⟩
      case round =>
        obtain ⟨j, e0, e1, rfl, hj, HT⟩ := hrel
        rename World => wt
        by_cases hlt2 : j < nt
        · have hltJ : (j : Int) < (nt : Int) := by omega
          obtain ⟨tv, htv⟩ : ∃ t, ts[j]? = some t := ⟨_, List.getElem?_eq_getElem (by rw [HTL.out]; exact hlt2)⟩
          obtain ⟨tb, tf, rfl, _, htc⟩ := (HTS.out.below HT.out.below).at (by omega)
          have x0 := htc j tv htv 0 _ rfl
          simp only [layN, Nat.add_zero, Nat.mul_one] at x0
          have WI := within_any tv 2 wt (by omega) (by omega)
          clear htc htv
          go_wp2_with fail
          refine WI.mono ?_
          rintro r wt2 ⟨⟨t, rfl, ht0, ht2⟩, hwx⟩
          rw [hwx]
          clear WI hwx wt2
          obtain ⟨t', rfl⟩ : ∃ t' : Nat, t = (t' : Int) := ⟨t.toNat, by omega⟩
          have ht2' : t' < 2 := by omega
          obtain ⟨po, qo, d, s1, s2, hpr, hreb⟩ := HT.out.sel ht2'
          obtain ⟨N, hl1, hl2⟩ := left_pr hpr
          have HPR : Hid _ := hide hpr
          have HREB : Hid _ := hide hreb
          have HL1 : Hid _ := hide hl1
          have HL2 : Hid _ := hide hl2
          have HS : Hid (∀ X, Below wt.heap.size wt X → X.cell? ⟨w.heap.size + 1, t', none⟩ = some (.pointer po) ∧ X.cell? ⟨w.heap.size + 1 + 1, t', none⟩ = some (.pointer qo)) := hide (fun X hX => ⟨(hX.cell (p := ⟨w.heap.size + 1, t', none⟩) (World.block_lt_of_cell? wt _ s1)).trans s1, (hX.cell (p := ⟨w.heap.size + 1 + 1, t', none⟩) (World.block_lt_of_cell? wt _ s2)).trans s2⟩)
          clear hpr hreb hl1 hl2 x0
          go_wp2_with fail
          refine wp_region_noPanic ?_
          refine wp_region_held_drew (S := fun X => X.cell? ⟨w.heap.size + 1, t', none⟩ = some (.pointer po) ∧ X.cell? ⟨w.heap.size + 1 + 1, t', none⟩ = some (.pointer qo)) (by kernel_rfl) (HS.out _ (Below.refl _ _).drew) (fun hHeld => ?_)
          refine wpAnyH_take (i := 0) (oi := _) (v := ?v0s) rfl (by kernel_rfl) (by kernel_rfl) (by kernel_rfl) (fun _ _ _ h => h) (Or.inl ⟨by rfl, ?y0s⟩) (by assumption) ?r0s
          case y0s => (intro w' hSw; (try dsimp only at hSw); go_simp; try with_reducible rfl)
          refine wpAnyH_take (i := 1) (oi := _) (v := ?v1s) rfl (by kernel_rfl) (by kernel_rfl) (by kernel_rfl) (fun _ _ _ h => h) (Or.inl ⟨by rfl, ?y1s⟩) (by assumption) ?r1s
          case y1s => (intro w' hSw; (try dsimp only at hSw); go_simp; try with_reducible rfl)
          refine wpAnyH_take (i := 2) (oi := _) (v := ?v2s) rfl (by kernel_rfl) (by kernel_rfl) (by kernel_rfl) (fun _ _ _ h => h) (Or.inl ⟨by rfl, ?y2s⟩) (by assumption) ?r2s
          case y2s => (intro w' hSw; (try dsimp only at hSw); go_simp; try with_reducible rfl)
          refine wpAnyH_take (i := 4) (oi := _) (v := ?v4s) rfl (by kernel_rfl) (by kernel_rfl) (by kernel_rfl) (fun _ _ _ h => h) (Or.inl ⟨by rfl, ?y4s⟩) (by assumption) ?r4s
          case y4s => (intro w' hSw; (try dsimp only at hSw); go_simp; try with_reducible rfl)
          refine wpAnyH_take (i := 5) (oi := _) (v := ?v5s) rfl (by kernel_rfl) (by kernel_rfl) (by kernel_rfl) (fun _ _ _ h => h) (Or.inl ⟨by rfl, ?y5s⟩) (by assumption) ?r5s
          case y5s => (intro w' hSw; (try dsimp only at hSw); go_simp; try with_reducible rfl)
          refine wpAnyH_take (i := 6) (oi := _) (v := ?v6s) rfl (by kernel_rfl) (by kernel_rfl) (by kernel_rfl) (fun _ _ _ h => h) (Or.inl ⟨by rfl, ?y6s⟩) (by assumption) ?r6s
          case y6s => (intro w' hSw; (try dsimp only at hSw); go_simp; try with_reducible rfl)
          refine wpAnyH_ready (rs := [3]) (by kernel_rfl) (by simp) ?_
          refine AllReadyH.cons (o := _) rfl (fun KK hKK => ?_) AllReadyH.nil
          go_simp
          refine (HL1.out _ (Below.refl _ _).drew).mono ?_
          rintro e9 X1 ⟨rfl, bX1⟩
          have HX1 : Hid (Below wt.heap.size wt X1) := hide (((Below.refl _ _).drew).trans (bX1.mono (Nat.le_refl _)))
          clear bX1
          refine hKK.out _ _ (HS.out _ HX1.out) (fun hHeld3 => ?_)
          clear hKK KK
          refine wpAnyH_ready (rs := [7]) (by kernel_rfl) (by simp) ?_
          refine AllReadyH.cons (o := _) rfl (fun KK hKK => ?_) AllReadyH.nil
          go_simp
          refine (HL2.out _ HX1.out).mono ?_
          rintro e9 X2 ⟨rfl, bX2⟩
          have HX2 : Hid (Below wt.heap.size wt X2) := hide (HX1.out.trans (bX2.mono HX1.out.size))
          clear bX2
          refine hKK.out _ _ (HS.out _ HX2.out) (fun hHeld7 => ?_)
          clear hKK KK
          refine wpAnyH_take (i := 8) (oi := _) (v := ?v8s) rfl (by kernel_rfl) (by kernel_rfl) (by kernel_rfl) (fun _ _ _ h => h) (Or.inl ⟨by rfl, ?y8s⟩) (by assumption) ?r8s
          case y8s => (intro w' hSw; (try dsimp only at hSw); go_simp; try with_reducible rfl)
          refine wpAnyH_done (by kernel_rfl) ?_ _
          refine NoPanic.normal ?_
          have hNN : (N != N) = false := by simp
          obtain ⟨s1', s2'⟩ := HS.out _ HX2.out
          clear hHeld hHeld3 hHeld7 s1 s2
          have NP := next_pr (HPR.out.on HX2.out)
          go_wp2_with fail
          refine NP.mono ?_
          rintro r X3 ⟨g, kk, o, aa, id, err, d', rfl, bt3, hmu, hnx⟩
          clear NP s1' hNN
          have HBT3 : Hid _ := hide bt3
          have HMU : Hid _ := hide hmu
          obtain ⟨X4, hX4⟩ : ∃ X4, X4 = X3.alloc (.cells #[.int .i64 g, .int .i64 kk, .int .u64 o, .int .u64 aa, .slice none 0 0] 46) := ⟨_, rfl⟩
          have b34 : Below X3.heap.size X3 X4 := by rw [hX4]; exact below_alloc1 _ _
          have r4 : X4.heap[X3.heap.size]? = some (.cells #[.int .i64 g, .int .i64 kk, .int .u64 o, .int .u64 aa, .slice none 0 0] 46 (0, 0)) := by rw [hX4]; exact heap_new _ _
          have s4 : X4.cell? ⟨w.heap.size + 1 + 1, t', none⟩ = some (.pointer qo) := by
            have hbr := (HX2.out.block _ (get_lt' HT.out.br)).trans HT.out.br
            have h3 := (bt3.block _ (get_lt' hbr) ((HPR.out.on HX2.out).not_ty hbr (by decide))).trans hbr
            have h4 := (b34.block _ (get_lt' h3)).trans h3
            have hq := cell_at HT.out.br (i := t') (v := .pointer qo) (by
              have h5 := s2'
              rw [cell_of_row _ _ _ _ _ _ hbr] at h5
              exact h5)
            exact cell_at h4 (by
              have h5 := s2'
              rw [cell_of_row _ _ _ _ _ _ hbr] at h5
              exact h5)
          have NX := hnx X4 b34
          have HX4 : Hid _ := hide hX4
          have HR4 : Hid _ := hide r4
          have HB34 : Hid _ := hide b34
          clear hX4 r4 b34 bt3 hmu hnx s2'
          unfold outV at NX ⊢
          go_upto_region 29 with fail
          rw [← HX4.out]
          go_wp2_with fail
          refine NX.mono ?_
          rintro r X5 ⟨rfl, hp5, bt5⟩
          clear NX s4
          obtain ⟨X6, hX6⟩ : ∃ X6, X6 = X5.alloc (.cells #[.int .i64 g, .int .i64 kk, .int .u64 o, .int .u64 aa, .slice none 0 0] 46) := ⟨_, rfl⟩
          have b56 : Below X5.heap.size X5 X6 := by rw [hX6]; exact below_alloc1 _ _
          have r6 : X6.heap[X5.heap.size]? = some (.cells #[.int .i64 g, .int .i64 kk, .int .u64 o, .int .u64 aa, .slice none 0 0] 46 (0, 0)) := by rw [hX6]; exact heap_new _ _
          have r5 := (bt5.block X3.heap.size (get_lt' HR4.out) (fun hm => by have h8 := (HPR.out.on HX2.out).lt hm; have h9 := HBT3.out.size; omega)).trans HR4.out
          have r5' := (b56.block _ (get_lt' r5)).trans r5
          have x0 : X6.cell? ⟨X3.heap.size, 0, none⟩ = some (.int .i64 g) := cell_at r5' rfl
          have x1 : X6.cell? ⟨X3.heap.size, 1, none⟩ = some (.int .i64 kk) := cell_at r5' rfl
          have x2 : X6.cell? ⟨X3.heap.size, 2, none⟩ = some (.int .u64 o) := cell_at r5' rfl
          have x3 : X6.cell? ⟨X3.heap.size, 3, none⟩ = some (.int .u64 aa) := cell_at r5' rfl
          have x4 : X6.cell? ⟨X3.heap.size, 4, none⟩ = some (.slice none 0 0) := cell_at r5' rfl
          have y0 : X6.cell? ⟨X5.heap.size, 0, none⟩ = some (.int .i64 g) := cell_at r6 rfl
          have y1 : X6.cell? ⟨X5.heap.size, 1, none⟩ = some (.int .i64 kk) := cell_at r6 rfl
          have y2 : X6.cell? ⟨X5.heap.size, 2, none⟩ = some (.int .u64 o) := cell_at r6 rfl
          have y3 : X6.cell? ⟨X5.heap.size, 3, none⟩ = some (.int .u64 aa) := cell_at r6 rfl
          have y4 : X6.cell? ⟨X5.heap.size, 4, none⟩ = some (.slice none 0 0) := cell_at r6 rfl
          have BA := bare_any ⟨g, kk, o, aa, ⟨none, 0, 0⟩⟩ ⟨g, kk, o, aa, ⟨none, 0, 0⟩⟩ X6 ⟨rfl, rfl, rfl, rfl, rfl⟩
          have HBTT : Hid (But (MutO d) wt X6) := hide ((((((But.of_below (S := MutO d) HX2.out).trans HBT3.out (fun _ _ e => e)).trans (But.of_below (S := MutO d) HB34.out) (fun _ _ e => e)).trans bt5 (fun _ _ e => e)).trans (But.of_below (S := MutO d) b56) (fun _ _ e => e)))
          have HP6 : Hid _ := hide (hp5.on b56)
          have HX6 : Hid _ := hide hX6
          have hen : (err != err) = false := by simp
          have hee : (err == err) = true := by simp
          have hin : (id != id) = false := by simp
          have hie : (id == id) = true := by simp
          dsimp only at BA
          clear hX6 b56 r6 r5 r5' hp5 bt5
          go_upto_region 30 with fail
          rw [← HX6.out]
          go_wp2_with fail
          refine BA.mono ?_
          rintro r X7 ⟨rfl, b7⟩
          clear BA x0 x1 x2 x3 x4 y0 y1 y2 y3 y4
          obtain ⟨f0, f1, hlp⟩ := HREB.out X7 d' (HP6.out.on b7) (HBTT.out.trans (But.of_below (S := MutO d) b7) (fun _ _ e => e)) (fun b hm => (HMU.out b hm).imp (fun h => h) (fun h => Nat.le_trans HX2.out.size h))
          have HLPn : Hid _ := hide hlp
          clear hlp b7
          go_wp2_with fail
          exact ⟨⟨j + 1, f0, f1, by go_num, by omega, HLPn⟩, by simp [numV]; omega⟩
        · have hltJ : ¬ (j : Int) < (nt : Int) := by omega
          obtain rfl : j = nt := by omega
          obtain ⟨pa, -⟩ := HT.out.a (by omega)
          obtain ⟨pb, -⟩ := HT.out.b (by omega)
          obtain ⟨N0, l01, l02⟩ := left_pr pa
          obtain ⟨N1, l11, l12⟩ := left_pr pb
          have HL01 : Hid _ := hide l01
          have HL02 : Hid _ := hide l02
          have HL11 : Hid _ := hide l11
          have HL12 : Hid _ := hide l12
          have HS : Hid (∀ X, Below wt.heap.size wt X → X.cell? ⟨w.heap.size + 1, 0, none⟩ = some (.pointer po0) ∧ X.cell? ⟨w.heap.size + 1 + 1, 0, none⟩ = some (.pointer qo0) ∧ X.cell? ⟨w.heap.size + 1, 1, none⟩ = some (.pointer po1) ∧ X.cell? ⟨w.heap.size + 1 + 1, 1, none⟩ = some (.pointer qo1)) := hide (fun X hX => by
            have h1 := (hX.block _ (get_lt' HT.out.bo)).trans HT.out.bo
            have h2 := (hX.block _ (get_lt' HT.out.br)).trans HT.out.br
            exact ⟨cell_at h1 rfl, cell_at h2 rfl, cell_at h1 rfl, cell_at h2 rfl⟩)
          have h00 : (N0 == N0) = true := by simp
          have h11 : (N1 == N1) = true := by simp
          clear pa pb l01 l02 l11 l12
          go_wp2_with fail
          refine wp_region_noPanic ?_
          refine wp_region_held_drew (S := fun X => X.cell? ⟨w.heap.size + 1, 0, none⟩ = some (.pointer po0) ∧ X.cell? ⟨w.heap.size + 1 + 1, 0, none⟩ = some (.pointer qo0) ∧ X.cell? ⟨w.heap.size + 1, 1, none⟩ = some (.pointer po1) ∧ X.cell? ⟨w.heap.size + 1 + 1, 1, none⟩ = some (.pointer qo1)) (by kernel_rfl) (HS.out _ (Below.refl _ _).drew) (fun hHeld => ?_)
          refine wpAnyH_take (i := 0) (oi := _) (v := ?v0e) rfl (by kernel_rfl) (by kernel_rfl) (by kernel_rfl) (fun _ _ _ h => h) (Or.inl ⟨by rfl, ?y0e⟩) (by assumption) ?r0e
          case y0e => (intro w' hSw; (try dsimp only at hSw); go_simp; try with_reducible rfl)
          refine wpAnyH_take (i := 1) (oi := _) (v := ?v1e) rfl (by kernel_rfl) (by kernel_rfl) (by kernel_rfl) (fun _ _ _ h => h) (Or.inl ⟨by rfl, ?y1e⟩) (by assumption) ?r1e
          case y1e => (intro w' hSw; (try dsimp only at hSw); go_simp; try with_reducible rfl)
          refine wpAnyH_take (i := 3) (oi := _) (v := ?v3e) rfl (by kernel_rfl) (by kernel_rfl) (by kernel_rfl) (fun _ _ _ h => h) (Or.inl ⟨by rfl, ?y3e⟩) (by assumption) ?r3e
          case y3e => (intro w' hSw; (try dsimp only at hSw); go_simp; try with_reducible rfl)
          refine wpAnyH_take (i := 4) (oi := _) (v := ?v4e) rfl (by kernel_rfl) (by kernel_rfl) (by kernel_rfl) (fun _ _ _ h => h) (Or.inl ⟨by rfl, ?y4e⟩) (by assumption) ?r4e
          case y4e => (intro w' hSw; (try dsimp only at hSw); go_simp; try with_reducible rfl)
          refine wpAnyH_ready (rs := [2]) (by kernel_rfl) (by simp) ?_
          refine AllReadyH.cons (o := _) rfl (fun KK hKK => ?_) AllReadyH.nil
          go_simp
          refine (HL01.out _ (Below.refl _ _).drew).mono ?_
          rintro e9 Y1 ⟨rfl, bX⟩
          have HY1 : Hid (Below wt.heap.size wt Y1) := hide (((Below.refl _ _).drew).trans (bX.mono (Nat.le_refl _)))
          clear bX
          refine hKK.out _ _ (HS.out _ HY1.out) (fun hHeld2 => ?_)
          clear hKK KK
          refine wpAnyH_ready (rs := [5]) (by kernel_rfl) (by simp) ?_
          refine AllReadyH.cons (o := _) rfl (fun KK hKK => ?_) AllReadyH.nil
          go_simp
          refine (HL02.out _ HY1.out).mono ?_
          rintro e9 Y2 ⟨rfl, bX⟩
          have HY2 : Hid (Below wt.heap.size wt Y2) := hide (HY1.out.trans (bX.mono HY1.out.size))
          clear bX
          refine hKK.out _ _ (HS.out _ HY2.out) (fun hHeld5 => ?_)
          clear hKK KK
          refine wpAnyH_take (i := 6) (oi := _) (v := ?v6e) rfl (by kernel_rfl) (by kernel_rfl) (by kernel_rfl) (fun _ _ _ h => h) (Or.inl ⟨by rfl, ?y6e⟩) (by assumption) ?r6e
          case y6e => (intro w' hSw; (try dsimp only at hSw); go_simp; try with_reducible rfl)
          refine wpAnyH_take (i := 7) (oi := _) (v := ?v7e) rfl (by kernel_rfl) (by kernel_rfl) (by kernel_rfl) (fun _ _ _ h => h) (Or.inl ⟨by rfl, ?y7e⟩) (by assumption) ?r7e
          case y7e => (intro w' hSw; (try dsimp only at hSw); go_simp; try with_reducible rfl)
          refine wpAnyH_take (i := 8) (oi := _) (v := ?v8e) rfl (by kernel_rfl) (by kernel_rfl) (by kernel_rfl) (fun _ _ _ h => h) (Or.inl ⟨by rfl, ?y8e⟩) (by assumption) ?r8e
          case y8e => (intro w' hSw; (try dsimp only at hSw); go_simp; try with_reducible rfl)
          refine wpAnyH_take (i := 9) (oi := _) (v := ?v9e) rfl (by kernel_rfl) (by kernel_rfl) (by kernel_rfl) (fun _ _ _ h => h) (Or.inl ⟨by rfl, ?y9e⟩) (by assumption) ?r9e
          case y9e => (intro w' hSw; (try dsimp only at hSw); go_simp; try with_reducible rfl)
          refine wpAnyH_take (i := 11) (oi := _) (v := ?v11e) rfl (by kernel_rfl) (by kernel_rfl) (by kernel_rfl) (fun _ _ _ h => h) (Or.inl ⟨by rfl, ?y11e⟩) (by assumption) ?r11e
          case y11e => (intro w' hSw; (try dsimp only at hSw); go_simp; try with_reducible rfl)
          refine wpAnyH_take (i := 12) (oi := _) (v := ?v12e) rfl (by kernel_rfl) (by kernel_rfl) (by kernel_rfl) (fun _ _ _ h => h) (Or.inl ⟨by rfl, ?y12e⟩) (by assumption) ?r12e
          case y12e => (intro w' hSw; (try dsimp only at hSw); go_simp; try with_reducible rfl)
          refine wpAnyH_ready (rs := [10]) (by kernel_rfl) (by simp) ?_
          refine AllReadyH.cons (o := _) rfl (fun KK hKK => ?_) AllReadyH.nil
          go_simp
          refine (HL11.out _ HY2.out).mono ?_
          rintro e9 Y3 ⟨rfl, bX⟩
          have HY3 : Hid (Below wt.heap.size wt Y3) := hide (HY2.out.trans (bX.mono HY2.out.size))
          clear bX
          refine hKK.out _ _ (HS.out _ HY3.out) (fun hHeld10 => ?_)
          clear hKK KK
          refine wpAnyH_ready (rs := [13]) (by kernel_rfl) (by simp) ?_
          refine AllReadyH.cons (o := _) rfl (fun KK hKK => ?_) AllReadyH.nil
          go_simp
          refine (HL12.out _ HY3.out).mono ?_
          rintro e9 Y4 ⟨rfl, bX⟩
          have HY4 : Hid (Below wt.heap.size wt Y4) := hide (HY3.out.trans (bX.mono HY3.out.size))
          clear bX
          refine hKK.out _ _ (HS.out _ HY4.out) (fun hHeld13 => ?_)
          clear hKK KK
          refine wpAnyH_take (i := 14) (oi := _) (v := ?v14e) rfl (by kernel_rfl) (by kernel_rfl) (by kernel_rfl) (fun _ _ _ h => h) (Or.inl ⟨by rfl, ?y14e⟩) (by assumption) ?r14e
          case y14e => (intro w' hSw; (try dsimp only at hSw); go_simp; try with_reducible rfl)
          refine wpAnyH_take (i := 15) (oi := _) (v := ?v15e) rfl (by kernel_rfl) (by kernel_rfl) (by kernel_rfl) (fun _ _ _ h => h) (Or.inl ⟨by rfl, ?y15e⟩) (by assumption) ?r15e
          case y15e => (intro w' hSw; (try dsimp only at hSw); go_simp; try with_reducible rfl)
          refine wpAnyH_ready (rs := [16]) (by kernel_rfl) (by simp) ?_
          refine AllReadyH.cons (o := _) rfl (fun KK hKK => ?_) AllReadyH.nil
          go_simp
          refine hKK.out _ _ (HS.out _ HY4.out) (fun hHeld16 => ?_)
          clear hKK KK
          refine wpAnyH_done (by kernel_rfl) ?_ _
          refine NoPanic.normal ?_
          clear hHeld hHeld2 hHeld5 hHeld10 hHeld13 hHeld16
          go_wp2
          go_ret
          exact ⟨rfl, HT.out.below.trans (HY4.out.mono HT.out.below.size)⟩
end Go.Proofs.Ytdlpffbeladgaaa
