/-
  grouped.
-/
import Derived.Test.YtnengkdddckjaaaKmH
namespace Go.Proofs.Ytnengkdddckjaaa
open Go.RowKit Go.Maps
set_option linter.unusedVariables false
/-- What grouped answers. -/
def GdR (P : List (Int × Int) × List Int) (w : World) (e : Ending) (w' : World) : Prop :=
  ∃ fv cv, e = .returned (.tuple #[fv, cv]) ∧ Own sR 33 w' w.heap.size fv P.1 ∧ Own sI 3 w' w.heap.size cv P.2 ∧ (∀ q, fv.ownBlock = some q → cv.ownBlock ≠ some q) ∧ Below w.heap.size w w'
theorem grp_len (es : List E6.Ev) : ∀ (rs : List (Int × Int)) (n : Nat), rs.length = n → (grp es rs).2.length = (grp es rs).1.length ∧ (grp es rs).1.length ≤ n ∧ ∀ x ∈ (grp es rs).2, 0 ≤ x ∧ x ≤ n
  | rs, 0, h => by
    have e := List.length_eq_zero_iff.1 h
    subst e
    exact ⟨rfl, Nat.le_refl _, fun x hx => by cases hx⟩
  | rs, n + 1, h => by
    rcases List.eq_nil_or_concat rs with e | ⟨xs, x, e⟩
    · subst e; simp at h
    · rw [List.concat_eq_append] at e
      subst e
      have hl : xs.length = n := by simpa using h
      obtain ⟨h1, h2, h3⟩ := grp_len es xs n hl
      rw [grp_snoc]
      generalize grp es xs = P at h1 h2 h3 ⊢
      obtain ⟨G, C⟩ := P
      unfold gst
      cases hf : List.findIdx? (fun g => alB es g x) G with
      | some k =>
        refine ⟨by simpa using h1, by show G.length ≤ _; have : G.length ≤ n := h2; omega, fun y hy => ?_⟩
        rcases List.mem_or_eq_of_mem_set hy with hy | hy
        · have := h3 y hy; omega
        · have hkl : k < C.length := by
            rw [List.findIdx?_eq_some_iff_getElem] at hf
            have h9 : C.length = G.length := h1
            obtain ⟨h8, _⟩ := hf
            omega
          have : C.getD k 0 ∈ C := by rw [List.getD_eq_getElem?_getD, List.getElem?_eq_getElem hkl]; exact List.getElem_mem _
          have := h3 _ this
          have hy2 : y = C.getD k 0 + 1 := hy
          omega
      | none =>
        refine ⟨by simpa using h1, by show (G ++ [x]).length ≤ _; have : G.length ≤ n := h2; simp; omega, fun y hy => ?_⟩
        have hy2 : y ∈ C ++ [1] := hy
        rcases List.mem_append.1 hy2 with hy | hy
        · have := h3 y hy; omega
        · have : y = 1 := by simpa using hy
          omega
set_option maxRecDepth 8000 in
set_option maxHeartbeats 8000000 in
theorem grouped_any (es : List E6.Ev) (a : Option Addr) (n c : Nat) (ra : Option Addr) (m rc : Nat) (rs : List (Int × Int)) (M : Nat) (w : World) (h : E6.ERow w a n es) (hr : TRow sR w ra m rs) (hn : n ≤ 1048576) (hm : m ≤ 1048576) (hM : M ≤ 2097152)
    (hok : ∀ f ∈ es, f.ok) (hMs : ∀ f ∈ es, f.ls.length + 1 ≤ M) (hv : ∀ r ∈ rs, (0 ≤ r.1 ∧ r.1 < n) ∧ (0 ≤ r.2 ∧ r.2 < n)) :
    Calls Try.prog 11 #[.slice a n c, .slice ra m rc] w (GdR (grp es rs) w) := by
  have HNs := hide (newShelf_any es a n c w h)
  have HE := hide h
  have HR := hide hr
  have HOk := hide hok
  have HMs := hide hMs
  have HV := hide hv
  have HB := hide (And.intro hn (And.intro hm hM))
  have hrl : rs.length = m := hr.len
  have hmp : ∀ X : World, (Instr.makeMap 45 none).run Try.prog X = .ok (.map (some X.heap.size)) (X.alloc (.map #[] 0)) := fun X => run_makeMap _ X
  clear h hr hok hMs hv hn hm hM
  go_enter Try.func11, Try.ntmps11
  go_wp2_with fail
  refine HNs.out.mono ?_
  rintro x w1 ⟨m1, m2, m3, rfl, hSh⟩
  have HSh := hide hSh
  clear hSh HNs
  obtain ⟨V, hV⟩ : ∃ V : Sw, V = ⟨a, n, c, m1, m2, m3⟩ := ⟨_, rfl⟩
  rw [← hV] at HSh
  have HVv : Hid (V.v = .agg #[.slice a n c, .map (some m1), .map (some m2), .map (some m3)]) := hide (by rw [hV])
  have HVn : Hid (V.n = n) := hide (by rw [hV])
  obtain ⟨gb, hgb⟩ : ∃ gb, gb = w1.heap.size := ⟨_, rfl⟩
  have HG0 : Hid (Gr es w V gb (w1.heap.size + 1) ((w1.alloc (.map #[] 0)).alloc (.cells #[.slice a n c, .map (some m1), .map (some m2), .map (some m3)] 48)) [] [] (0 * (M + M)) [] [] [] (.slice none 0 0) (.slice none 0 0)) := hide (by
    have hs0 := HSh.out.bel.size
    refine ⟨by rw [Nat.zero_mul]; exact HSh.out.below (below_alloc2 _ _ _), by rw [hgb]; exact (NM.made yP w1).below (below_alloc1 _ _), Own.nil _ _ _ _, Own.nil _ _ _ _, ?_, by rw [hgb]; exact hs0, fun e => ?_⟩
    · have := heap_new2 w1 (.map #[] 0) (.cells #[.slice a n c, .map (some m1), .map (some m2), .map (some m3)] 48)
      rw [hV]
      exact this
    · have := HSh.out.bl_lt e
      omega)
  clear hV
  go_wp2_with fail
  rw [← hgb] at HG0 ⊢
  obtain ⟨b8, hb8⟩ : ∃ b8, b8 = gb + 1 := ⟨_, rfl⟩
  rw [← hb8] at HG0 ⊢
  generalize ((w1.alloc (.map #[] 0)).alloc (.cells #[.slice a n c, .map (some m1), .map (some m2), .map (some m3)] 48)) = w2 at HG0 ⊢
  clear hgb hb8 HSh
  go_loopw [6, 7, 18] (fun sf sc iv wr => ∃ (i : Nat) (F : List ByteArray) (S L G : List (Int × Int)) (C : List Int), i ≤ m ∧ iv = .int .i64 i ∧ Hid (grp es (rs.take i) = (G, C)) ∧ Hid (Gr es w V gb b8 wr F S (i * (M + M)) L G C sf sc) ∧ Hid (Lk es F S G L)) (fun _ _ iv _ => m - (intOf iv).toNat)
  case atStart => exact ⟨0, [], [], [], [], [], Nat.zero_le _, rfl, hide rfl, HG0, hide ⟨rfl, fun k r hk => by simp at hk⟩⟩
  case round =>
    clear HG0
    obtain ⟨i, F, S, L, G, C, hi, rfl, HP, HGr, HLk⟩ := hrel
    obtain ⟨h1, h2, h3⟩ := grp_len es (rs.take i) i (by rw [List.length_take]; omega)
    rw [HP.out] at h1 h2 h3
    have HLn := hide h1
    have HGl := hide h2
    have HCb := hide h3
    obtain ⟨af, cf, hsf, _, _⟩ := own_form HGr.out.of
    obtain ⟨ac, cc, hsc, _, _⟩ := own_form HGr.out.oc
    clear h1 h2 h3
    subst hsf
    subst hsc
    by_cases hlt : i < m
    · have hiI : (i : Int) < (m : Int) := by omega
      have hi0 : (0 : Int) ≤ (i : Int) := by omega
      obtain ⟨x, hx⟩ : ∃ x, rs[i]? = some x := ⟨_, List.getElem?_eq_getElem (by omega)⟩
      obtain ⟨rb, off, hra, _, hc⟩ := (HR.out.below HGr.out.sh.bel).at (by omega)
      have d0 : wr.cell? ⟨rb, off + i * 2, none⟩ = some (.int .i64 x.1) := by have := hc i x hx 0 _ rfl; exact this
      have d1 : wr.cell? ⟨rb, off + i * 2 + 1, none⟩ = some (.int .i64 x.2) := by have := hc i x hx 1 _ rfl; exact this
      obtain ⟨⟨v1, v2⟩, v3, v4⟩ := HV.out x (List.mem_of_getElem? hx)
      obtain ⟨p, hp⟩ : ∃ p : Nat, x.1 = (p : Int) := ⟨x.1.toNat, by omega⟩
      obtain ⟨q, hq⟩ : ∃ q : Nat, x.2 = (q : Int) := ⟨x.2.toNat, by omega⟩
      have hxe : x = ((p : Int), (q : Int)) := Prod.ext hp hq
      subst hxe
      have hel := HE.out.len
      obtain ⟨d, hd⟩ : ∃ d, es[p]? = some d := ⟨_, List.getElem?_eq_getElem (by omega)⟩
      obtain ⟨e, he⟩ : ∃ e, es[q]? = some e := ⟨_, List.getElem?_eq_getElem (by omega)⟩
      have hst1 : stk es (p : Int) = d.ls := by unfold stk; rw [Int.toNat_natCast, hd]
      have hst2 : stk es (q : Int) = e.ls := by unfold stk; rw [Int.toNat_natCast, he]
      have HSt := hide (And.intro hst1 hst2)
      have HX : Hid (grp es (rs.take (i + 1)) = gst es (G, C) ((p : Int), (q : Int))) := hide (by
        obtain ⟨h1, h2⟩ := List.getElem?_eq_some_iff.1 hx
        rw [← List.take_append_getElem h1, h2, grp_snoc, HP.out])
      obtain ⟨W, hW⟩ : ∃ W, W = wr.alloc (.cells #[.int .i64 (p : Int), .int .i64 (q : Int)] 33) := ⟨_, rfl⟩
      have hbW : Below wr.heap.size wr W := by rw [hW]; exact below_alloc1 _ _
      have hGW := HGr.out.below hbW
      have c8 : ∀ k v, (#[Value.slice a n c, .map (some m1), .map (some m2), .map (some m3)] : Array Value)[k]? = some v → W.cell? ⟨b8, k, none⟩ = some v := fun k v hk => by
        have h8 := hGW.b8h
        have e8 : (#[.slice V.a V.n V.c, .map (some V.m1), .map (some V.m2), .map (some V.m3)] : Array Value) = #[.slice a n c, .map (some m1), .map (some m2), .map (some m3)] := by
          have := HVv.out
          injection this
        rw [e8] at h8
        exact cell_at h8 hk
      have c80 := c8 0 _ rfl
      have c81 := c8 1 _ rfl
      have c82 := c8 2 _ rfl
      have c83 := c8 3 _ rfl
      have cr : W.heap[wr.heap.size]? = some (.cells #[.int .i64 (p : Int), .int .i64 (q : Int)] 33 (0, 0)) := by rw [hW]; exact heap_new _ _
      have cr0 := cell_at cr (i := 0) rfl
      have cr1 := cell_at cr (i := 1) rfl
      have HBK : Hid (i * (M + M) + M + M ≤ 70368744177664) := hide (by
        have h1 := HB.out
        have h2 : i * (M + M) ≤ 1048576 * 4194304 := Nat.mul_le_mul (by omega) (by omega)
        omega)
      have HC1 : Hid (Calls Try.prog 17 #[.agg #[.slice a n c, .map (some m1), .map (some m2), .map (some m3)], .agg #[.int .i64 (p : Int), .int .i64 (q : Int)]] W (PoR es w V F S (i * (M + M) + M + M) d.ls e.ls W)) := hide (by
        have h9 := pairOf_any es w V F S (i * (M + M)) M p q d e W hGW.sh (by rw [HVn.out]; have := HB.out; omega) hd he HOk.out HMs.out HBK.out
        rw [HVv.out] at h9
        exact h9)
      rw [hW] at c80 c81 c82 c83 cr0 cr1
      have HGW := hide hGW
      have HW := hide hW
      have HCr := hide cr
      have HRx := hide hx
      clear hst1 hst2 hd he c8 cr hW hbW hGW hx hc v1 v2 v3 v4 hel hp hq
      subst hra
      go_wp2_with fail
      rw [← HW.out]
      refine HC1.out.mono ?_
      rintro e9 X1 ⟨F1, S1, s, t, rfl, hS1, hF1, hG1, hN1, hN2, hB1⟩
      rw [← HSt.out.1] at hN1
      rw [← HSt.out.2] at hN2
      have hGr1 := HGW.out.po hS1 hB1
      have hLk1 := HLk.out.mono hF1 hG1
      have hb1 := hN1.bound
      have hb2 := hN2.bound
      have hlS := hS1.ls
      have HC2 := hide (numP_any gb L (mm s t) X1 hGr1.ng (by have := HBK.out; exact ⟨⟨by show _ ≤ min s t; omega, by show min s t ≤ _; omega⟩, ⟨by show _ ≤ max s t; omega, by show max s t ≤ _; omega⟩⟩) (by have := HLk.out.1; have := HGl.out; have := HB.out; omega))
      have HCr1 : Hid (X1.heap[wr.heap.size]? = some (.cells #[.int .i64 (p : Int), .int .i64 (q : Int)] 33 (0, 0))) := hide ((hB1.block _ (Array.getElem?_eq_some_iff.1 HCr.out).1 (fun h9 => by have := HGr.out.sh.bl_lt h9; omega)).trans HCr.out)
      have HG1 := hide hGr1
      have HL1 := hide hLk1
      have HNn := hide (And.intro hN1 hN2)
      clear hS1 hF1 hG1 hN1 hN2 hB1 hGr1 hLk1 hb1 hb2 hlS HC1 HGW c80 c81 c82 c83 cr0 cr1 d0 d1 HW
      go_wp2_with fail
      refine HC2.out.mono ?_
      rintro e9 X2 ⟨rfl, hM2, hB2⟩
      have HG2 := hide (HG1.out.nu hM2 hB2)
      have HCr2 : Hid (X2.heap[wr.heap.size]? = some (.cells #[.int .i64 (p : Int), .int .i64 (q : Int)] 33 (0, 0))) := hide ((hB2.block _ (Array.getElem?_eq_some_iff.1 HCr1.out).1 (fun h9 => by have := HGr.out.ng.km.lt; omega)).trans HCr1.out)
      have HFi := hide (HL1.out.find HG1.out.ng.nd (r := ((p : Int), (q : Int))) HNn.out.1 HNn.out.2)
      clear hM2 hB2 HC2
      by_cases hmem : mm s t ∈ L
      · obtain ⟨k, hk⟩ : ∃ k, ixo L (mm s t) = k := ⟨_, rfl⟩
        have hkl : k < L.length := by rw [← hk]; exact ixo_lt hmem
        have hkC : k < C.length := by have := HLn.out; have := HLk.out.1; omega
        have hkG : k < G.length := by have := HLn.out; omega
        obtain ⟨N, hN⟩ : ∃ N, nid L (mm s t) = N := ⟨_, rfl⟩
        have hNk : N = (k : Int) + 1 := by rw [← hN, nid_ixo hmem, hk]
        have HNx : Hid (grp es (rs.take (i + 1)) = (G, C.set k (C.getD k 0 + 1))) := hide (by
          rw [HX.out]
          unfold gst
          rw [HFi.out.1 hmem, hk])
        have HLx : Hid (addN L (mm s t) = L) := hide (by unfold addN; rw [if_pos hmem])
        obtain ⟨g, c9, hsl, hg1, hg2, _⟩ := HG2.out.oc.frm (by omega)
        simp only [Value.slice.injEq] at hsl
        obtain ⟨hac, _, hcc⟩ := hsl
        subst hac
        subst hcc
        have hy0 : C[k]? = some (C.getD k 0) := by rw [List.getD_eq_getElem?_getD, List.getElem?_eq_getElem hkC]; rfl
        have hyb := HCb.out _ (List.mem_of_getElem? hy0)
        obtain ⟨y, hy⟩ : ∃ y, C.getD k 0 = y := ⟨_, rfl⟩
        rw [hy] at hy0 hyb HNx
        have hyB : y ≤ 1048576 := by have := HB.out; omega
        have hy1 : 0 ≤ y := hyb.1
        have cy := HG2.out.oc.cell hy0 0 rfl
        rw [Nat.add_zero, show k * sI.z = k from Nat.mul_one k] at cy
        have fy := HG2.out.oc.frozen k
        have hset := HG2.out.oc.setU (t := 0) (u := .int .i64 (y + 1)) (a' := y + 1) rfl hy0 (by decide) rfl
        rw [Nat.add_zero, show k * sI.z = k from Nat.mul_one k] at hset
        have hof := HG2.out.of.but (S := fun q => q = g) (w' := X2.setCell ⟨g, k, none⟩ (.int .i64 (y + 1))) ((But.refl (fun q => q = g) X2).setCell ⟨g, k, none⟩ (fun _ => rfl) _) (fun q h1 h2 => HG2.out.apart h1 (by rw [h2]; rfl))
        have HG3 := hide (HG2.out.rows (B := fun q => q = g) ((But.refl (fun q => q = g) X2).setCell ⟨g, k, none⟩ (fun _ => rfl) (.int .i64 (y + 1))) (fun q _ h => .inr (by rw [h]; rfl)) hof hset)
        have hk0 : (0 : Int) ≤ (k : Int) := by omega
        have hkI : (k : Int) < (C.length : Int) := by omega
        have hNG : ¬ (G.length : Int) < N := by omega
        have hNk2 : N - 1 = (k : Int) := by omega
        have hNb : N ≤ 1048577 := by have := HB.out; have := HGl.out; omega
        have hNa : 1 ≤ N := by omega
        rw [hN]
        have HLt := hide hlt
        have hmB : (m : Int) ≤ 1048576 := by have := HB.out; omega
        clear hN hNk hk hkl hmem hof hset hy hyb hy0 HFi hg1 hg2 hkG
        go_wp2
        rw [HLx.out] at HG3
        have hlt := HLt.out
        exact ⟨⟨i + 1, F1, S1, L, G, _, by omega, by go_num, HNx, hide (by have h9 := HG3.out; rw [show (i + 1) * (M + M) = i * (M + M) + M + M by rw [Nat.add_mul, Nat.one_mul, Nat.add_assoc]]; simpa using h9), HL1⟩, by simp [intOf]; omega⟩
      · have hLG := HLk.out.1
        obtain ⟨N, hN⟩ : ∃ N, nid L (mm s t) = N := ⟨_, rfl⟩
        have hNk : N = (L.length : Int) + 1 := by rw [← hN, nid_new hmem]
        have HNx : Hid (grp es (rs.take (i + 1)) = (G ++ [((p : Int), (q : Int))], C ++ [1])) := hide (by
          rw [HX.out]
          unfold gst
          rw [HFi.out.2 hmem])
        have HLx : Hid (addN L (mm s t) = L ++ [mm s t]) := hide (by unfold addN; rw [if_neg hmem])
        have hNG : (G.length : Int) < N := by omega
        have hNk2 : N - 1 = (C.length : Int) := by have := HLn.out; omega
        have hNb : N ≤ 1048577 := by have := HB.out; have := HGl.out; omega
        have hNa : 1 ≤ N := by omega
        rw [hN]
        have HLt := hide hlt
        have hmB : (m : Int) ≤ 1048576 := by have := HB.out; omega
        have cr0 := cell_at HCr2.out (i := 0) rfl
        have cr1 := cell_at HCr2.out (i := 1) rfl
        have HGb : Hid (G.length + 1 ≤ 1048577 ∧ C.length + 1 ≤ 1048577) := hide (by have := HB.out; have := HGl.out; have := HLn.out; omega)
        have HSz : Hid (w.heap.size ≤ X2.heap.size) := hide HG2.out.sh.bel.size
        have HOf := hide HG2.out.of
        obtain ⟨i0, hi, hz0, hz1, hz2⟩ := info_parts infoR
        obtain ⟨i1, gi, gz0, gz1, gz2⟩ := info_parts infoI
        clear hN hNk hmem HFi hLG
        have HOc := hide HG2.out.oc
        have HAp : Hid (∀ q, (Value.slice af G.length cf).ownBlock = some q → (Value.slice ac C.length cc).ownBlock ≠ some q) := hide (fun q h => HG2.out.apart h)
        go_wp2_with (at_builtin; first | (refine append_lay sR _ 23 33 i0 _ 16 Try.underlying23 hi hz0 hz1 hz2 rfl rfl (.tmp 31) (.tmp 33) rfl w.heap.size _ G rfl (HOf.out.below (below_alloc1 _ _)) _ _ _ [((p : Int), (q : Int))] rfl (TRow.one (heap_new _ _)) (fun e => by cases e) (by have := HGb.out; unfold maxLen; simp; omega) (by have := HGb.out; simp; omega) (by have := HSz.out; simp; omega) ?_; intro v4 w4 hown4 hgr4 hl4; have HOc4 := hide ((HOc.out.below (below_alloc1 X2 _)).but (But.of_grown (S := fun k => (Value.slice af G.length cf).ownBlock = some k) hgr4 (fun k e => e)) (fun g h1 h2 => HAp.out g h2 h1)); have HSz4 : Hid (w.heap.size ≤ w4.heap.size) := hide (Nat.le_trans HSz.out (Nat.le_trans (by simp) hgr4.size)); have HW4 := hide hown4; have HR4 := hide hgr4; clear hown4 hgr4 hl4) | (refine append_lay sI _ 25 3 i1 _ 8 Try.underlying25 gi gz0 gz1 gz2 rfl rfl (.tmp 35) (.tmp 36) rfl w.heap.size _ C rfl (HOc4.out.below (below_alloc1 _ _)) _ _ _ [0] rfl (TRow.one (heap_new _ _)) (fun e => by cases e) (by have := HGb.out; unfold maxLen; simp; omega) (by have := HGb.out; simp; omega) (by have := HSz4.out; simp; omega) ?_; intro v6 w6 hown6 hgr6 hl6; obtain ⟨g6, c6, hv6, _, _, _⟩ := hown6.frm (by simp); rw [show (C ++ [(0 : Int)]).length = C.length + 1 by simp] at hv6; subst hv6; have HL6 := hide hl6; have HW6 := hide hown6; have HR6 := hide hgr6; have cy : w6.cell? ⟨g6, C.length, none⟩ = some (.int .i64 0) := (by have h9 := hown6.cell (i := C.length) (a := 0) (by simp) 0 rfl; rw [Nat.add_zero, show C.length * sI.z = C.length from Nat.mul_one _] at h9; exact h9); have fy := hown6.frozen C.length; have hkI : (C.length : Int) < (C.length : Int) + 1 := (by omega); clear hown6 hgr6 hl6))
        have hset := HW6.out.setU (i := C.length) (t := 0) (a := 0) (u := .int .i64 1) (a' := 1) (by simp) (by simp) (by decide) rfl
        rw [Nat.add_zero, show C.length * sI.z = C.length from Nat.mul_one _, List.set_append_right _ _ (Nat.le_refl _), Nat.sub_self] at hset
        obtain ⟨B, hBd⟩ : ∃ B : Nat → Prop, B = fun q => (Value.slice af G.length cf).ownBlock = some q ∨ (Value.slice ac C.length cc).ownBlock = some q ∨ X2.heap.size ≤ q := ⟨_, rfl⟩
        have hB4 : But B X2 w4 := (But.of_below (below_alloc1 X2 _)).grown HR4.out (fun k _ e => by rw [hBd]; exact .inl e)
        have hB6 : But B X2 w6 := (hB4.on (below_alloc1 w4 _)).grown HR6.out (fun k _ e => by rw [hBd]; exact .inr (.inl e))
        have hg6 : g6 < X2.heap.size → B g6 := fun hlt6 => by
          rw [hBd]
          rcases HL6.out with e | e
          · have h9 : (Value.slice ac C.length cc).ownBlock = (Value.slice (some ⟨g6, 0, none⟩) (C.length + 1) c6).ownBlock := e.symm
            exact .inr (.inl h9)
          · have e2 : g6 = (w4.alloc (.cells #[.int .i64 0] 3)).heap.size := Option.some.inj e
            have := hB4.size
            simp at e2
            omega
        have hB7 : But B X2 (w6.setCell ⟨g6, C.length, none⟩ (.int .i64 1)) := hB6.setCell ⟨g6, C.length, none⟩ hg6 _
        have hof6 : Own sR 33 w6 w.heap.size v4 (G ++ [((p : Int), (q : Int))]) := (HW4.out.below (below_alloc1 w4 _)).but (But.of_grown (S := fun k => (Value.slice ac C.length cc).ownBlock = some k) HR6.out (fun k e => e)) (fun g h1 h2 => by
          obtain ⟨cur, e⟩ := own_ty HW4.out h1
          exact own_ne_cells HOc4.out e (by decide) h2)
        have hof7 : Own sR 33 (w6.setCell ⟨g6, C.length, none⟩ (.int .i64 1)) w.heap.size v4 (G ++ [((p : Int), (q : Int))]) := hof6.but ((But.refl (fun k => k = g6) w6).setCell ⟨g6, C.length, none⟩ (fun _ => rfl) _) (fun g h1 h2 => by
          obtain ⟨cur, e⟩ := own_ty hof6 h1
          exact own_ne_cells HW6.out e (by decide) (by rw [h2]; rfl))
        have HG3 := HG2.out.rows hB7 (fun q9 hq9 h9 => by
          rw [hBd] at h9
          rcases h9 with h9 | h9 | h9
          · exact .inl h9
          · exact .inr h9
          · omega) hof7 hset
        rw [HLx.out] at HG3
        have hlt := HLt.out
        exact ⟨⟨i + 1, F1, S1, _, _, _, by omega, by go_num, HNx, hide (by rw [show (i + 1) * (M + M) = i * (M + M) + M + M by rw [Nat.add_mul, Nat.one_mul, Nat.add_assoc]]; exact HG3), hide (HL1.out.push (r := ((p : Int), (q : Int))) HNn.out.1 HNn.out.2)⟩, by simp [intOf]; omega⟩
    · have hi9 : i = m := by omega
      have hiI : ¬ (i : Int) < (m : Int) := by omega
      have HF : Hid (GdR (grp es rs) w (.returned (.tuple #[.slice af G.length cf, .slice ac C.length cc])) wr) := hide (by
        have h1 := HP.out
        rw [hi9, ← hrl, List.take_length] at h1
        rw [h1]
        exact ⟨_, _, rfl, HGr.out.of, HGr.out.oc, fun q h => HGr.out.apart h, HGr.out.sh.bel⟩)
      clear hlt hi
      go_wp2
      go_ret2
      exact HF.out
end Go.Proofs.Ytnengkdddckjaaa
