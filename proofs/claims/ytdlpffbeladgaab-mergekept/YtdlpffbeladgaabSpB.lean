/-
  Split: the rows of a trace.
-/
import Derived.Test.YtdlpffbeladgaabMpA
import Derived.Test.YtdlpffbeladgaabSpA
namespace Go.Proofs.Ytdlpffbeladgaab
open Go.RowKit Go.Maps
theorem step_layW {α : Type} (y : Lay α) (w : World) {oo : Oper} {aa : Act} {Kc : Act → World → Prop} {Q : Exit → Act → World → Prop} (t e : TypeId) (i0 : TypeInfo) (z : Value) (bytes : Nat)
    (hu : Try.prog.underlying t = some (.slice e)) (hi : Try.prog.info? e = some i0) (hz0 : i0.zero = some z) (hz1 : i0.size = y.z) (hz2 : i0.bytes = bytes) (hzs : z.cells.size = y.z)
    (s x : Operand) (ho : oo.op = .call { callee := .builtin .append, args := #[s, x], argTypes := #[t, t] }) (base : Nat)
    (v : Value) (L : List α) (hs : aa.eval s = v) (hown : Own y e w base v L)
    (ad : Addr) (m c : Nat) (M : List α) (hx : aa.eval x = .slice (some ad) m c) (hr : TRow y w (some ad) m M)
    (hm : L.length + m ≤ maxLen) (hb : (L.length + m) * bytes ≤ 140737488355328) (hbase : base ≤ w.heap.size)
    (h : ∀ v' w', Own y e w' base v' (L ++ M) → w.grownBy w' v.ownBlock → (v'.ownBlock = v.ownBlock ∨ v'.ownBlock = some w.heap.size) → Kc (aa.put oo.dst v') w') : oo.wp Try.prog aa w Kc Q := by
  obtain ⟨v', w', hr', h2, h3, _, h5⟩ := run_append_own_at (P := Try.prog) w base t oo.type e i0 z y.z bytes hu hi hz0 hz1 hz2 hzs y.pos v L.length (y.fl L) hown ad m c (y.fl M) (by rw [y.fl_len, hr.len]) hr.news (y.fl_cell M) hm hb hbase
  unfold Oper.wp execOp
  simp only [ho, resolve, invoke, builtin, Sem.run_bind, Sem.run_pure, Result.andThen_ok, List.map_toArray, List.map_cons, List.map_nil, hs, hx, hr']
  refine h v' w' ?_ h3 h5
  unfold Own
  rw [List.length_append, hr.len, y.fl_app]
  exact h2
theorem step_layW2 {α : Type} (y : Lay α) (w : World) {ops : Array Oper} {oo : Oper} {aa : Act} {Kc : Act → World → Prop} {Q : Exit → Act → World → Prop} {E0 : Prop} (t e : TypeId) (i0 : TypeInfo) (z : Value) (bytes : Nat)
    (hu : Try.prog.underlying t = some (.slice e)) (hi : Try.prog.info? e = some i0) (hz0 : i0.zero = some z) (hz1 : i0.size = y.z) (hz2 : i0.bytes = bytes) (hzs : z.cells.size = y.z)
    (hw : Region.wanted oo (yielded ops aa.tmps) = true)
    (s x : Operand) (ho : oo.op = .call { callee := .builtin .append, args := #[s, x], argTypes := #[t, t] }) (base : Nat)
    (v : Value) (L : List α) (hs : aa.eval s = v) (hown : Own y e w base v L)
    (ad : Addr) (m c : Nat) (M : List α) (hx : aa.eval x = .slice (some ad) m c) (hr : TRow y w (some ad) m M)
    (hm : L.length + m ≤ maxLen) (hb : (L.length + m) * bytes ≤ 140737488355328) (hbase : base ≤ w.heap.size)
    (h : ∀ v' w', Own y e w' base v' (L ++ M) → w.grownBy w' v.ownBlock → (v'.ownBlock = v.ownBlock ∨ v'.ownBlock = some w.heap.size) → Kc (aa.put oo.dst v') w') :
    if Region.wanted oo (yielded ops aa.tmps) = true then Oper.wp Try.prog oo aa w Kc Q else E0 := by
  rw [if_pos hw]
  exact step_layW y w t e i0 z bytes hu hi hz0 hz1 hz2 hzs s x ho base v L hs hown ad m c M hx hr hm hb hbase h
/-- A store into the map, in a region that draws its order. -/
theorem step_map (w : World) {ops : Array Oper} {oo : Oper} {aa : Act} {Kc : Act → World → Prop} {Q : Exit → Act → World → Prop} {E0 : Prop} (hw : Region.wanted oo (yielded ops aa.tmps) = true)
    (m x v : Operand) (hop : oo.op = Op.mapUpdate 51 m x v) (mb n : Nat) (D : DataW Value) (hm : aa.eval m = .map (some mb)) (hown : w.ownsMap Try.prog 3 heldR mb n D) (hn : n < maxLen)
    (g : Int) (val : Value) (hx : aa.eval x = .int .i64 g) (hv : aa.eval v = val) (h0 : 0 ≤ g) (h1 : g < 65536)
    (hK : ∀ w', w'.ownsMap Try.prog 3 heldR mb (n + 1) (D.put (.int .i64 g) (.held val)) → w.grownBy w' (some mb) → Kc (aa.put oo.dst undef) w') :
    if Region.wanted oo (yielded ops aa.tmps) = true then Oper.wp Try.prog oo aa w Kc Q else E0 := by
  rw [if_pos hw]
  obtain ⟨w', hrun, r1, r2⟩ := hown.update law3 Try.underlying51 hn (val := val) (key3 h0 h1) rfl
  unfold Oper.wp
  simp [execOp, hop, hm, hx, hv, hrun, Result.andThen]
  exact hK w' r1 r2
def slOf : Value → Sl
  | .slice a n c => ⟨a, n, c⟩
  | _ => ⟨none, 0, 0⟩
/-- The rows' entries. -/
def rwsOf (K : List Int) (vg : Int → Value) : List Rw := K.map fun g => ⟨g, slOf (vg g)⟩
theorem zip_take {α β : Type} (A : List α) (B : List β) (k : Nat) {a : α} {b : β} (ha : A[k]? = some a) (hb : B[k]? = some b) : (A.zip B).take (k + 1) = (A.zip B).take k ++ [(a, b)] := by
  have h1 := get_lt ha
  have h2 := get_lt hb
  have hl : k < (A.zip B).length := by rw [List.length_zip]; omega
  rw [List.take_succ_eq_append_getElem hl, List.getElem_zip]
  rw [List.getElem?_eq_getElem h1] at ha
  rw [List.getElem?_eq_getElem h2] at hb
  rw [Option.some.inj ha, Option.some.inj hb]
set_option maxRecDepth 8000 in
set_option maxHeartbeats 6400000 in
theorem split_ok (w : World) (a b : Option Addr) (n c d : Nat) (es : List Vt) (is : List Int) (hr : TRow layV w a n es) (hi : TRow layN w b n is) (hn : n ≤ 1048576) (hg : ∀ e ∈ es, 0 ≤ e.g ∧ e.g < 65536) :
    Calls Try.prog 6 #[.slice a n c, .slice b n d] w fun r w' => ∃ v rws K, r = .returned (.tuple #[v, .int .i64 0]) ∧ Gors K (es.zip is) ∧ Rowz w' w.heap.size v rws (rowsOf K (es.zip is)) ∧ Below w.heap.size w w' := by
  obtain ⟨i0, hi0, hz0, hz1, hz2⟩ := info_parts Try.infoR
  obtain ⟨i1, hi1, hy0, hy1, hy2⟩ := info_parts Try.infoW
  have hnI : (n : Int) ≤ 1048576 := by omega
  have HR : Hid _ := hide hr
  have HI : Hid _ := hide hi
  have HL : Hid _ := hide hr.len
  have HLi : Hid _ := hide hi.len
  have HG : Hid _ := hide hg
  have TF := tf_any w a b n c n d es hr (by omega) (by omega)
  have h0 : tfault es n = 0 := by
    unfold tfault
    rw [hr.len, if_neg (by omega), if_neg (by simp), if_neg]
    intro h
    obtain ⟨e, he, h9⟩ := List.any_eq_true.1 h
    have := hg e he
    simp [noG] at h9
    omega
  rw [h0] at TF
  have hmm := @run_makeMap Try.prog
  clear hr hi hg h0
  go_enter Try.func6, Try.ntmps6
  go_wp2_with fail
  refine TF.mono ?_
  rintro r w1 ⟨rfl, b1⟩
  clear TF
  have HB1 : Hid _ := hide b1
  have G2 : Hid (Gm (w1.alloc (.map #[] 0)) w.heap.size w1.heap.size 0 (.map []) (fun _ => .slice none 0 0) []) := hide (Gm.made w1 w.heap.size)
  have B2 : Hid (Below w.heap.size w (w1.alloc (.map #[] 0))) := hide (b1.alloc b1.size _)
  have hs1 := b1.size
  clear b1
  go_wp2_with fail
  go_loopw [22] (fun i wr => ∃ (k : Nat) (D : DataW Value) (vg : Int → Value), i = .int .i64 k ∧ k ≤ n ∧ Hid (Gm wr w.heap.size w1.heap.size k D vg ((es.zip is).take k)) ∧ Hid (Below w.heap.size w wr)) (fun i _ => n - numV i)
  case atStart => exact ⟨0, _, _, rfl, Nat.zero_le _, G2, B2⟩
  case round =>
    obtain ⟨k, D, vg, rfl, hk, HGm, HB⟩ := hrel
    by_cases hlt : k < n
    · have hltI : (k : Int) < (n : Int) := by omega
      obtain ⟨e, he⟩ : ∃ e, es[k]? = some e := ⟨_, List.getElem?_eq_getElem (by rw [HL.out]; exact hlt)⟩
      obtain ⟨id, hid⟩ : ∃ id, is[k]? = some id := ⟨_, List.getElem?_eq_getElem (by rw [HLi.out]; exact hlt)⟩
      obtain ⟨lb, lo, rfl, _, hc⟩ := (HR.out.below HB.out).at (by omega)
      obtain ⟨ib, io, rfl, hib, hci⟩ := HI.out.at (by omega)
      have x0 := hc k e he 0 _ rfl
      have x1 := hc k e he 1 _ rfl
      have x2 := hc k e he 2 _ rfl
      have x3 := hc k e he 3 _ rfl
      have x4 := hc k e he 4 _ rfl
      have y0w := hci k id hid 0 _ rfl
      simp only [layV, layN, Nat.add_zero, Nat.mul_one] at x0 x1 x2 x3 x4 y0w
      have y0 := (HB.out.cell (p := ⟨ib, io + k, none⟩) hib).trans y0w
      have hibr : ib < wr.heap.size := Nat.lt_of_lt_of_le hib HB.out.size
      have HT : Hid ((es.zip is).take (k + 1) = (es.zip is).take k ++ [(e, id)]) := hide (zip_take es is k he hid)
      have HTl : Hid (((es.zip is).take k).length = k) := hide (by rw [List.length_take, List.length_zip, HL.out, HLi.out]; omega)
      have hge := HG.out e (List.mem_of_getElem? he)
      clear hc hci he hid
      obtain ⟨eg, ek, eo, ea, es0⟩ := e
      obtain ⟨sa, sn, sc⟩ := es0
      dsimp only at x0 x1 x2 x3 x4 hge
      obtain ⟨hg0, hg1⟩ := hge
      obtain ⟨w3, hw3⟩ : ∃ w3, w3 = wr.alloc (.cells #[.int .i64 eg, .int .i64 ek, .int .u64 eo, .int .u64 ea, .slice sa sn sc] 30) := ⟨_, rfl⟩
      have b3 : Below wr.heap.size wr w3 := by rw [hw3]; exact below_alloc1 _ _
      have s3 : wr.heap.size < w3.heap.size := by rw [hw3]; simp
      have r3 : w3.heap[wr.heap.size]? = some (.cells #[.int .i64 eg, .int .i64 ek, .int .u64 eo, .int .u64 ea, .slice sa sn sc] 30 (0, 0)) := by rw [hw3]; exact heap_new _ _
      have HGm3 : Hid _ := hide (HGm.out.below b3)
      obtain ⟨sv, hsv⟩ : ∃ sv, sv = vg eg := ⟨_, rfl⟩
      have hvl : ∀ q, sv.ownBlock = some q → w.heap.size ≤ q ∧ q < wr.heap.size := fun q hq => by rw [hsv] at hq; exact (HGm.out.own eg).lt q hq
      have HS : Hid (∀ X, But (fun q => sv.ownBlock = some q ∨ q = w1.heap.size) w3 X → X.cell? ⟨wr.heap.size, 0, none⟩ = some (.int .i64 eg) ∧ X.cell? ⟨wr.heap.size, 1, none⟩ = some (.int .i64 ek) ∧ X.cell? ⟨wr.heap.size, 2, none⟩ = some (.int .u64 eo) ∧ X.cell? ⟨wr.heap.size, 3, none⟩ = some (.int .u64 ea) ∧ X.cell? ⟨ib, io + k, none⟩ = some (.int .i64 id)) := hide (fun X hX => by
        have hml := HGm.out.map.lt
        have hrX := (hX.block wr.heap.size s3 (fun e9 => e9.elim (fun e8 => by have := (hvl _ e8).2; omega) (fun e8 => by omega))).trans r3
        refine ⟨cell_at hrX rfl, cell_at hrX rfl, cell_at hrX rfl, cell_at hrX rfl, ?_⟩
        rw [World.cell?_of_block (hX.block ib (by omega) (fun e9 => e9.elim (fun e8 => by have := (hvl _ e8).1; omega) (fun e8 => by have e7 : ib = w1.heap.size := e8; omega)))]
        exact (b3.cell (p := ⟨ib, io + k, none⟩) hibr).trans y0)
      have HLK : Hid (∀ X, Below w3.heap.size w3 X → (Instr.lookup 51 (.map (some w1.heap.size)) (.int .i64 eg) false).run Try.prog X = .ok sv X) := hide (fun X hX => by
        rw [(HGm3.out.below hX).look hg0 hg1, hsv])
      have HO : Hid (∀ X, Below w3.heap.size w3 X → Own layR 42 X w.heap.size sv (recG eg ((es.zip is).take k))) := hide (fun X hX => by rw [hsv]; exact (HGm3.out.own eg).below hX)
      have hrl : (recG eg ((es.zip is).take k)).length ≤ k := by have := recG_len eg ((es.zip is).take k); rw [HTl.out] at this; exact this
      have HSV : Hid _ := hide hsv
      have HVL : Hid _ := hide hvl
      have HW3 : Hid _ := hide hw3
      have B3 : Hid _ := hide b3
      have hwsz : w.heap.size ≤ w3.heap.size := by have := HB.out.size; omega
      obtain ⟨av, cv, hvv, -, -⟩ := own_form (HO.out _ (Below.refl _ _))
      obtain ⟨ql, hql⟩ : ∃ ql, ql = (recG eg ((es.zip is).take k)).length := ⟨_, rfl⟩
      rw [← hql] at hvv hrl
      have HQL : Hid _ := hide hql
      have hx := HS.out w3 (But.refl _ _)
      obtain ⟨p0, p1, p2, p3, p4⟩ := hx
      have p5 := HLK.out w3.drew (Below.refl _ _).drew
      have p6 := HLK.out (w3.alloc (.cells #[.int .i64 (k : Int), .int .i64 ek, .int .u64 eo, .int .u64 ea, .int .i64 id] 42)).drew ((Below.refl _ _).alloc (Nat.le_refl _) _).drew
      clear hw3 b3 r3 hsv hvl hql
      subst hvv
      go_wp2_with fail
      rw [← HW3.out]
      go_region_held3 (fun X => X.cell? ⟨wr.heap.size, 0, none⟩ = some (.int .i64 eg) ∧ X.cell? ⟨wr.heap.size, 1, none⟩ = some (.int .i64 ek) ∧ X.cell? ⟨wr.heap.size, 2, none⟩ = some (.int .u64 eo) ∧ X.cell? ⟨wr.heap.size, 3, none⟩ = some (.int .u64 ea) ∧ X.cell? ⟨ib, io + k, none⟩ = some (.int .i64 id)) (first | exact HS.out _ hb6 | exact HS.out _ hb5 | exact HS.out _ (But.refl _ _).drew | exact HS.out _ ((But.refl _ _).drew.alloc _) | exact HS.out _ (But.refl _ _)) (first
        | (refine step_layW2 layR _ 38 42 i0 _ 40 Try.underlying38 hi0 hz0 hz1 hz2 rfl rfl (.tmp 33) (.tmp 46) rfl w.heap.size (.slice av ql cv) (recG eg ((es.zip is).take k)) rfl (HO.out _ ((Below.refl _ _).drew.alloc (Nat.le_refl _) _)) ⟨w3.heap.size, 0, none⟩ 1 1 [rcOf ((⟨eg, ek, eo, ea, ⟨sa, sn, sc⟩⟩, id), k)] rfl (TRow.one (heap_new _ _)) (by rw [← HQL.out]; unfold maxLen; omega) (by rw [← HQL.out]; omega) (by simp; omega) ?_
           intro v4 w4 o4 g4 l4
           have hb5 : But (fun q => (Value.slice av ql cv).ownBlock = some q ∨ q = w1.heap.size) w3 w4 := ((But.refl _ _).drew.alloc _).grown g4 (fun _ _ e9 => .inl e9)
           have hm4 := ((HGm3.out.below ((Below.refl _ _).drew.alloc (Nat.le_refl _) _)).grow (g := eg) (by rw [← HSV.out]; exact g4)).1
           obtain ⟨w5, hrun5, m5, g5⟩ := hm4.update law3 Try.underlying51 (by unfold maxLen; omega) (val := v4) (d := .held v4) (ps := []) (key3 hg0 hg1) rfl
           have hb6 : But (fun q => (Value.slice av ql cv).ownBlock = some q ∨ q = w1.heap.size) w3 w5 := hb5.grown g5 (fun _ _ e9 => .inr (by injection e9 with e9; exact e9.symm))))
      all_goals
        have G5 := Gm.put (HGm3.out.below ((Below.refl _ _).drew.alloc (Nat.le_refl _) _)) (e := (⟨eg, ek, eo, ea, ⟨sa, sn, sc⟩⟩, id)) (v' := v4) (by rw [← HSV.out]; exact g4) (by rw [← HSV.out]; exact l4) (by rw [HTl.out]; exact o4) m5 g5
        have G6 : Hid (Gm w5 w.heap.size w1.heap.size (k + 1) _ _ ((es.zip is).take (k + 1))) := hide (by rw [HT.out]; exact G5)
        have B6 : Hid (Below w.heap.size w w5) := hide ((HB.out.trans (B3.out.mono HB.out.size)).trans (hb6.below hwsz (fun q hq => hq.elim (fun e8 => (HVL.out q e8).1) (fun e8 => by have e7 : q = w1.heap.size := e8; omega))))
        clear G5 m5 g5 o4 g4 l4 hm4 hrun5 hb5 hb6 p0 p1 p2 p3 p4 p5 p6
        go_wp2
        go_roundw
        case rel => exact ⟨k + 1, _, _, by go_num, by omega, G6, B6⟩
        case measure => simp [numV]; omega
    · obtain rfl : k = n := by omega
      have hltI : ¬ (k : Int) < (k : Int) := by omega
      have HGn : Hid (Gm wr w.heap.size w1.heap.size k D vg (es.zip is)) := hide (by
        have h9 := HGm.out
        rw [List.take_of_length_le (by rw [List.length_zip, HL.out]; omega)] at h9
        exact h9)
      have hsz := HGn.out.map.size_le
      obtain ⟨sz, hsz9⟩ : ∃ sz, sz = Maps.size D := ⟨_, rfl⟩
      have HSZ : Hid _ := hide hsz9
      rw [← hsz9] at hsz
      clear hsz9
      obtain ⟨w2, hmk, o2, g2⟩ := run_make_own (P := Try.prog) wr w.heap.size 31 40 i1 _ 2 Try.underlying31 hi1 hy0 hy1 .i64 .i64 sz (by rw [hy2]; omega) (by unfold maxLen; omega) HB.out.size
      have b2 : Below wr.heap.size wr w2 := (Below.refl _ _).grown g2 (Nat.le_refl _) (fun k hk => by cases hk)
      have HG2 : Hid _ := hide (HGn.out.below b2)
      have HBW2 : Hid (Below w.heap.size w w2) := hide (HB.out.trans (b2.mono HB.out.size))
      have HO2 : Hid (Own layW 40 w2 w.heap.size (.slice (some ⟨wr.heap.size, 0, none⟩) 0 sz) (rwsOf [] vg)) := hide o2
      have KY := keys_any w2 w1.heap.size
      have SO := sorted_any w1.heap.size k D heldR w2 HG2.out.map (by rw [← HSZ.out]; omega)
      clear o2 g2 b2
      go_wp2_with (first | (at_len; refine wpList_len_own _ rfl _ 51 rfl 3 38 Try.underlying51 heldR w1.heap.size k D rfl HGn.out.map ?_; rw [← HSZ.out]) | fail)
      refine KY.mono ?_
      rintro r x9 ⟨rfl, rfl⟩
      go_wp2_with fail
      refine SO.mono ?_
      rintro r w3 ⟨vk, ss, rfl, hss, ok3, b3⟩
      clear KY SO hmk
      obtain ⟨K, hK⟩ : ∃ K, K = ss.mergeSort leI := ⟨_, rfl⟩
      rw [← hK] at ok3
      have HKG : Hid (Gors K (es.zip is)) := hide (by rw [hK]; exact HG2.out.gors hss)
      have hKl := HKG.out.len
      rw [List.length_zip, HL.out, HLi.out, Nat.min_self] at hKl
      obtain ⟨ka, kc, hvk, -, -⟩ := own_form ok3
      obtain ⟨m, hm⟩ : ∃ m, m = K.length := ⟨_, rfl⟩
      rw [← hm] at hvk hKl
      subst hvk
      have HM : Hid _ := hide hm
      have HKO : Hid _ := hide ok3
      have HG3 : Hid _ := hide (HG2.out.below b3)
      have HO3 : Hid _ := hide (HO2.out.below b3)
      have HB3 : Hid (Below w.heap.size w w3) := hide (HBW2.out.trans (b3.mono HBW2.out.size))
      clear hm hK hss ok3 b3
      go_wp2_with fail
      go_loopw [10, 56] (fun vr i wi => ∃ (j : Nat), i = .int .i64 j ∧ j ≤ m ∧ Hid (Own layW 40 wi w.heap.size vr (rwsOf (K.take j) vg)) ∧ Hid (But (fun q => ∃ cs fr, w3.heap[q]? = some (.cells cs 40 fr) ∧ w.heap.size ≤ q) w3 wi)) (fun _ i _ => m - numV i)
      case atStart => exact ⟨0, rfl, Nat.zero_le _, HO3, hide (But.refl _ _)⟩
      case round =>
        obtain ⟨j, rfl, hj, HOj, HBj⟩ := hrel
        rename World => wi
        have HGi : Hid (Gm wi w.heap.size w1.heap.size k D vg (es.zip is)) := hide (HG3.out.but HBj.out (fun ⟨cs, fr, h9, _⟩ => by obtain ⟨es', cl, h8, _⟩ := HG3.out.map; rw [h8] at h9; cases h9) (fun g q hq ⟨cs, fr, h9, _⟩ => by obtain ⟨cur, h8⟩ := own_ty (HG3.out.own g) hq; rw [h8] at h9; simp at h9))
        have HBw : Hid (Below w.heap.size w wi) := hide (HB3.out.trans (HBj.out.below HB3.out.size (fun q hq => hq.elim fun _ h8 => h8.elim fun _ h9 => h9.2)))
        obtain ⟨va, vc, hvv, -, -⟩ := own_form HOj.out
        have hrl : (rwsOf (K.take j) vg).length = j := by unfold rwsOf; rw [List.length_map, List.length_take, ← HM.out]; omega
        rw [hrl] at hvv
        subst hvv
        have HRL : Hid _ := hide hrl
        clear hrl
        by_cases hlt2 : j < m
        · have hltJ : (j : Int) < (m : Int) := by omega
          obtain ⟨g, hgK⟩ : ∃ g, K[j]? = some g := ⟨_, List.getElem?_eq_getElem (by rw [← HM.out]; exact hlt2)⟩
          have hgr : 0 ≤ g ∧ g < 65536 := by
            obtain ⟨e, he, h9⟩ := (HKG.out.mem g).1 (List.mem_of_getElem? hgK)
            have := HG.out e.1 (List.of_mem_zip (show (e.1, e.2) ∈ es.zip is from he)).1
            rw [h9] at this; exact this
          obtain ⟨kb, kc', hkv, _, hkb, _⟩ := HKO.out.frm (by rw [← HM.out]; omega)
          injection hkv with hka hkn hkc
          subst hka
          have y0w := HKO.out.cell hgK 0 (u := .int .i64 g) rfl
          simp only [layN, Nat.add_zero, Nat.mul_one] at y0w
          obtain ⟨kcur, hkt⟩ := own_ty HKO.out (b := kb) rfl
          have y0 : wi.cell? ⟨kb, j, none⟩ = some (.int .i64 g) := (World.cell?_of_block (HBj.out.block kb hkb (fun ⟨cs, fr, h9, _⟩ => by rw [hkt] at h9; simp at h9))).trans y0w
          obtain ⟨sv, hsv⟩ : ∃ sv, sv = vg g := ⟨_, rfl⟩
          have hlk := HGi.out.look hgr.1 hgr.2
          rw [← hsv] at hlk
          have hos : Own layR 42 wi w.heap.size sv (recG g (es.zip is)) := by rw [hsv]; exact HGi.out.own g
          obtain ⟨sa, sc, hsvv, -, -⟩ := own_form hos
          obtain ⟨sn, hsn⟩ : ∃ sn, sn = (recG g (es.zip is)).length := ⟨_, rfl⟩
          rw [← hsn] at hsvv
          have HT : Hid (rwsOf (K.take (j + 1)) vg = rwsOf (K.take j) vg ++ [⟨g, ⟨sa, sn, sc⟩⟩]) := hide (by
            have hlk : j < K.length := get_lt hgK
            unfold rwsOf
            rw [List.take_succ_eq_append_getElem hlk, List.map_append]
            rw [List.getElem?_eq_getElem hlk] at hgK
            rw [Option.some.inj hgK]
            simp only [List.map_cons, List.map_nil]
            rw [← hsv, hsvv]; rfl)
          clear hsv hos hsn y0w hgK hkt hkn hkc hkb
          subst hsvv
          go_wp2_with (at_builtin; refine append_lay layW _ 31 40 i1 _ 32 Try.underlying31 hi1 hy0 hy1 hy2 rfl rfl (.tmp 60) (.tmp 66) rfl w.heap.size _ _ rfl (HOj.out.below (below_alloc1 _ _)) _ _ _ [(⟨g, ⟨sa, sn, sc⟩⟩ : Rw)] rfl (TRow.one (heap_new _ _)) (fun e => by cases e) (by rw [HRL.out]; unfold maxLen; omega) (by rw [HRL.out]; omega) (by simp; have := HBw.out.size; omega) ?_; intro v9 w9 o9 g9 l9)
          have HO9 : Hid (Own layW 40 w9 w.heap.size v9 (rwsOf (K.take (j + 1)) vg)) := hide (by rw [HT.out]; exact o9)
          have HB9 : Hid (But (fun q => ∃ cs fr, w3.heap[q]? = some (.cells cs 40 fr) ∧ w.heap.size ≤ q) w3 w9) := hide ((HBj.out.alloc _).grown g9 (fun q hq e9 => by
            obtain ⟨cur, h9⟩ := own_ty HOj.out e9
            by_cases hT : (∃ cs fr, w3.heap[q]? = some (.cells cs 40 fr) ∧ w.heap.size ≤ q)
            · exact hT
            · rw [HBj.out.block q hq hT] at h9
              exact ⟨_, _, h9, (HOj.out.lt q e9).1⟩))
          clear o9 g9 l9 hlk y0
          go_wp2
          go_roundw
          case rel => exact ⟨j + 1, by go_num, by omega, HO9, HB9⟩
          case measure => simp [numV]; omega
        · have hltJ : ¬ (j : Int) < (m : Int) := by omega
          obtain rfl : j = m := by omega
          go_wp2
          go_ret2
          refine ⟨.slice va j vc, rfl, rwsOf K vg, K, HKG.out, ⟨?_, ?_, ?_, ?_⟩, HBw.out⟩
          · have h9 := HOj.out
            rw [List.take_of_length_le (by rw [← HM.out]; exact Nat.le_refl _)] at h9
            exact h9
          · simp [rwsOf, rowsOf]
          · intro q rw G h1 h2
            obtain ⟨g, hgq⟩ : ∃ g, K[q]? = some g := ⟨_, List.getElem?_eq_getElem (by have := get_lt h1; simpa [rwsOf] using this)⟩
            simp [rwsOf, hgq] at h1
            simp [rowsOf, hgq] at h2
            subst h1; subst h2
            refine ⟨rfl, ?_⟩
            have h9 := HGi.out.own g
            obtain ⟨sa, sc, e9, -, -⟩ := own_form h9
            rw [e9] at h9 ⊢
            exact h9
          · intro q1 q2 r1 r2 bb h1 h2 h3 h4
            obtain ⟨g1, hg1⟩ : ∃ g, K[q1]? = some g := ⟨_, List.getElem?_eq_getElem (by have := get_lt h1; simpa [rwsOf] using this)⟩
            obtain ⟨g2, hg2⟩ : ∃ g, K[q2]? = some g := ⟨_, List.getElem?_eq_getElem (by have := get_lt h2; simpa [rwsOf] using this)⟩
            simp [rwsOf, hg1] at h1
            simp [rwsOf, hg2] at h2
            subst h1; subst h2
            have hv : ∀ g, (slOf (vg g)).v = vg g := fun g => by obtain ⟨sa, sc, e9, -, -⟩ := own_form (HGi.out.own g); rw [e9]; rfl
            rw [hv] at h3 h4
            have e9 := HGi.out.one _ _ bb h3 h4
            subst e9
            exact asc_inj HKG.out.asc hg1 hg2
set_option maxRecDepth 8000 in
theorem split_bad (w : World) (a b : Option Addr) (n c m d : Nat) (es : List Vt) (hr : TRow layV w a n es) (hn : (n : Int) ≤ 9000000000000000000) (hm : (m : Int) ≤ 9000000000000000000) (hf : tfault es m ≠ 0) :
    Calls Try.prog 6 #[.slice a n c, .slice b m d] w fun r w' => r = .returned (.tuple #[.slice none 0 0, .int .i64 (tfault es m)]) ∧ Below w.heap.size w w' := by
  have TF := tf_any w a b n c m d es hr hn hm
  generalize tfault es m = t at TF hf
  have hb : (t == 0) = false := by simp [hf]
  clear hr
  go_enter Try.func6, Try.ntmps6
  go_wp2_with fail
  refine TF.mono ?_
  rintro r w1 ⟨rfl, b1⟩
  have HB1 : Hid _ := hide b1
  clear TF b1
  go_wp2
  go_ret2
  exact ⟨rfl, HB1.out⟩
end Go.Proofs.Ytdlpffbeladgaab
