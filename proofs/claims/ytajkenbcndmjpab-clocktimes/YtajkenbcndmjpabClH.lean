/-
  Set.
-/
import Derived.Test.YtajkenbcndmjpabClG
namespace Go.Proofs.Ytajkenbcndmjpab
open Go.RowKit Go.Maps Go.Shelf
/-- A clock that is handed in. -/
structure Cl (w : World) (a : Option Addr) (n c : Nat) (L : List Tk) : Prop where
  row : TRow layT w a n L
  cap : n ≤ c
  frm : a = none → n = 0 ∧ c = 0
  big : (n : Int) ≤ 8796093022208
theorem Cl.below {w w' : World} {a : Option Addr} {n c : Nat} {L : List Tk} (h : Cl w a n c L) (hb : Below w.heap.size w w') : Cl w' a n c L := ⟨h.row.below hb, h.cap, h.frm, h.big⟩
theorem setFault_any (a : Option Addr) (n c : Nat) (L : List Tk) (g t : Int) (w : World) (h : Cl w a n c L) :
    Calls Try.prog 36 #[.slice a n c, .int .i64 g, .int .i64 t] w fun e w' => e = .returned (.int .i64 (if gd 0 L = true then if g < 0 ∨ 65536 ≤ g then 61 else if t < 0 then 2 else 0 else 170)) ∧ Below w.heap.size w w' := by
  have HG := hide (good_any a n c L w h.row h.big)
  clear h
  cases hg : gd 0 L with
  | false =>
    rw [hg] at HG
    clear hg
    go_enter Try.func36, Try.ntmps36
    go_wp2_with fail
    refine HG.out.mono ?_
    rintro e w1 ⟨rfl, hb⟩
    have HB := hide hb
    clear hb
    go_wp2
    go_ret
    exact ⟨by simp, HB.out⟩
  | true =>
    rw [hg] at HG
    clear hg
    by_cases h1 : g < 0
    · have d1 : decide (g < 0) = true := decide_eq_true h1
      have e1 : (if true = true then if g < 0 ∨ 65536 ≤ g then (61 : Int) else if t < 0 then 2 else 0 else 170) = 61 := by rw [if_pos rfl, if_pos (.inl h1)]
      rw [e1]
      clear e1
      go_enter Try.func36, Try.ntmps36
      go_wp2_with fail
      refine HG.out.mono ?_
      rintro e w1 ⟨rfl, hb⟩
      have HB := hide hb
      clear hb
      go_wp2
      go_ret
      exact ⟨rfl, HB.out⟩
    · have d1 : decide (g < 0) = false := decide_eq_false h1
      by_cases h2 : 65536 ≤ g
      · have d2 : decide (65536 ≤ g) = true := decide_eq_true h2
        have e1 : (if true = true then if g < 0 ∨ 65536 ≤ g then (61 : Int) else if t < 0 then 2 else 0 else 170) = 61 := by rw [if_pos rfl, if_pos (.inr h2)]
        rw [e1]
        clear e1
        go_enter Try.func36, Try.ntmps36
        go_wp2_with fail
        refine HG.out.mono ?_
        rintro e w1 ⟨rfl, hb⟩
        have HB := hide hb
        clear hb
        go_wp2
        go_ret
        exact ⟨rfl, HB.out⟩
      · have d2 : decide (65536 ≤ g) = false := decide_eq_false h2
        by_cases h3 : t < 0
        · have d3 : decide (t < 0) = true := decide_eq_true h3
          have e1 : (if true = true then if g < 0 ∨ 65536 ≤ g then (61 : Int) else if t < 0 then 2 else 0 else 170) = 2 := by rw [if_pos rfl, if_neg (by omega), if_pos h3]
          rw [e1]
          clear e1
          go_enter Try.func36, Try.ntmps36
          go_wp2_with fail
          refine HG.out.mono ?_
          rintro e w1 ⟨rfl, hb⟩
          have HB := hide hb
          clear hb
          go_wp2
          go_ret
          exact ⟨rfl, HB.out⟩
        · have d3 : decide (t < 0) = false := decide_eq_false h3
          have e1 : (if true = true then if g < 0 ∨ 65536 ≤ g then (61 : Int) else if t < 0 then 2 else 0 else 170) = 0 := by rw [if_pos rfl, if_neg (by omega), if_neg h3]
          rw [e1]
          clear e1
          go_enter Try.func36, Try.ntmps36
          go_wp2_with fail
          refine HG.out.mono ?_
          rintro e w1 ⟨rfl, hb⟩
          have HB := hide hb
          clear hb
          go_wp2
          go_ret
          exact ⟨rfl, HB.out⟩
/-- 'append(l, m...)' in a region that draws, l the call's own, m any row. -/
theorem step_lay {α : Type} (y : Lay α) (w : World) {ops : Array Oper} {oo : Oper} {aa : Act} {Kc : Act → World → Prop} {Q : Exit → Act → World → Prop} {E0 : Prop} (t e : TypeId) (i0 : TypeInfo) (z : Value) (bytes : Nat)
    (hu : Try.prog.underlying t = some (.slice e)) (hi : Try.prog.info? e = some i0) (hz0 : i0.zero = some z) (hz1 : i0.size = y.z) (hz2 : i0.bytes = bytes) (hzs : z.cells.size = y.z)
    (hw : Region.wanted oo (yielded ops aa.tmps) = true)
    (s x : Operand) (ho : oo.op = .call { callee := .builtin .append, args := #[s, x], argTypes := #[t, t] }) (base : Nat)
    (v : Value) (L : List α) (hs : aa.eval s = v) (hown : Own y e w base v L)
    (ra : Option Addr) (m c : Nat) (M : List α) (hx : aa.eval x = .slice ra m c) (hr : TRow y w ra m M) (h0 : ra = none → m = 0 ∧ c = 0)
    (hm : L.length + m ≤ maxLen) (hb : (L.length + m) * bytes ≤ 140737488355328) (hbase : base ≤ w.heap.size)
    (h : ∀ v' w', Own y e w' base v' (L ++ M) → w.grownBy w' v.ownBlock → (v'.ownBlock = v.ownBlock ∨ v'.ownBlock = some w.heap.size) → Kc (aa.put oo.dst v') w') :
    if Region.wanted oo (yielded ops aa.tmps) = true then Oper.wp Try.prog oo aa w Kc Q else E0 := by
  rw [if_pos hw]
  cases ra with
  | none =>
    obtain ⟨rfl, rfl⟩ := h0 rfl
    have e1 := List.length_eq_zero_iff.1 hr.len
    subst e1
    have hr := run_append_owned_none (P := Try.prog) (w := w) base t oo.type e i0 y.z hu hi v L.length (y.fl L) hown
    unfold Oper.wp execOp
    simp only [ho, resolve, invoke, builtin, Sem.run_bind, Sem.run_pure, Result.andThen_ok, List.map_toArray, List.map_cons, List.map_nil, hs, hx, hr]
    exact h v w (by simpa using hown) (World.grownBy.refl w _) (.inl rfl)
  | some ad =>
    obtain ⟨v', w', hr', h2, h3, _, h5⟩ := run_append_own_at (P := Try.prog) w base t oo.type e i0 z y.z bytes hu hi hz0 hz1 hz2 hzs y.pos v L.length (y.fl L) hown ad m c (y.fl M) (by rw [y.fl_len, hr.len]) hr.news (y.fl_cell M) hm hb hbase
    unfold Oper.wp execOp
    simp only [ho, resolve, invoke, builtin, Sem.run_bind, Sem.run_pure, Result.andThen_ok, List.map_toArray, List.map_cons, List.map_nil, hs, hx, hr']
    refine h v' w' ?_ h3 h5
    unfold Own
    rw [List.length_append, hr.len, y.fl_app]
    exact h2
theorem set_bad (a : Option Addr) (n c : Nat) (L : List Tk) (g t f : Int) (w : World) (h : Cl w a n c L) (hf : (if gd 0 L = true then if g < 0 ∨ 65536 ≤ g then (61 : Int) else if t < 0 then 2 else 0 else 170) = f) (hf0 : f ≠ 0) :
    Calls Try.prog 20 #[.slice a n c, .int .i64 g, .int .i64 t] w fun e w' => e = .returned (.tuple #[.slice none 0 0, .int .i64 f]) ∧ Below w.heap.size w w' := by
  have HF := hide (setFault_any a n c L g t w h)
  rw [hf] at HF
  have hb : (f != 0) = true := by simp [hf0]
  clear h hf hf0
  go_enter Try.func20, Try.ntmps20
  go_wp2_with fail
  refine HF.out.mono ?_
  rintro e w1 ⟨rfl, hb1⟩
  have HB := hide hb1
  clear hb1
  go_wp2
  go_ret2
  exact ⟨rfl, HB.out⟩
theorem LB.above {L : List Tk} {m k : Int} {j : Nat} (h : LB L k j false) (hg : gd m L = true) : ∀ e ∈ L.drop j, k < e.g := by
  intro e he
  have h1 := h.high e he
  by_cases h2 : e.g = k
  · have h3 := (h.tm hg).2 rfl
    have h4 := tm_mem hg (List.mem_of_mem_drop he)
    rw [h2, h3] at h4
    omega
  · omega
theorem LB.above1 {L : List Tk} {m k : Int} {j : Nat} {x : Tk} (hx : L[j]? = some x) (hxg : x.g = k) (hg : gd m L = true) : ∀ e ∈ L.drop (j + 1), k < e.g := by
  intro e he
  have h1 := (gd_at hg hx).2
  have := (tm_mem h1 he).2.1
  omega
theorem pt_app (J M : List Tk) (g t : Int) : pt J g t ++ M = J ++ ((if t = 0 then [] else [⟨g, t⟩]) ++ M) := by
  unfold pt
  split <;> simp
set_option maxRecDepth 100000 in
set_option maxHeartbeats 4000000 in
theorem set_ok (a : Option Addr) (n c : Nat) (L : List Tk) (g t : Int) (w : World) (h : Cl w a n c L) (hg : gd 0 L = true) (hg0 : 0 ≤ g) (hg1 : g < 65536) (ht : 0 ≤ t) :
    Calls Try.prog 20 #[.slice a n c, .int .i64 g, .int .i64 t] w fun e w' => ∃ v, e = .returned (.tuple #[v, .int .i64 0]) ∧ Own layT 43 w' w.heap.size v (stt L g t) ∧ Below w.heap.size w w' := by
  have HF := hide (setFault_any a n c L g t w h)
  rw [if_pos hg, if_neg (by omega), if_neg (by omega)] at HF
  have hln := gd_len0 hg
  rw [h.row.len] at hln
  obtain ⟨i0, hi, hz0, hz1, hz2⟩ := info_parts Try.infoT
  have HC := hide h
  have HG := hide hg
  have HLn := hide hln
  have HR := hide (And.intro hg0 (And.intro hg1 ht))
  have hcap := h.cap
  have hfrm := h.frm
  clear h hg hln hg0 hg1 ht
  go_enter Try.func20, Try.ntmps20
  go_wp2_with fail
  refine HF.out.mono ?_
  rintro e w1 ⟨rfl, hb1⟩
  have HB1 := hide hb1
  clear hb1 HF
  have HFi := hide (find_any a n c L g w1 (HC.out.row.below HB1.out) (ris_of HG.out) (by have := HLn.out; omega))
  go_wp2_with fail
  refine HFi.out.mono ?_
  rintro e w2 ⟨j, is, rfl, hlb, hb2⟩
  have HB2 := hide (Below.on HB1.out hb2)
  have HLB := hide hlb
  have hjn : j ≤ n := by have := hlb.le; rw [HC.out.row.len] at this; exact this
  clear hb2 hlb HFi HB1
  have hjI : (j : Int) ≤ n := by omega
  have hjc : (j : Int) ≤ c := by omega
  have hncI : (n : Int) ≤ c := by omega
  obtain ⟨w3, hmk, own3, gr3⟩ := run_make_own (P := Try.prog) w2.drew w2.heap.size 22 43 i0 _ 2 Try.underlying22 hi hz0 hz1 .i64 .i64 (n + 1) (by rw [hz2]; have := HLn.out; omega) (by unfold maxLen; have := HLn.out; omega) (Nat.le_refl _)
  have hn1 : ((n + 1 : Nat) : Int) = (n : Int) + 1 := by omega
  rw [hn1] at hmk
  have hw1 : IntKind.i64.wrap ((n : Int) + 1) = (n : Int) + 1 := by have := HLn.out; rw [IntKind.wrap_i64]; omega
  have b23 : Below w2.heap.size w2 w3 := ((Below.refl w2.heap.size w2).drew).grown gr3 (by simp) (fun k h => by cases h)
  have HO3 : Hid (Own layT 43 w3 w2.heap.size (.slice (some ⟨w2.heap.size, 0, none⟩) 0 (n + 1)) []) := hide own3
  have HB3 := hide (Below.on HB2.out b23)
  have HS23 := hide b23.size
  clear own3 gr3 b23 hn1
  cases is with
  | true =>
    obtain ⟨x, hx, hxg, hxt⟩ := (HLB.out.tm HG.out).1 rfl
    have hjlt : j < n := by have := get_lt hx; rw [HC.out.row.len] at this; exact this
    have HX := hide (stt_at1 (t := t) hx hxg HLB.out.low (LB.above1 hx hxg HG.out))
    have hcj : ¬ c = j := by omega
    have hjltI : (j : Int) < n := by omega
    obtain ⟨b, off, rfl, -⟩ := HC.out.row.at (by omega)
    clear hx hxg hxt hfrm
    go_upto_region 8 with fail
    have htl : ∀ W, TRow layT W (some ⟨b, off, none⟩) n L → TRow layT W (if c - j = 1 then some ⟨b, off + j * 2, none⟩ else some ⟨b, off + j * 2 + 2, none⟩) (n - j - 1) (L.drop (j + 1)) := fun W hW => by
      have h1 := (hW.drop j hjn).drop_if (c := c - j) 1 (by omega) (by omega)
      rw [List.drop_drop] at h1
      exact h1
    have hnn : (if c - j = 1 then some (⟨b, off + j * 2, none⟩ : Addr) else some ⟨b, off + j * 2 + 2, none⟩) = none → n - j - 1 = 0 ∧ c - j - 1 = 0 := fun e => by split at e <;> cases e
    have HTl := hide (And.intro htl hnn)
    generalize hra : (if c - j = 1 then some (⟨b, off + j * 2, none⟩ : Addr) else some ⟨b, off + j * 2 + 2, none⟩) = ra at htl hnn HTl ⊢
    generalize hrn : n - j - 1 = rn at htl hnn HTl ⊢
    generalize hrc : c - j - 1 = rc at htl hnn HTl ⊢
    have hrnI : (rn : Int) ≤ 65536 := by have := HLn.out; omega
    have HrnI := hide hrnI
    clear htl hnn hra hrn hrc hrnI
    go_region_held3 (fun _ => True) (exact trivial) (first
      | (refine step_lay layT _ 22 43 i0 _ 16 Try.underlying22 hi hz0 hz1 hz2 rfl rfl (.tmp 35) (.tmp 38) rfl w2.heap.size _ [] rfl HO3.out (some ⟨b, off, none⟩) j c (L.take j) rfl ((HC.out.row.below HB3.out).cut j hjn) (fun e => (by cases e)) (by unfold maxLen; have := HLn.out; simp; omega) (by have := HLn.out; simp; omega) (by have := HS23.out; omega) ?_
         intro v4 w4 o4 g4 l4
         have HO4 := hide o4
         have HG4 := hide g4
         have HL4 := hide l4
         clear o4 g4 l4))
    rw [List.nil_append] at HO4
    have b4 : Below w.heap.size w w4 := HB3.out.grown HG4.out HB3.out.size (fun k hk => by have e9 : some w2.heap.size = some k := hk; injection e9 with e9; have := HB2.out.size; omega)
    have s4 : w2.heap.size ≤ w4.heap.size := by have := HG4.out.size; have := HS23.out; omega
    have hl4 : ((L.take j).length : Int) ≤ 200000 := by rw [List.length_take, HC.out.row.len]; have := HLn.out; omega
    have HPu := hide (put_any w2.heap.size v4 (L.take j) g t w4 HO4.out hl4 s4)
    have hv4 := HO4.out.lt
    obtain ⟨a4, c4, rfl, -, -⟩ := own_form HO4.out
    have HV4 := hide hv4
    have HB4 := hide b4
    have HS4 := hide s4
    generalize hln4 : (L.take j).length = ln4 at *
    clear b4 s4 hl4 hmk hw1 hv4
    go_wp2_with fail
    refine HPu.out.mono ?_
    rintro e w5 ⟨v5, rfl, o5, b5, l5⟩
    obtain ⟨a5, c5, rfl, -, -⟩ := own_form o5
    have b05 : Below w.heap.size w w5 := HB4.out.trans (b5.below HB4.out.size (fun k hk => by have := (HV4.out k hk).1; have := HB2.out.size; omega))
    have HB5 := hide b05
    have HO5 := hide o5
    have HS5 : Hid (w2.heap.size ≤ w5.heap.size) := hide (by have := b5.size; have := HS4.out; omega)
    have hpl : (pt (L.take j) g t).length ≤ ln4 + 1 := by
      unfold pt
      split
      · rw [hln4]; omega
      · rw [List.length_append, hln4]; exact Nat.le_refl _
    have hln : (ln4 : Int) ≤ 65536 := by rw [← hln4, List.length_take, HC.out.row.len]; have := HLn.out; omega
    have HPL : Hid ((pt (L.take j) g t).length ≤ 70000) := hide (by omega)
    generalize hpn : (pt (L.take j) g t).length = pn at *
    clear o5 b5 l5 b05 hpl hln HPu
    go_wp2_with (at_builtin; refine append_lay layT _ 22 43 i0 _ 16 Try.underlying22 hi hz0 hz1 hz2 rfl rfl (.tmp 43) (.tmp 44) rfl w2.heap.size (.slice a5 pn c5) (pt (L.take j) g t) rfl HO5.out ra rn rc (L.drop (j + 1)) rfl (HTl.out.1 _ (HC.out.row.below HB5.out)) HTl.out.2 ?b1 ?b2 HS5.out ?_)
    case b1 => unfold maxLen; have := HPL.out; have := HrnI.out; omega
    case b2 => have := HPL.out; have := HrnI.out; omega
    intro v6 w6 o6 g6 l6
    have HO6 := hide o6
    have HB6 := hide (HB5.out.grown g6 HB5.out.size (fun k hk => by have := (HO5.out.lt k hk).1; have := HB2.out.size; omega))
    clear o6 g6 l6
    go_wp2
    go_ret2
    refine ⟨v6, rfl, ?_, HB6.out⟩
    rw [HX.out, ← pt_app]
    exact HO6.out.mono HB2.out.size
  | false =>
    have HX := hide (stt_at (t := t) HLB.out.low (HLB.out.above HG.out))
    go_upto_region 8 with fail
    have htl : ∀ W, TRow layT W a n L → TRow layT W (if c = j then a else Option.map (fun x => x.add (j * 2)) a) (n - j) (L.drop j) := fun W hW => by
      by_cases h0 : n - j = 0
      · exact ⟨by rw [List.length_drop, hW.len], .inl h0⟩
      · obtain ⟨b, off, rfl, -⟩ := hW.at (by omega)
        have h1 := hW.drop_if j hjn hcap
        rw [if_neg (by omega)] at h1 ⊢
        rw [Option.map_some, add_at]
        exact h1
    have hnn : (if c = j then a else Option.map (fun x => x.add (j * 2)) a) = none → n - j = 0 ∧ c - j = 0 := fun e => by
      split at e
      · have := hfrm e; omega
      · cases a with
        | none => have := hfrm rfl; omega
        | some ad => cases e
    have hA0 : a = none → j = 0 ∧ c = 0 := fun e => by have := hfrm e; omega
    have HTl := hide (And.intro htl hnn)
    generalize hra : (if c = j then a else Option.map (fun x => x.add (j * 2)) a) = ra at htl hnn HTl ⊢
    generalize hrn : n - j = rn at htl hnn HTl ⊢
    generalize hrc : c - j = rc at htl hnn HTl ⊢
    have hrnI : (rn : Int) ≤ 65536 := by have := HLn.out; omega
    have HrnI := hide hrnI
    clear htl hnn hra hrn hrc hrnI
    go_region_held3 (fun _ => True) (exact trivial) (first
      | (refine step_lay layT _ 22 43 i0 _ 16 Try.underlying22 hi hz0 hz1 hz2 rfl rfl (.tmp 35) (.tmp 38) rfl w2.heap.size _ [] rfl HO3.out a j c (L.take j) rfl ((HC.out.row.below HB3.out).cut j hjn) hA0 (by unfold maxLen; have := HLn.out; simp; omega) (by have := HLn.out; simp; omega) (by have := HS23.out; omega) ?_
         intro v4 w4 o4 g4 l4
         have HO4 := hide o4
         have HG4 := hide g4
         have HL4 := hide l4
         clear o4 g4 l4))
    rw [List.nil_append] at HO4
    have b4 : Below w.heap.size w w4 := HB3.out.grown HG4.out HB3.out.size (fun k hk => by have e9 : some w2.heap.size = some k := hk; injection e9 with e9; have := HB2.out.size; omega)
    have s4 : w2.heap.size ≤ w4.heap.size := by have := HG4.out.size; have := HS23.out; omega
    have hl4 : ((L.take j).length : Int) ≤ 200000 := by rw [List.length_take, HC.out.row.len]; have := HLn.out; omega
    have HPu := hide (put_any w2.heap.size v4 (L.take j) g t w4 HO4.out hl4 s4)
    have hv4 := HO4.out.lt
    obtain ⟨a4, c4, rfl, -, -⟩ := own_form HO4.out
    have HV4 := hide hv4
    have HB4 := hide b4
    have HS4 := hide s4
    generalize hln4 : (L.take j).length = ln4 at *
    clear b4 s4 hl4 hmk hw1 hv4
    go_wp2_with fail
    refine HPu.out.mono ?_
    rintro e w5 ⟨v5, rfl, o5, b5, l5⟩
    obtain ⟨a5, c5, rfl, -, -⟩ := own_form o5
    have b05 : Below w.heap.size w w5 := HB4.out.trans (b5.below HB4.out.size (fun k hk => by have := (HV4.out k hk).1; have := HB2.out.size; omega))
    have HB5 := hide b05
    have HO5 := hide o5
    have HS5 : Hid (w2.heap.size ≤ w5.heap.size) := hide (by have := b5.size; have := HS4.out; omega)
    have hpl : (pt (L.take j) g t).length ≤ ln4 + 1 := by
      unfold pt
      split
      · rw [hln4]; omega
      · rw [List.length_append, hln4]; exact Nat.le_refl _
    have hln : (ln4 : Int) ≤ 65536 := by rw [← hln4, List.length_take, HC.out.row.len]; have := HLn.out; omega
    have HPL : Hid ((pt (L.take j) g t).length ≤ 70000) := hide (by omega)
    generalize hpn : (pt (L.take j) g t).length = pn at *
    clear o5 b5 l5 b05 hpl hln HPu
    go_wp2_with (at_builtin; refine append_lay layT _ 22 43 i0 _ 16 Try.underlying22 hi hz0 hz1 hz2 rfl rfl (.tmp 43) (.tmp 44) rfl w2.heap.size (.slice a5 pn c5) (pt (L.take j) g t) rfl HO5.out ra rn rc (L.drop j) rfl (HTl.out.1 _ (HC.out.row.below HB5.out)) HTl.out.2 ?b1 ?b2 HS5.out ?_)
    case b1 => unfold maxLen; have := HPL.out; have := HrnI.out; omega
    case b2 => have := HPL.out; have := HrnI.out; omega
    intro v6 w6 o6 g6 l6
    have HO6 := hide o6
    have HB6 := hide (HB5.out.grown g6 HB5.out.size (fun k hk => by have := (HO5.out.lt k hk).1; have := HB2.out.size; omega))
    clear o6 g6 l6
    go_wp2
    go_ret2
    refine ⟨v6, rfl, ?_, HB6.out⟩
    rw [HX.out, ← pt_app]
    exact HO6.out.mono HB2.out.size
end Go.Proofs.Ytajkenbcndmjpab
