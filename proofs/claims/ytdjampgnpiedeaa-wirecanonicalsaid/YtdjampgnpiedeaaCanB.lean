/-
  WireCanonical: the walk.
-/
import Derived.Test.YtdjampgnpiedeaaCanA
import Derived.Deep.RegionHeld3
namespace Go.Proofs.Ytdjampgnpiedeaa
open Go.RowKit

/-- 'append(b, raw...)', b the call's own, raw any row of bytes. -/
theorem append_row (w : World) {ops : Array Oper} {rest : List Oper} {o : Oper} {a : Act} {Q : Exit → Act → World → Prop} (hgd : o.guard = none) (s x : Operand)
    (ho : o.op = .call { callee := .builtin .append, args := #[s, x], argTypes := #[28, 28] }) (base : Nat)
    (v : Value) (n : Nat) (xs : List Int) (hs : a.eval s = v) (hown : w.ownsRow base 5 1 v n (xs.map (Value.int .u8)))
    (ra : Option Addr) (m c : Nat) (zs : List Int) (hx : a.eval x = .slice ra m c) (hr : Row w ra m zs) (h0 : ra = none → m = 0 ∧ c = 0)
    (hb : n + m ≤ 225000000000000) (hbase : base ≤ w.heap.size)
    (h : ∀ v' w', w'.ownsRow base 5 1 v' (n + m) ((xs ++ zs).map (Value.int .u8)) → w.grownBy w' v.ownBlock → wpList Try.prog ops Q rest (a.put o.dst v') w') : wpList Try.prog ops Q (o :: rest) a w := by
  obtain ⟨i0, hi, hz0, hz1, hz2⟩ := info_parts Try.info5
  cases ra with
  | none =>
    obtain ⟨rfl, rfl⟩ := h0 rfl
    have e1 := List.length_eq_zero_iff.1 hr.len
    subst e1
    refine wpList_append_own_none hgd s x 28 ho base 5 i0 1 Try.underlying28 hi v n _ hs hown hx (h v w (by simpa using hown) (World.grownBy.refl w _))
  | some ad =>
    refine append_big w hgd s x ho base v n _ hs hown ad m c (zs.map (Value.int .u8)) hx (by have := hr.len; simpa using this) (row_cells hr) (ints_oneCell _ _) hb hbase ?_
    intro v' w' h1 h2
    exact h v' w' (by rw [List.map_append]; exact h1) h2

theorem own_row_u8 {w : World} {base n c : Nat} {a : Option Addr} {zs : List Int} (h : w.ownsRow base 5 1 (.slice a n c) n (zs.map (Value.int .u8))) (hu : ∀ i : Nat, 0 ≤ zs[i]?.getD 0 ∧ zs[i]?.getD 0 ≤ 255) : Row w a n zs := by
  obtain ⟨a', c', hv, _, hr⟩ := Row.of_own h hu
  cases hv; exact hr
theorem own_nil {w : World} {base n c : Nat} {a : Option Addr} {xs : List Value} (h : w.ownsRow base 5 1 (.slice a n c) n xs) : a = none → n = 0 ∧ c = 0 := by
  intro ha
  subst ha
  rcases h.2 with ⟨hv, _⟩ | ⟨g, cap, cur, hv, _⟩
  · cases hv; exact ⟨rfl, rfl⟩
  · cases hv

/-- What the loop over the words keeps: the cursor at the place P, the bytes b, nothing old turned. -/
structure St (w wr : World) (base g : Nat) (a2 : Option Addr) (nb c2 : Nat) (a3 : Option Addr) (c3 : Nat) (B : List Int) (P : Nat) : Prop where
  cur : Cur wr base g a3 nb c3 B P 0
  own : wr.ownsRow w.heap.size 5 1 (.slice a2 nb c2) nb (B.map (Value.int .u8))
  below : Below w.heap.size w wr
section
variable {w wr w' : World} {base g : Nat} {a2 : Option Addr} {nb c2 : Nat} {a3 : Option Addr} {c3 : Nat} {B : List Int} {P : Nat}
theorem St.same (h : St w wr base g a2 nb c2 a3 c3 B P) (hb : Below wr.heap.size wr w') : St w w' base g a2 nb c2 a3 c3 B P :=
  ⟨h.cur.below hb, h.own.kept (grown_of (r := none) hb) (by cases (Value.slice a2 nb c2).ownBlock <;> simp), Below.on h.below hb⟩
theorem St.turn (h : St w wr base g a2 nb c2 a3 c3 B P) (h1 : (Value.slice a2 nb c2).ownBlock ≠ some g) (h2 : w.heap.size ≤ g) {P' : Nat} (hc : Cur w' base g a3 nb c3 B P' 0) (hg : wr.grownBy w' (some g)) : St w w' base g a2 nb c2 a3 c3 B P' :=
  ⟨hc, h.own.kept hg (.inr h1), h.below.grown hg h.below.size (fun k hk => by cases hk; exact h2)⟩
theorem St.row (h : St w wr base g a2 nb c2 a3 c3 B P) : Row wr a2 nb B := own_row_u8 h.own h.cur.u8
end
theorem st_varint {w wr : World} {base g : Nat} {a2 : Option Addr} {nb c2 : Nat} {a3 : Option Addr} {c3 : Nat} {B : List Int} {P L : Nat} {N : Int} (h : St w wr base g a2 nb c2 a3 c3 B P) (h1 : (Value.slice a2 nb c2).ownBlock ≠ some g) (h2 : w.heap.size ≤ g)
    (hq : rvAt B P = (N, (P : Int) + L, 0)) : Calls Try.prog 34 #[.pointer (some ⟨g, 0, none⟩)] wr fun e w' => e = .returned (.int .i64 N) ∧ St w w' base g a2 nb c2 a3 c3 B (P + L) := by
  have e : nextV B P 0 = (N, P + L, 0) := by
    unfold nextV
    rw [hq, if_neg (by simp), if_neg (by simp)]
    simp only [Prod.mk.injEq, true_and, and_true]; omega
  have hc := cv_any base g a3 nb c3 B P 0 wr h.cur
  rw [e] at hc
  exact hc.mono fun e w' ⟨he, hcu, hg⟩ => ⟨he, h.turn h1 h2 hcu hg⟩
theorem st_uvarint {w wr : World} {base g : Nat} {a2 : Option Addr} {nb c2 : Nat} {a3 : Option Addr} {c3 : Nat} {B : List Int} {P L : Nat} {N : Int} (h : St w wr base g a2 nb c2 a3 c3 B P) (h1 : (Value.slice a2 nb c2).ownBlock ≠ some g) (h2 : w.heap.size ≤ g)
    (hq : rdAt B P = (N, (P : Int) + L, 0)) : Calls Try.prog 35 #[.pointer (some ⟨g, 0, none⟩)] wr fun e w' => e = .returned (.int .u64 N) ∧ St w w' base g a2 nb c2 a3 c3 B (P + L) := by
  have e : nextU B P 0 = (N, P + L, 0) := by
    unfold nextU
    rw [hq, if_neg (by simp), if_neg (by simp)]
    simp only [Prod.mk.injEq, true_and, and_true]; omega
  have hc := cu_any base g a3 nb c3 B P 0 wr h.cur
  rw [e] at hc
  exact hc.mono fun e w' ⟨he, hcu, hg⟩ => ⟨he, h.turn h1 h2 hcu hg⟩
theorem st_at {w wr : World} {base g : Nat} {a2 : Option Addr} {nb c2 : Nat} {a3 : Option Addr} {c3 : Nat} {B : List Int} {P : Nat} (h : St w wr base g a2 nb c2 a3 c3 B P) :
    Calls Try.prog 36 #[.pointer (some ⟨g, 0, none⟩)] wr fun e w' => e = .returned (.int .i64 P) ∧ w' = wr := at_any g P wr h.cur.cell1
theorem st_fault {w wr : World} {base g : Nat} {a2 : Option Addr} {nb c2 : Nat} {a3 : Option Addr} {c3 : Nat} {B : List Int} {P : Nat} (h : St w wr base g a2 nb c2 a3 c3 B P) :
    Calls Try.prog 37 #[.pointer (some ⟨g, 0, none⟩)] wr fun e w' => e = .returned (.int .i64 0) ∧ w' = wr := fault_any g 0 wr h.cur.cell2
theorem st_left {w wr : World} {base g : Nat} {a2 : Option Addr} {nb c2 : Nat} {a3 : Option Addr} {c3 : Nat} {B : List Int} {P : Nat} (h : St w wr base g a2 nb c2 a3 c3 B P) :
    Calls Try.prog 30 #[.pointer (some ⟨g, 0, none⟩)] wr fun e w' => e = .returned (.int .i64 ((nb : Int) - P)) ∧ St w w' base g a2 nb c2 a3 c3 B P :=
  (left_any g nb c3 P a3 wr h.cur.cell0 h.cur.cell1 h.cur.le h.cur.reach).mono fun e w' ⟨he, m, hw⟩ => ⟨he, by rw [hw]; exact h.same (below_drewN (Below.refl _ _) m)⟩

theorem vr_len (n : Int) (w : World) (h1 : -9223372036854775808 ≤ n) (h2 : n ≤ 9223372036854775807) (L : Nat) (hL : (enc (zig n).toNat).length = L) :
    Calls Try.prog 27 #[.int .i64 n] w fun e w' => ∃ a c, e = .returned (.slice a L c) ∧ Below w.heap.size w w' :=
  (vr_row n w h1 h2).mono fun e w' ⟨a, c, he, _, hb⟩ => ⟨a, c, by rw [he, hL], hb⟩
theorem uv_len (n : Int) (w : World) (h1 : 0 ≤ n) (h2 : n ≤ 18446744073709551615) (L : Nat) (hL : (enc n.toNat).length = L) :
    Calls Try.prog 24 #[.int .u64 n] w fun e w' => ∃ a c, e = .returned (.slice a L c) ∧ Below w.heap.size w w' :=
  (uv_row n w h1 h2).mono fun e w' ⟨a, c, he, _, hb⟩ => ⟨a, c, by rw [he, hL], hb⟩
theorem size_len (n : Int) (w : World) (h1 : 0 ≤ n) (h2 : n ≤ 18446744073709551615) (L : Nat) (hL : (enc n.toNat).length = L) :
    Calls Try.prog 13 #[.int .u64 n] w fun e w' => e = .returned (.int .i64 L) ∧ w' = w :=
  (size_any n w h1 h2).mono fun e w' ⟨he, hw⟩ => ⟨by rw [he, hL], hw⟩

theorem uvE (x : Int) (w : World) (h1 : 0 ≤ x) (h2 : x ≤ 18446744073709551615) (E : List Int) (n : Nat) (hE : enc x.toNat = E) (hn : E.length = n) :
    Calls Try.prog 24 #[.int .u64 x] w fun e w' => ∃ a c, e = .returned (.slice a n c) ∧ Row w' a n E ∧ Below w.heap.size w w' := by
  subst hE; subst hn; exact uv_row x w h1 h2
theorem vrE (m : Int) (w : World) (h1 : -9223372036854775808 ≤ m) (h2 : m ≤ 9223372036854775807) (E : List Int) (n : Nat) (hE : enc (zig m).toNat = E) (hn : E.length = n) :
    Calls Try.prog 27 #[.int .i64 m] w fun e w' => ∃ a c, e = .returned (.slice a n c) ∧ Row w' a n E ∧ Below w.heap.size w w' := by
  subst hE; subst hn; exact vr_row m w h1 h2
theorem same_true (a b : Option Addr) (n ca cb : Nat) (E : List Int) (w : World) (hA : Row w a n E) (hB : Row w b n E) (hm : n ≤ 9223372036854775807) :
    Calls Try.prog 17 #[.slice a n ca, .slice b n cb] w fun e w' => e = .returned (.bool true) ∧ ∃ m, w' = w.drewN m :=
  (same_any a b n ca n cb E E w hA hB hm).mono fun e w' ⟨he, hw⟩ => ⟨by rw [he]; simp, hw⟩
theorem Row.sub {w : World} {b off n t l : Nat} {zs : List Int} (h : Row w (some ⟨b, off, none⟩) n zs) (hl : t + l ≤ n) (_h0 : 0 < l) : Row w (some ⟨b, off + t, none⟩) l ((zs.drop t).take l) := by
  have hlen := h.len
  refine ⟨by simp; omega, fun i => ?_, .inr ⟨b, off + t, rfl, fun i hi => ?_⟩⟩
  · by_cases hi : i < l
    · rw [List.getElem?_take, if_pos hi, List.getElem?_drop]; exact h.u8 (t + i)
    · rw [List.getElem?_take, if_neg hi]; simp
  · obtain ⟨b', off', he, hc⟩ := h.cells.resolve_left (by omega)
    cases he
    have := hc (t + i) (by omega)
    rw [Nat.add_assoc, this]
    simp [hi, List.getElem?_drop]

set_option maxHeartbeats 4000000 in
set_option maxRecDepth 100000 in
theorem can_walk (wa : Option Addr) (wn wc : Nat) (ws : List Wd) (ra : Option Addr) (rn rc : Nat) (R : List Int) (t : Int) (w : World)
    (hw : Wds w wa wn ws) (hr : Row w ra rn R) (hwn : (wn : Int) ≤ 5864062014634) (hrn : (rn : Int) ≤ 140737488351232) (hrc : rn ≤ rc) (hr0 : ra = none → rn = 0 ∧ rc = 0) :
    Calls Try.prog 8 #[.slice wa wn wc, .slice ra rn rc, .int .i64 t] w fun e w' => e = .returned (.bool true) ∧ Below w.heap.size w w' := by
  have HW := hide hw
  have HR := hide hr
  have HL : Hid (((textOf ws).length : Int) ≤ 58640620146340) := by
    have := textOf_len ws hw.ok
    have := hw.len
    show _ ≤ _
    omega
  have HU : Hid (∀ i : Nat, 0 ≤ (textOf ws ++ R)[i]?.getD 0 ∧ (textOf ws ++ R)[i]?.getD 0 ≤ 255) := u8_of_mem (fun z hz => by
    rcases List.mem_append.1 hz with h | h
    · exact textOf_u8 ws z h
    · exact mem_of_u8 hr.u8 z h)
  clear hw hr
  go_enter Try.func8, Try.ntmps8
  go_wp2_with fail
  refine (text_any wa wn wc ws w HW.out hwn).mono ?_
  rintro e w1 ⟨v1, he, hown1, hb1⟩
  obtain ⟨a1, c1, hv1⟩ := own_form hown1
  subst hv1
  subst he
  have HR1 := hide (HR.out.below hb1)
  have hTl := HL.out
  generalize hT : textOf ws = T at hown1 hTl HU
  have HT := hide hT
  clear hT
  go_wp2_with (at_builtin; refine append_row _ rfl (.tmp 28) (.tmp 29) rfl w.heap.size _ _ T rfl hown1 ra rn rc R rfl HR1.out hr0 (by omega) hb1.size ?_; intro v2 w2 hown2 hgrow2; obtain ⟨a2, c2, hv2⟩ := own_form hown2; subst hv2)
  refine (new_any a2 _ c2 (T ++ R) w2 (own_row_u8 hown2 HU.out) (by omega) (own_nil hown2)).mono ?_
  rintro e w3 ⟨g, a3, c3, rfl, hcur, hg, hb3⟩
  have b2 : Below w.heap.size w w2 := hb1.grown hgrow2 hb1.size (fun k hk => (hown1.lt k hk).1)
  have HN : Hid ((Value.slice a2 (T.length + rn) c2).ownBlock ≠ some g) := by
    intro e
    have := (hown2.lt g e).2
    omega
  have HG : Hid (w.heap.size ≤ g) := by show _ ≤ _; have := b2.size; omega
  have st : St w w3 w2.heap.size g a2 (T.length + rn) c2 a3 c3 (T ++ R) 0 := ⟨hcur, hown2.kept (grown_of (r := none) hb3) (by cases (Value.slice a2 (T.length + rn) c2).ownBlock <;> simp), Below.on b2 hb3⟩
  have ST := hide st
  clear st hcur hg hb3 b2 hown2 hgrow2 HR1 hb1 hown1 HU HL
  generalize w2.heap.size = base at ST
  generalize hBB : T ++ R = B at ST
  have HB := hide hBB
  clear hBB
  go_wp2_with fail
  go_loopw [10, 11] (fun sp si wr => ∃ k P : Nat, k ≤ wn ∧ si = .int .i64 k ∧ sp = .int .i64 P ∧ P = (textOf (ws.take k)).length ∧ St w wr base g a2 (T.length + rn) c2 a3 c3 B P)
    (fun _ si _ => wn - (intOf si).toNat)
  case atStart => exact ⟨0, 0, Nat.zero_le _, rfl, rfl, rfl, ST.out⟩
  case round =>
    obtain ⟨k, P, hk, rfl, rfl, hP, st⟩ := hrel
    have hPle : P ≤ T.length + rn := st.cur.le
    have ST1 := hide st
    have HP := hide hP
    clear st ST hP
    by_cases hlt : k < wn
    · have hwk := HW.out.below ST1.out.below
      have hkl : k < ws.length := by rw [hwk.len]; exact hlt
      obtain ⟨wb, woff, hwa, hcells⟩ := hwk.cells.resolve_left (by omega)
      subst hwa
      obtain ⟨h1, h2, h3⟩ := hcells k hkl
      have hok := HW.out.ok _ (List.getElem_mem hkl)
      have hsn := textOf_snoc ws k hkl
      have q1 := read_word ws k hkl R hok
      have q2 := read_word_signed ws k hkl R hok
      rw [HT.out, HB.out, ← HP.out] at q1 q2
      generalize ws[k] = d at h1 h2 h3 hok hsn q1 q2
      obtain ⟨s, x, m⟩ := d
      have x1 : 0 ≤ x := hok.1
      have x2 : x ≤ 18446744073709551615 := hok.2.1
      have m1 : -9223372036854775808 ≤ m := hok.2.2.1
      have m2 : m ≤ 9223372036854775807 := hok.2.2.2
      simp only at h1 h2 h3
      have HSN := hide hsn
      clear hwk hcells hok hsn
      cases s
      · have Q1 := hide (q1 rfl)
        clear q1 q2
        have HL2 : Hid ((textOf (ws.take (k + 1))).length = P + (enc x.toNat).length) := by
          show _ = _
          rw [HSN.out, List.length_append, ← HP.out]; rfl
        have Q3 : Hid (rdAt B P = (x, (P : Int) + (enc x.toNat).length, 0)) := Q1.out
        have hel : (enc x.toNat).length ≤ 10 := enc_le _ (by omega)
        generalize hGL : (enc x.toNat).length = L at HL2 Q3 hel
        have GL := hide hGL
        clear hGL
        have u := ru_any a2 (T.length + rn) c2 P B wr ST1.out.row (by omega)
        rw [Q3.out] at u
        simp only [out3] at u
        have U := hide u
        clear u
        go_wp2_with fail
        refine U.out.mono ?_
        rintro e w4 ⟨rfl, hw4⟩
        subst hw4
        go_wp2_with fail
        refine (size_len x _ x1 x2 L GL.out).mono ?_
        rintro e w4a ⟨rfl, hw4a⟩
        subst hw4a
        go_wp2_with fail
        refine (uv_len x _ x1 x2 L GL.out).mono ?_
        rintro e w5 ⟨a5, c5, rfl, hb5⟩
        have ST5 := hide (ST1.out.same hb5)
        clear hb5
        go_wp2_with fail
        refine (size_len x _ x1 x2 L GL.out).mono ?_
        rintro e w5a ⟨rfl, hw5a⟩
        subst hw5a
        go_wp2_with fail
        refine (st_uvarint ST5.out HN.out HG.out Q3.out).mono ?_
        rintro e w6 ⟨rfl, st6⟩
        have ST6 := hide st6
        clear st6
        go_wp2_with fail
        refine (st_at ST6.out).mono ?_
        rintro e w7 ⟨rfl, hw7⟩
        subst hw7
        go_wp2_with fail
        refine (st_left ST6.out).mono ?_
        rintro e w8 ⟨rfl, st8⟩
        have ST8 := hide st8
        clear st8
        go_wp2_with fail
        refine (st_fault ST8.out).mono ?_
        rintro e w9 ⟨rfl, hw9⟩
        subst hw9
        go_wp2
        exact ⟨⟨k + 1, P + L, by omega, by go_num, by go_num, HL2.out.symm, ST8.out⟩, by simp [intOf]; omega⟩
      · have Q2 := hide (q2 rfl)
        clear q1 q2
        have HL2 : Hid ((textOf (ws.take (k + 1))).length = P + (enc (zig m).toNat).length) := by
          show _ = _
          rw [HSN.out, List.length_append, ← HP.out]; rfl
        have Q3 : Hid (rvAt B P = (m, (P : Int) + (enc (zig m).toNat).length, 0)) := Q2.out
        have hel : (enc (zig m).toNat).length ≤ 10 := enc_le _ (by have := zig_bd m m1 m2; omega)
        generalize hGL : (enc (zig m).toNat).length = L at HL2 Q3 hel
        have GL := hide hGL
        clear hGL
        have u := rv_any a2 (T.length + rn) c2 P B wr ST1.out.row (by omega)
        rw [Q3.out] at u
        simp only [out3] at u
        have U := hide u
        clear u
        go_wp2_with fail
        refine U.out.mono ?_
        rintro e w4 ⟨rfl, hw4⟩
        subst hw4
        go_wp2_with fail
        refine (vr_len m _ m1 m2 L GL.out).mono ?_
        rintro e w5 ⟨a5, c5, rfl, hb5⟩
        have ST5 := hide (ST1.out.same hb5)
        clear hb5
        go_wp2_with fail
        refine (st_varint ST5.out HN.out HG.out Q3.out).mono ?_
        rintro e w6 ⟨rfl, st6⟩
        have ST6 := hide st6
        clear st6
        go_wp2_with fail
        refine (st_at ST6.out).mono ?_
        rintro e w7 ⟨rfl, hw7⟩
        subst hw7
        go_wp2_with fail
        refine (st_left ST6.out).mono ?_
        rintro e w8 ⟨rfl, st8⟩
        have ST8 := hide st8
        clear st8
        go_wp2_with fail
        refine (st_fault ST8.out).mono ?_
        rintro e w9 ⟨rfl, hw9⟩
        subst hw9
        go_wp2
        exact ⟨⟨k + 1, P + L, by omega, by go_num, by go_num, HL2.out.symm, ST8.out⟩, by simp [intOf]; omega⟩
    · have hkn : k = wn := by omega
      subst hkn
      have hPT : P = T.length := by rw [HP.out, List.take_of_length_le (by have := HW.out.len; omega), HT.out]
      subst hPT
      have CB := hide (cb_good base g a3 _ c3 B _ rn wr ST1.out.cur (Nat.le_refl _) (by omega))
      have hRl := HR.out.len
      have hBR : (B.drop T.length).take rn = R := by rw [← HB.out, List.drop_left, List.take_of_length_le (by omega)]
      rw [hBR] at CB
      have HBel := hide ST1.out.below
      go_wp2_with fail
      refine CB.out.mono ?_
      rintro e w4 ⟨v4, he4, hown4, hcur4, hg4⟩
      obtain ⟨a4, c4, hv4⟩ := own_form hown4
      subst hv4
      subst he4
      have hb4 : Below w.heap.size w w4 := HBel.out.grown hg4 HBel.out.size (fun k hk => by cases hk; exact HG.out)
      have r4 := own_row_u8 hown4 HR.out.u8
      have r4' := HR.out.below hb4
      have HB4 := hide hb4
      have HC4 := hide hcur4
      have S4 := hide (same_true a4 ra rn c4 rc R w4 r4 r4' (by omega))
      clear hb4 r4 r4' hcur4 hg4 hown4 CB hBR ST1 HN HW HT HB HP
      go_wp2_with fail
      refine S4.out.mono ?_
      rintro e w5 ⟨rfl, m5, hw5⟩
      have HC5 := hide (HC4.out.below (below_drewN (Below.refl _ _) m5))
      have HB5 := hide (below_drewN HB4.out m5)
      rw [← hw5] at HC5 HB5
      clear hw5 S4 HC4 HB4
      go_wp2_with fail
      refine (left_any g _ c3 _ a3 w5 HC5.out.cell0 HC5.out.cell1 HC5.out.le HC5.out.reach).mono ?_
      rintro e w6 ⟨rfl, m6, hw6⟩
      have HB6 := hide (below_drewN HB5.out m6)
      rw [← hw6] at HB6
      clear hw6 HC5 HB5
      have hz0 : ((T.length + rn : Nat) : Int) - ((T.length + rn : Nat) : Int) = 0 := Int.sub_self _
      rw [hz0]
      have R6 := hide (HR.out.below HB6.out)
      have u1 := ru_any ra rn rc t R w6 R6.out (by omega)
      have u2 := rv_any ra rn rc t R w6 R6.out (by omega)
      have hbd := rdAt_bd R t HR.out.u8
      have hinv : ∀ tN : Nat, t = tN → ∀ x q, rdAt R t = (x, q, 0) → (R.drop tN).take (q - tN).toNat = enc x.toNat ∧ (tN : Int) < q ∧ q ≤ R.length := by
        intro tN htN x q h
        subst htN
        refine ⟨(rdAt_inv R tN x q HR.out.u8 h).1, ?_⟩
        have := rdAt_place R tN (by rw [h])
        rw [h] at this
        exact this
      have hneg : rdAt R t = rdAt R t → (rdAt R t).2.2 = 0 → 0 ≤ t := by
        intro _ h
        by_cases h0 : 0 ≤ t
        · exact h0
        · rw [rdAt_bad (.inl (by omega))] at h; simp at h
      unfold rvAt at u2
      generalize rdAt R t = qq at u1 u2 hbd hinv hneg
      obtain ⟨x, q, f⟩ := qq
      simp only [out3] at u1 u2
      replace hbd : 0 ≤ x ∧ x ≤ 18446744073709551615 ∧ (f ≠ 0 → x = 0 ∧ q = 0) := hbd
      replace hneg : f = 0 → 0 ≤ t := hneg rfl
      have U1 := hide u1
      have U2 := hide u2
      have HI := hide hinv
      clear u1 u2 hinv
      by_cases hf : f = 0
      · subst hf
        obtain ⟨tN, htN⟩ := Int.eq_ofNat_of_zero_le (hneg rfl)
        obtain ⟨hE, hq1, hq2⟩ := HI.out tN htN x q rfl
        obtain ⟨qN, hqN⟩ := Int.eq_ofNat_of_zero_le (show 0 ≤ q by omega)
        subst hqN
        subst htN
        rw [show ((qN : Int) - (tN : Int)).toNat = qN - tN by omega] at hE
        obtain ⟨hx0, hx1, _⟩ := hbd
        obtain ⟨b, off, hra, _⟩ := HR.out.cells.resolve_left (by omega)
        subst hra
        obtain ⟨z1, z2⟩ := zag_bd x hx0 hx1
        have EZ := hide (show enc (zig (zag x)).toNat = (R.drop tN).take (qN - tN) by rw [zig_zag x hx0]; exact hE.symm)
        have EX := hide hE.symm
        have SUB := hide (HR.out.sub (t := tN) (l := qN - tN) (by omega) (by omega))
        have HEl : Hid (((R.drop tN).take (qN - tN)).length = qN - tN) := by show _ = _; rw [List.length_take, List.length_drop]; omega
        generalize (R.drop tN).take (qN - tN) = E at EX EZ SUB HEl
        have hzz := zig_zag x hx0
        generalize zag x = mz at z1 z2 EZ hzz U2
        have HZ := hide hzz
        have hA : 0 ≤ (tN : Int) := by omega
        have hB : (tN : Int) ≤ (qN : Int) := by omega
        have hD : (qN : Int) ≤ (rc : Int) := by omega
        have hC : ¬ rc = tN := by omega
        have hq2' : (qN : Int) ≤ (rn : Int) := by omega
        have g1 : decide ((tN : Int) < (qN : Int)) = true := by simpa using hq1
        have g2 : decide ((qN : Int) ≤ (rn : Int)) = true := by simpa using hq2'
        clear HI hneg hE hzz hr0 R6
        go_wp2_with fail
        refine U1.out.mono ?_
        rintro e w7 ⟨rfl, hw7⟩
        subst hw7
        go_wp2_with fail
        refine U2.out.mono ?_
        rintro e w8 ⟨rfl, hw8⟩
        subst hw8
        go_wp2_with fail
        clear U1 U2
        go_region_held3 (fun _ => True) (exact trivial) (first
          | (go_at_call 24; refine (uvE x _ hx0 hx1 E (qN - tN) EX.out HEl.out).mono ?_; rintro e w9 ⟨a9, c9, rfl, hr9, hb9⟩; have bb9 := Below.on (by exact HB6.out.drew) hb9)
          | (go_at_call_of 17 (a9); refine (same_true _ _ _ _ _ E _ (SUB.out.below bb9) hr9 (by omega)).mono ?_; rintro e w10 ⟨rfl, m10, rfl⟩)
          | (go_at_call 27; refine (vrE mz _ z1 z2 E (qN - tN) EZ.out HEl.out).mono ?_; rintro e w11 ⟨a11, c11, rfl, hr11, hb11⟩; have bb11 := Below.on (by exact below_drewN bb9 m10) hb11)
          | (go_at_call_of 17 (a11); refine (same_true _ _ _ _ _ E _ (SUB.out.below bb11) hr11 (by omega)).mono ?_; rintro e w12 ⟨rfl, m12, rfl⟩)
          | (go_at_call 10; refine (zig_any mz _ z1 z2).mono ?_; rintro e w13 ⟨rfl, rfl⟩; rw [HZ.out]))
        go_wp2
        go_ret
        exact ⟨rfl, below_drewN bb11 m12⟩
      · obtain ⟨rfl, rfl⟩ := hbd.2.2 hf
        have hfb : (f != 0) = true := by simp [hf]
        rw [zag_zero] at U2
        clear HI hbd hneg hf
        go_wp2_with fail
        refine U1.out.mono ?_
        rintro e w7 ⟨rfl, hw7⟩
        subst hw7
        go_wp2_with fail
        refine U2.out.mono ?_
        rintro e w8 ⟨rfl, hw8⟩
        subst hw8
        go_wp2
        go_ret
        exact ⟨rfl, HB6.out⟩
end Go.Proofs.Ytdjampgnpiedeaa
