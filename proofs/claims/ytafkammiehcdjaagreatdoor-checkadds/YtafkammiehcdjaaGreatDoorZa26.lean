import Derived.Test.YtafkammiehcdjaaGreatDoorZa25
import Derived.Deep.RegionHeld3
/-
  The document's questions: begun, joined, writes, reads, Due.
-/
namespace Go.Proofs.YtafkammiehcdjaaGreatDoor
open Go.RowKit Go.Maps
set_option linter.unusedVariables false
theorem rbegun_any (ad : Option Addr) (n c : Nat) (es : List E6.Ev) (w : World) (hr : E6.ERow w ad n es) (hn : (n : Int) ≤ 1048576) (g : Int) (h0 : 0 ≤ g) (h1 : g ≤ 65535) :
    Calls Tryz.prog 100 #[.slice ad n c, .int .i64 g] w fun e w' => e = .returned (.bool (bgT (es.map me) g)) ∧ w' = w := by
  have hw1 : IntKind.u64.wrap g = g := by rw [IntKind.wrap_u64]; omega
  have HC := hide (rnamed_any ad n c es w hr hn 7 g)
  obtain ⟨R, hR⟩ : ∃ R, R = bgT (es.map me) g := ⟨_, rfl⟩
  rw [← hR]
  by_cases hg : g = 0
  · have hb := beq_t hg
    have H9 : Hid (R = true) := hide (by rw [hR]; unfold bgT; rw [decide_eq_true hg]; rfl)
    clear hr hR hg
    go_enter Tryz.func100, Tryz.ntmps100
    go_wp2
    go_ret
    exact ⟨by rw [H9.out]; rfl, rfl⟩
  · have hb := beq_f hg
    have H9 : Hid (R = nmd (es.map me) 7 g) := hide (by rw [hR]; unfold bgT; rw [decide_eq_false hg]; rfl)
    clear hr hR hg
    go_enter Tryz.func100, Tryz.ntmps100
    go_wp2_with fail
    refine HC.out.mono ?_
    rintro e w1 ⟨rfl, rfl⟩
    rw [← H9.out]
    clear HC H9
    go_wp2
    go_ret
    exact ⟨rfl, rfl⟩
theorem rjoined_any (ad : Option Addr) (n c : Nat) (es : List E6.Ev) (w : World) (hr : E6.ERow w ad n es) (hn : (n : Int) ≤ 1048576) (g : Int) (h0 : 0 ≤ g) (h1 : g ≤ 65535) :
    Calls Tryz.prog 101 #[.slice ad n c, .int .i64 g] w fun e w' => e = .returned (.bool (nmd (es.map me) 8 g)) ∧ w' = w := by
  have hw1 : IntKind.u64.wrap g = g := by rw [IntKind.wrap_u64]; omega
  have HC := hide (rnamed_any ad n c es w hr hn 8 g)
  generalize nmd (es.map me) 8 g = R at HC ⊢
  clear hr
  go_enter Tryz.func101, Tryz.ntmps101
  go_wp2_with fail
  refine HC.out.mono ?_
  rintro e w1 ⟨rfl, rfl⟩
  clear HC
  go_wp2
  go_ret
  exact ⟨rfl, rfl⟩
theorem rsends_any (ad : Option Addr) (n c : Nat) (es : List E6.Ev) (w : World) (hr : E6.ERow w ad n es) (hn : (n : Int) ≤ 1048576) (ob : Int) :
    Calls Tryz.prog 136 #[.slice ad n c, .int .u64 ob] w fun e w' => e = .returned (.int .i64 (cnA (es.map me) 10 ob : Int)) ∧ w' = w := by
  have HC := hide (rcount_any ad n c es w hr hn (-1) 10 ob)
  rw [cnX_all] at HC
  generalize cnA (es.map me) 10 ob = R at HC ⊢
  clear hr
  go_enter Tryz.func136, Tryz.ntmps136
  go_wp2_with fail
  refine HC.out.mono ?_
  rintro e w1 ⟨rfl, rfl⟩
  clear HC
  go_wp2
  go_ret
  exact ⟨rfl, rfl⟩
theorem rrecvs_any (ad : Option Addr) (n c : Nat) (es : List E6.Ev) (w : World) (hr : E6.ERow w ad n es) (hn : (n : Int) ≤ 1048576) (ob : Int) :
    Calls Tryz.prog 140 #[.slice ad n c, .int .u64 ob] w fun e w' => e = .returned (.int .i64 (cnT (es.map me) 12 ob 1 : Int)) ∧ w' = w := by
  have HC := hide (rtold_any ad n c es w hr hn 12 ob 1)
  generalize cnT (es.map me) 12 ob 1 = R at HC ⊢
  clear hr
  go_enter Tryz.func140, Tryz.ntmps140
  go_wp2_with fail
  refine HC.out.mono ?_
  rintro e w1 ⟨rfl, rfl⟩
  clear HC
  go_wp2
  go_ret
  exact ⟨rfl, rfl⟩
theorem lt_cast {a b : Nat} : decide ((a : Int) < b) = decide (a < b) := by
  by_cases h : a < b
  · rw [decide_eq_true h, decide_eq_true (by omega)]
  · rw [decide_eq_false h, decide_eq_false (by omega)]
theorem rwrites_any (ad : Option Addr) (n c : Nat) (es : List E6.Ev) (w : World) (hr : E6.ERow w ad n es) (hn : (n : Int) ≤ 1048576) (g ob : Int) (h0 : 0 ≤ g) :
    Calls Tryz.prog 107 #[.slice ad n c, .int .i64 g, .int .u64 ob] w fun e w' => e = .returned (.bool (wrs (es.map me) g ob)) ∧ w' = w := by
  have HC := hide (rcount_any ad n c es w hr hn g 3 ob)
  have HD := hide (rcount_any ad n c es w hr hn g 4 ob)
  rw [cnX_g h0] at HC HD
  unfold wrs
  generalize cnG (es.map me) g 3 ob = A at HC ⊢
  generalize cnG (es.map me) g 4 ob = B at HD ⊢
  obtain ⟨R, hR⟩ : ∃ R, R = decide (B < A) := ⟨_, rfl⟩
  rw [← hR]
  have h9 : decide ((B : Int) < A) = R := by rw [hR]; exact lt_cast
  clear hr hR
  go_enter Tryz.func107, Tryz.ntmps107
  go_wp2_with fail
  refine HC.out.mono ?_
  rintro e w1 ⟨rfl, rfl⟩
  clear HC
  go_wp2_with fail
  refine HD.out.mono ?_
  rintro e w1 ⟨rfl, rfl⟩
  clear HD
  go_wp2
  go_ret
  first
    | exact ⟨rfl, rfl⟩
    | (refine ⟨?_, rfl⟩; rw [← h9]; first | rfl | (congr 2; simp))
theorem rreads_any (ad : Option Addr) (n c : Nat) (es : List E6.Ev) (w : World) (hr : E6.ERow w ad n es) (hn : (n : Int) ≤ 1048576) (g ob : Int) (h0 : 0 ≤ g) :
    Calls Tryz.prog 108 #[.slice ad n c, .int .i64 g, .int .u64 ob] w fun e w' => e = .returned (.bool (rds (es.map me) g ob)) ∧ w' = w := by
  have HC := hide (rcount_any ad n c es w hr hn g 5 ob)
  have HD := hide (rcount_any ad n c es w hr hn g 6 ob)
  rw [cnX_g h0] at HC HD
  unfold rds
  generalize cnG (es.map me) g 5 ob = A at HC ⊢
  generalize cnG (es.map me) g 6 ob = B at HD ⊢
  obtain ⟨R, hR⟩ : ∃ R, R = decide (B < A) := ⟨_, rfl⟩
  rw [← hR]
  have h9 : decide ((B : Int) < A) = R := by rw [hR]; exact lt_cast
  clear hr hR
  go_enter Tryz.func108, Tryz.ntmps108
  go_wp2_with fail
  refine HC.out.mono ?_
  rintro e w1 ⟨rfl, rfl⟩
  clear HC
  go_wp2_with fail
  refine HD.out.mono ?_
  rintro e w1 ⟨rfl, rfl⟩
  clear HD
  go_wp2
  go_ret
  first
    | exact ⟨rfl, rfl⟩
    | (refine ⟨?_, rfl⟩; rw [← h9]; first | rfl | (congr 2; simp))
def anyWrP (T : List Me) (o : Int) (x : Me) : Bool := decide (x.k = 3 ∧ x.o = o) && wrs T x.g o
set_option maxRecDepth 4000 in
theorem ranyWrites_any (ad : Option Addr) (n c : Nat) (es : List E6.Ev) (w : World) (hr : E6.ERow w ad n es) (hn : (n : Int) ≤ 1048576) (hg : ∀ e ∈ es, Eb e.g e.k e.o e.a) (ob : Int) :
    Calls Tryz.prog 137 #[.slice ad n c, .int .u64 ob] w fun e w' => e = .returned (.bool (anyWr (es.map me) ob)) ∧ w' = w := by
  obtain ⟨R, hR⟩ : ∃ R, R = anyWr (es.map me) ob := ⟨_, rfl⟩
  rw [← hR]
  have HR : Hid (R = (es.map me).any (anyWrP (es.map me) ob)) := hide hR
  have HE := hide hr
  have HG := hide hg
  clear hr hg hR
  go_enter Tryz.func137, Tryz.ntmps137
  go_wp2
  go_loopw [5] (fun i wr => ∃ (j : Nat), j ≤ n ∧ i = .int .i64 j ∧ (Tj es j).any (anyWrP (es.map me) ob) = false ∧ wr = w) (fun i _ => n - (intOf i).toNat)
  case atStart => exact ⟨0, Nat.zero_le _, rfl, by rw [Tj_zero]; rfl, rfl⟩
  case round =>
    obtain ⟨j, hj, rfl, hN, rfl⟩ := hrel
    by_cases hlt : j < n
    · have hjI : (j : Int) < n := by omega
      have HC := hide fun g (h : 0 ≤ g) => rwrites_any ad n c es wr HE.out hn g ob h
      obtain ⟨b, off, e, rfl, hej, c0, c1, c2, c3, c4, hs⟩ := HE.out.at hlt
      have HS : Hid ((Tj es (j + 1)).any (anyWrP (es.map me) ob) = anyWrP (es.map me) ob (me e)) := hide (by rw [Tj_succ hej, List.any_append, hN]; simp)
      have HF : Hid (anyWrP (es.map me) ob (me e) = true → R = true) := hide (fun h1 => by rw [HR.out, Tj_split hej, List.any_append, List.any_cons, ← Tj_split hej, h1]; simp)
      have hb := HG.out e (List.mem_of_getElem? hej)
      have HCe := hide (HC.out e.g hb.ok.g0)
      clear hs hej hN hb HC
      by_cases hk : e.k = 3
      · have hkb := beq_t hk
        by_cases ha : e.o = ob
        · have hab := beq_t ha
          obtain ⟨Y, hY⟩ : ∃ Y, Y = wrs (es.map me) e.g ob := ⟨_, rfl⟩
          rw [← hY] at HCe
          have hP : anyWrP (es.map me) ob (me e) = Y := by
            unfold anyWrP
            rw [decide_eq_true (show (me e).k = 3 ∧ (me e).o = ob from ⟨hk, ha⟩), hY]; rfl
          have HP := hide hP
          clear hY hP
          go_wp2_with fail
          refine HCe.out.mono ?_
          rintro r w1 ⟨rfl, rfl⟩
          clear HCe
          cases Y with
          | true =>
            have H9 : Hid (R = true) := hide (HF.out HP.out)
            clear HF HS HR HP
            go_wp2
            go_ret
            exact ⟨by rw [H9.out]; rfl, rfl⟩
          | false =>
            have h9 := HS.out.trans HP.out
            clear HF HS HP
            go_wp2
            exact ⟨⟨j + 1, by omega, by go_num, h9, by first | trivial | rfl⟩, by simp [intOf]; omega⟩
        · have hab := beq_f ha
          have h9 := HS.out.trans (show anyWrP (es.map me) ob (me e) = false by unfold anyWrP; rw [decide_eq_false (fun q => ha q.2)]; rfl)
          clear HF HS HCe
          go_wp2
          exact ⟨⟨j + 1, by omega, by go_num, h9, by first | trivial | rfl⟩, by simp [intOf]; omega⟩
      · have hkb := beq_f hk
        have h9 := HS.out.trans (show anyWrP (es.map me) ob (me e) = false by unfold anyWrP; rw [decide_eq_false (fun q => hk q.1)]; rfl)
        clear HF HS HCe
        go_wp2
        exact ⟨⟨j + 1, by omega, by go_num, h9, by first | trivial | rfl⟩, by simp [intOf]; omega⟩
    · have h9 : j = n := by omega
      subst h9
      rw [Tj_all HE.out.len] at hN
      have H9 : Hid (R = false) := hide (HR.out.trans hN)
      clear hN HR
      go_wp2
      go_ret
      exact ⟨by rw [H9.out]; rfl, rfl⟩
def anyRdP (T : List Me) (o : Int) (x : Me) : Bool := decide (x.k = 5 ∧ x.o = o) && rds T x.g o
set_option maxRecDepth 4000 in
theorem ranyReads_any (ad : Option Addr) (n c : Nat) (es : List E6.Ev) (w : World) (hr : E6.ERow w ad n es) (hn : (n : Int) ≤ 1048576) (hg : ∀ e ∈ es, Eb e.g e.k e.o e.a) (ob : Int) :
    Calls Tryz.prog 138 #[.slice ad n c, .int .u64 ob] w fun e w' => e = .returned (.bool (anyRd (es.map me) ob)) ∧ w' = w := by
  obtain ⟨R, hR⟩ : ∃ R, R = anyRd (es.map me) ob := ⟨_, rfl⟩
  rw [← hR]
  have HR : Hid (R = (es.map me).any (anyRdP (es.map me) ob)) := hide hR
  have HE := hide hr
  have HG := hide hg
  clear hr hg hR
  go_enter Tryz.func138, Tryz.ntmps138
  go_wp2
  go_loopw [5] (fun i wr => ∃ (j : Nat), j ≤ n ∧ i = .int .i64 j ∧ (Tj es j).any (anyRdP (es.map me) ob) = false ∧ wr = w) (fun i _ => n - (intOf i).toNat)
  case atStart => exact ⟨0, Nat.zero_le _, rfl, by rw [Tj_zero]; rfl, rfl⟩
  case round =>
    obtain ⟨j, hj, rfl, hN, rfl⟩ := hrel
    by_cases hlt : j < n
    · have hjI : (j : Int) < n := by omega
      have HC := hide fun g (h : 0 ≤ g) => rreads_any ad n c es wr HE.out hn g ob h
      obtain ⟨b, off, e, rfl, hej, c0, c1, c2, c3, c4, hs⟩ := HE.out.at hlt
      have HS : Hid ((Tj es (j + 1)).any (anyRdP (es.map me) ob) = anyRdP (es.map me) ob (me e)) := hide (by rw [Tj_succ hej, List.any_append, hN]; simp)
      have HF : Hid (anyRdP (es.map me) ob (me e) = true → R = true) := hide (fun h1 => by rw [HR.out, Tj_split hej, List.any_append, List.any_cons, ← Tj_split hej, h1]; simp)
      have hb := HG.out e (List.mem_of_getElem? hej)
      have HCe := hide (HC.out e.g hb.ok.g0)
      clear hs hej hN hb HC
      by_cases hk : e.k = 5
      · have hkb := beq_t hk
        by_cases ha : e.o = ob
        · have hab := beq_t ha
          obtain ⟨Y, hY⟩ : ∃ Y, Y = rds (es.map me) e.g ob := ⟨_, rfl⟩
          rw [← hY] at HCe
          have hP : anyRdP (es.map me) ob (me e) = Y := by
            unfold anyRdP
            rw [decide_eq_true (show (me e).k = 5 ∧ (me e).o = ob from ⟨hk, ha⟩), hY]; rfl
          have HP := hide hP
          clear hY hP
          go_wp2_with fail
          refine HCe.out.mono ?_
          rintro r w1 ⟨rfl, rfl⟩
          clear HCe
          cases Y with
          | true =>
            have H9 : Hid (R = true) := hide (HF.out HP.out)
            clear HF HS HR HP
            go_wp2
            go_ret
            exact ⟨by rw [H9.out]; rfl, rfl⟩
          | false =>
            have h9 := HS.out.trans HP.out
            clear HF HS HP
            go_wp2
            exact ⟨⟨j + 1, by omega, by go_num, h9, by first | trivial | rfl⟩, by simp [intOf]; omega⟩
        · have hab := beq_f ha
          have h9 := HS.out.trans (show anyRdP (es.map me) ob (me e) = false by unfold anyRdP; rw [decide_eq_false (fun q => ha q.2)]; rfl)
          clear HF HS HCe
          go_wp2
          exact ⟨⟨j + 1, by omega, by go_num, h9, by first | trivial | rfl⟩, by simp [intOf]; omega⟩
      · have hkb := beq_f hk
        have h9 := HS.out.trans (show anyRdP (es.map me) ob (me e) = false by unfold anyRdP; rw [decide_eq_false (fun q => hk q.1)]; rfl)
        clear HF HS HCe
        go_wp2
        exact ⟨⟨j + 1, by omega, by go_num, h9, by first | trivial | rfl⟩, by simp [intOf]; omega⟩
    · have h9 : j = n := by omega
      subst h9
      rw [Tj_all HE.out.len] at hN
      have H9 : Hid (R = false) := hide (HR.out.trans hN)
      clear hN HR
      go_wp2
      go_ret
      exact ⟨by rw [H9.out]; rfl, rfl⟩
end Go.Proofs.YtafkammiehcdjaaGreatDoor
/-
  The document's Due.
-/
namespace Go.Proofs.YtafkammiehcdjaaGreatDoor
open Go.RowKit Go.Maps
set_option linter.unusedVariables false
theorem erow_cut {w : World} {a : Option Addr} {n : Nat} {es : List E6.Ev} (h : E6.ERow w a n es) {j : Nat} (hj : j ≤ n) : E6.ERow w a j (es.take j) := by
  refine ⟨by rw [List.length_take, h.len]; omega, ?_⟩
  rcases h.cells with h0 | ⟨b, off, e, hc⟩
  · exact .inl (by omega)
  · refine .inr ⟨b, off, e, fun i f hf => hc i f ?_⟩
    rw [List.getElem?_take] at hf
    split at hf
    · exact hf
    · cases hf
def dueV (T : List Me) (g : Int) : Int × Int × Bool := match dueT T g with
  | none => (0, 0, false)
  | some d => (d.1, d.2, true)
theorem dueV_eq {T U : List Me} {g : Int} (h : dueT T g = dueT U g) : dueV T g = dueV U g := by unfold dueV; rw [h]
theorem due_room {es : List E6.Ev} {m : Nat} {e : E6.Ev} (hm : Mde (es.map me)) (he : es[m]? = some e) (hk : e.k = 10) : ∃ r, roomT (Tj es m) e.o = some r ∧ roomI (es.map me) e.o = r := by
  have h1 := hm _ _ _ (Tj_split he) hk
  obtain ⟨r, hr⟩ := Option.isSome_iff_exists.1 h1
  refine ⟨r, hr, ?_⟩
  unfold roomI
  have hr2 : roomT (Tj es m) e.o = some r := hr
  rw [Tj_split he, roomT_append, hr2]
  rfl
set_option maxRecDepth 4000 in
set_option maxHeartbeats 1000000 in
theorem rdue_any (ad : Option Addr) (n c : Nat) (es : List E6.Ev) (w : World) (hr : E6.ERow w ad n es) (hn : (n : Int) ≤ 1048576) (hc : (n : Int) ≤ c) (hg : ∀ e ∈ es, Eb e.g e.k e.o e.a) (hm : Mde (es.map me)) (g : Int) :
    Calls Tryz.prog 102 #[.slice ad n c, .int .i64 g] w fun e w' => e = .returned (.tuple #[.int .u64 (dueV (es.map me) g).1, .int .i64 (dueV (es.map me) g).2.1, .bool (dueV (es.map me) g).2.2]) ∧ Below w.heap.size w w' := by
  obtain ⟨R, hR⟩ : ∃ R, R = dueV (es.map me) g := ⟨_, rfl⟩
  rw [← hR]
  have HR : Hid (R = dueV (Tj es n) g) := hide (by rw [Tj_all hr.len]; exact hR)
  have HE := hide hr
  have HG := hide hg
  have HM := hide hm
  clear hr hg hR hm
  go_enter Tryz.func102, Tryz.ntmps102
  go_wp2
  go_loopw [7] (fun i wr => ∃ (j : Nat), j ≤ n ∧ i = .int .i64 ((j : Int) - 1) ∧ R = dueV (Tj es j) g ∧ wr = w) (fun i _ => (intOf i + 1).toNat)
  case atStart => exact ⟨n, Nat.le_refl _, by go_num, HR.out, rfl⟩
  case round =>
    obtain ⟨j, hj, hi, hN, rfl⟩ := hrel
    cases j with
    | zero =>
      subst hi
      have H9 : Hid (R = (0, 0, false)) := hide (by rw [hN, Tj_zero]; rfl)
      clear hN HR
      go_wp2
      go_ret3
      exact ⟨by rw [H9.out]; rfl, Below.refl _ _⟩
    | succ m =>
      obtain rfl := hi.trans (show (.int .i64 (((m + 1 : Nat) : Int) - 1) : Value) = .int .i64 (m : Int) by rw [show ((m + 1 : Nat) : Int) - 1 = m by omega])
      clear hi
      have hmI : (m : Int) < n := by omega
      have hm0 : decide ((0 : Int) ≤ m) = true := decide_eq_true (by omega)
      have hm1 : (m : Int) + 1 ≤ c := by omega
      have hm2 : (m : Int) ≤ 1048576 := by omega
      have HCr := hide fun ob => rroom_any ad n c es wr HE.out hn HG.out ob
      have HSd := hide fun ob => rsends_any ad (m + 1) c (es.take (m + 1)) wr.drew ((erow_cut HE.out hj).bel (Below.refl _ _).drew) (by omega) ob
      obtain ⟨b, off, e, rfl, hej, c0, c1, c2, c3, c4, hs⟩ := HE.out.at (i := m) (by omega)
      have hD : R = dueV (Tj es m ++ [me e]) g := by rw [hN, Tj_succ hej]
      have HD := hide hD
      have HSn := hide (dueT_snoc (T := Tj es m) (e := me e) (g := g))
      have HRm := hide fun hk => due_room HM.out hej hk
      have HCn : Hid (e.k = 10 → cnA ((es.take (m + 1)).map me) 10 e.o = cnA (Tj es m) 10 e.o + 1) := hide (fun hk => by
        have h1 := cnA_snoc (T := Tj es m) (e := me e) (k := 10) (o := e.o)
        rw [← Tj_succ hej, if_pos (show (me e).k = 10 ∧ (me e).o = e.o from ⟨hk, rfl⟩)] at h1
        exact h1)
      have HCe := hide (HCr.out e.o)
      have HSe := hide (HSd.out e.o)
      clear hs hej hN hD HCr HSd
      by_cases hgg : e.g = g
      · have hgb := beq_t hgg
        by_cases hk : e.k = 10
        · have hkb := bne_f hk
          obtain ⟨r, hr1, hr2⟩ := HRm.out hk
          rw [hr2] at HCe
          have HR1 := hide hr1
          clear hr1 hr2 HRm
          go_wp2_with fail
          refine HCe.out.mono ?_
          rintro z w1 ⟨rfl, hw1⟩
          obtain rfl : wr = w1 := hw1.symm
          clear HCe
          by_cases h0 : r = 0
          · have hrb := bne_f h0
            have HB0 := hide (Below.refl wr.heap.size wr)
            have HBd := hide ((Below.refl wr.heap.size wr).drew)
            have HSx : Hid (∀ X, Below wr.heap.size wr X → X.cell? ⟨b, off + m * 5 + 2, none⟩ = some (.int .u64 e.o)) := hide (fun X hX => E6.cell_bel c2 hX)
            have H9 : Hid (R = (e.o, (cnA ((es.take (m + 1)).map me) 10 e.o : Int), true)) := hide (by
              rw [HD.out]
              unfold dueV
              rw [HSn.out, if_pos (show (me e).g = g from hgg), if_pos (show (me e).k = 10 ∧ roomT (Tj es m) (me e).o = some 0 from ⟨hk, HR1.out.trans (congrArg some h0)⟩), HCn.out hk]
              rfl)
            generalize cnA ((es.take (m + 1)).map me) 10 e.o = NN at HSe H9
            have hx1 : IntKind.i64.wrap ((m : Int) + 1) = (m : Int) + 1 := by rw [IntKind.wrap_i64]; omega
            have hx3 : (0 : Int) ≤ (m : Int) + 1 := by omega
            have hx5 : ((m : Int) + 1).toNat = m + 1 := by omega
            clear HD HSn HR1 HCn h0 hk hgg
            go_wp2_with fail
            go_region_held3 (fun X => X.cell? ⟨b, off + m * 5 + 2, none⟩ = some (.int .u64 e.o))
              (first | with_reducible exact HSx.out _ HB0.out | with_reducible exact HSx.out _ HBd.out | with_reducible exact HSx.out _ HB7.out)
              (first | (go_at_call 136; go_must (refine HSe.out.mono ?_; rintro e9 w7 ⟨rfl, h7⟩; have HB7 : Hid (Below wr.heap.size wr w7) := hide (by rw [h7]; exact (Below.refl _ _).drew); clear h7)))
            go_wp2
            go_ret3
            exact ⟨by rw [H9.out]; rfl, HB7.out⟩
          · have hrb := bne_t h0
            have H9 : Hid (R = (0, 0, false)) := hide (by
              rw [HD.out]
              unfold dueV
              rw [HSn.out, if_pos (show (me e).g = g from hgg), if_neg (show ¬ ((me e).k = 10 ∧ roomT (Tj es m) (me e).o = some 0) from fun q => h0 (Option.some.inj (HR1.out.symm.trans q.2)))])
            clear HD HSn HR1 HCn h0 hk hgg HSe HR
            go_wp2
            go_ret3
            exact ⟨by rw [H9.out]; rfl, Below.refl _ _⟩
        · have hkb := bne_t hk
          have H9 : Hid (R = (0, 0, false)) := hide (by
            rw [HD.out]
            unfold dueV
            rw [HSn.out, if_pos (show (me e).g = g from hgg), if_neg (show ¬ ((me e).k = 10 ∧ roomT (Tj es m) (me e).o = some 0) from fun q => hk q.1)])
          clear HD HSn HRm HCn hk hgg HSe HCe HR
          go_wp2
          go_ret3
          exact ⟨by rw [H9.out]; rfl, Below.refl _ _⟩
      · have hgb := beq_f hgg
        have h9 : R = dueV (Tj es m) g := by
          rw [HD.out]
          exact dueV_eq (by rw [HSn.out, if_neg (show ¬ (me e).g = g from hgg)])
        clear HD HSn HRm HCn hgg HSe HCe HR
        go_wp2
        exact ⟨⟨m, by omega, by go_num, h9, by first | trivial | rfl⟩, by simp [intOf]⟩
end Go.Proofs.YtafkammiehcdjaaGreatDoor
/-
  The document's Zag, counter, lives, overlap.
-/
namespace Go.Proofs.YtafkammiehcdjaaGreatDoor
open Go.RowKit Go.Maps
set_option linter.unusedVariables false
theorem rzag_any (a : Int) (w : World) (h1 : 0 ≤ a) (h2 : a ≤ 4294967295) :
    Calls Tryz.prog 142 #[.int .u64 a] w fun e w' => e = .returned (.int .i64 (mzag a)) ∧ w' = w := by
  obtain ⟨R, hR⟩ : ∃ R, R = mzag a := ⟨_, rfl⟩
  rw [← hR]
  have e1 : a.tmod 2 = a % 2 := Int.tmod_eq_emod_of_nonneg h1
  have e2 : a.tdiv 2 = a / 2 := Int.tdiv_eq_ediv_of_nonneg h1
  have hw0 : IntKind.u64.wrap (a % 2) = a % 2 := by rw [IntKind.wrap_u64]; omega
  have hw1 : IntKind.u64.wrap (a / 2) = a / 2 := by rw [IntKind.wrap_u64]; omega
  have hw2 : IntKind.i64.wrap (a / 2) = a / 2 := by rw [IntKind.wrap_i64]; omega
  have hw3 : IntKind.i64.wrap (-(a / 2)) = -(a / 2) := by rw [IntKind.wrap_i64]; omega
  have hw4 : IntKind.i64.wrap (-(a / 2) - 1) = -(a / 2) - 1 := by rw [IntKind.wrap_i64]; omega
  by_cases h : a % 2 = 0
  · have hb := beq_t h
    have H9 : Hid (R = a / 2) := hide (by rw [hR]; exact if_pos h)
    clear hR
    go_enter Tryz.func142, Tryz.ntmps142
    go_wp2
    go_ret
    exact ⟨by rw [H9.out]; rfl, rfl⟩
  · have hb := beq_f h
    have H9 : Hid (R = -(a / 2) - 1) := hide (by rw [hR]; exact if_neg h)
    clear hR
    go_enter Tryz.func142, Tryz.ntmps142
    go_wp2
    go_ret
    exact ⟨by rw [H9.out]; rfl, rfl⟩
theorem mzag_bd {a : Int} (h1 : 0 ≤ a) (h2 : a ≤ 4294967295) : -4294967296 ≤ mzag a ∧ mzag a ≤ 4294967296 := by
  unfold mzag; split <;> omega
theorem cnZ_bd {T : List Me} (h : ∀ e ∈ T, e.k = 14 → 0 ≤ e.a ∧ e.a ≤ 4294967295) (o : Int) : -(T.length * 4294967296 : Int) ≤ cnZ T o ∧ cnZ T o ≤ (T.length * 4294967296 : Int) := by
  induction T with
  | nil => exact ⟨Int.le_refl _, Int.le_refl _⟩
  | cons x T ih =>
    have h1 := ih fun e he => h e (List.mem_cons_of_mem _ he)
    rw [cnZ, List.length_cons]
    by_cases hk : x.k = 14 ∧ x.o = o
    · have h2 := h x (List.mem_cons_self ..) hk.1
      have h3 := mzag_bd h2.1 h2.2
      rw [if_pos hk]
      omega
    · rw [if_neg hk]
      omega
set_option maxRecDepth 4000 in
theorem rcounter_any (ad : Option Addr) (n c : Nat) (es : List E6.Ev) (w : World) (hr : E6.ERow w ad n es) (hn : (n : Int) ≤ 1048576) (hg : ∀ e ∈ es, Eb e.g e.k e.o e.a) (ob : Int) :
    Calls Tryz.prog 141 #[.slice ad n c, .int .u64 ob] w fun e w' => e = .returned (.int .i64 (cnZ (es.map me) ob)) ∧ w' = w := by
  have HE := hide hr
  have HG := hide hg
  have HBd : Hid (∀ j, j ≤ n → -4503599627370496 ≤ cnZ (Tj es j) ob ∧ cnZ (Tj es j) ob ≤ 4503599627370496) := hide (fun j hj => by
    have h1 := cnZ_bd (T := Tj es j) (fun e he hk => by
      unfold Tj at he
      obtain ⟨x, hx, rfl⟩ := List.mem_map.1 he
      have h2 := hg x (List.mem_of_mem_take hx)
      exact ⟨h2.ok.a0, h2.ct hk⟩) ob
    rw [Tj_len hr.len hj] at h1
    omega)
  clear hr hg
  go_enter Tryz.func141, Tryz.ntmps141
  go_wp2
  go_loopw [5, 6] (fun m i wr => ∃ (j : Nat), j ≤ n ∧ i = .int .i64 j ∧ m = .int .i64 (cnZ (Tj es j) ob) ∧ wr = w) (fun _ i _ => n - (intOf i).toNat)
  case atStart => exact ⟨0, Nat.zero_le _, rfl, by rw [Tj_zero]; rfl, rfl⟩
  case round =>
    obtain ⟨j, hj, rfl, rfl, rfl⟩ := hrel
    by_cases hlt : j < n
    · have hjI : (j : Int) < n := by omega
      obtain ⟨b, off, e, rfl, hej, c0, c1, c2, c3, c4, hs⟩ := HE.out.at hlt
      have HS : Hid (cnZ (Tj es (j + 1)) ob = cnZ (Tj es j) ob + (if e.k = 14 ∧ e.o = ob then mzag e.a else 0)) := hide (by have h1 := cnZ_snoc (T := Tj es j) (e := me e) (o := ob); rw [← Tj_succ hej] at h1; exact h1)
      have hb := HG.out e (List.mem_of_getElem? hej)
      have hB2 := HBd.out (j + 1) hlt
      clear hs hej
      generalize cnZ (Tj es j) ob = Z at HS ⊢
      by_cases hk : e.k = 14
      · have hkb := beq_t hk
        by_cases ho : e.o = ob
        · have hob := beq_t ho
          have h9 : cnZ (Tj es (j + 1)) ob = Z + mzag e.a := by rw [HS.out, if_pos ⟨hk, ho⟩]
          have HZ := hide (rzag_any e.a wr hb.ok.a0 (hb.ct hk))
          rw [h9] at hB2
          generalize mzag e.a = zz at h9 HZ hB2
          have hw1 : IntKind.i64.wrap (Z + zz) = Z + zz := by rw [IntKind.wrap_i64]; omega
          have H9 := hide h9
          clear HS hb h9 hk ho hB2 HBd
          go_wp2_with fail
          refine HZ.out.mono ?_
          rintro r w1 ⟨rfl, hw9⟩
          obtain rfl : wr = w1 := hw9.symm
          clear HZ
          go_wp2
          exact ⟨⟨j + 1, by omega, by go_num, by rw [H9.out], by first | trivial | rfl⟩, by simp [intOf]; omega⟩
        · have hob := beq_f ho
          have h9 : cnZ (Tj es (j + 1)) ob = Z := by rw [HS.out, if_neg (show ¬ (e.k = 14 ∧ e.o = ob) from fun q => ho q.2)]; omega
          clear HS hb hk ho hB2
          go_wp2
          exact ⟨⟨j + 1, by omega, by go_num, by rw [h9], by first | trivial | rfl⟩, by simp [intOf]; omega⟩
      · have hkb := beq_f hk
        have h9 : cnZ (Tj es (j + 1)) ob = Z := by rw [HS.out, if_neg (show ¬ (e.k = 14 ∧ e.o = ob) from fun q => hk q.1)]; omega
        clear HS hb hk hB2
        go_wp2
        exact ⟨⟨j + 1, by omega, by go_num, by rw [h9], by first | trivial | rfl⟩, by simp [intOf]; omega⟩
    · have h9 : j = n := by omega
      subst h9
      have h8 := Tj_all HE.out.len
      rw [h8]
      go_wp2
      go_ret
      exact ⟨rfl, rfl⟩
theorem drewN_two (w : World) (q r : Nat) : (w.drewN q).drewN r = w.drewN (q + r) := by
  induction r with
  | zero => rfl
  | succ r ih => rw [← World.drew_drewN, ih, World.drew_drewN]; rfl
theorem drew_on {w wr : World} (h : ∃ m, wr = w.drewN m) (r : Nat) : ∃ m, wr.drewN r = w.drewN m := by
  obtain ⟨m, rfl⟩ := h
  exact ⟨m + r, drewN_two w m r⟩
/-- The event lives behind these. -/
def lvB (x : Me) (S : List Me) : Bool := decide (x.k = 20) && !(S.any fun y => decide (y.k = 21 ∧ y.o = x.o ∧ y.a = x.a))
set_option maxRecDepth 4000 in
set_option maxHeartbeats 1000000 in
theorem rlives_any (ad : Option Addr) (n c : Nat) (es : List E6.Ev) (w : World) (hr : E6.ERow w ad n es) (hn : (n : Int) ≤ 1048576) (i : Nat) (x : E6.Ev) (hx : es[i]? = some x) :
    Calls Tryz.prog 144 #[.slice ad n c, .int .i64 (i : Int)] w fun e w' => e = .returned (.bool (lvB (me x) ((es.drop (i + 1)).map me))) ∧ ∃ m, w' = w.drewN m := by
  obtain ⟨R, hR⟩ : ∃ R, R = lvB (me x) ((es.drop (i + 1)).map me) := ⟨_, rfl⟩
  rw [← hR]
  have hin : i < n := by rw [← hr.len]; exact (List.getElem?_eq_some_iff.1 hx).1
  have hiI : (i : Int) < n := by omega
  have hi0 : (0 : Int) ≤ i := by omega
  obtain ⟨b, off, x', ha, hx', c0, c1, c2, c3, c4, hs⟩ := hr.at hin
  rw [hx] at hx'
  cases hx'
  subst ha
  have HR := hide hR
  have HE := hide hr
  have HX : Hid (∀ X, Below w.heap.size w X → X.cell? ⟨b, off + i * 5 + 1, none⟩ = some (.int .i64 x.k) ∧ X.cell? ⟨b, off + i * 5 + 2, none⟩ = some (.int .u64 x.o) ∧ X.cell? ⟨b, off + i * 5 + 3, none⟩ = some (.int .u64 x.a)) := hide (fun X hX => ⟨E6.cell_bel c1 hX, E6.cell_bel c2 hX, E6.cell_bel c3 hX⟩)
  clear hr hR hx hs
  by_cases hk : x.k = 20
  · have hkb := bne_f hk
    have HRk : Hid (R = !(((es.drop (i + 1)).map me).any fun y => decide (y.k = 21 ∧ y.o = x.o ∧ y.a = x.a))) := hide (by
      rw [HR.out]; unfold lvB; rw [decide_eq_true (show (me x).k = 20 from hk)]; rfl)
    have hx1 : IntKind.i64.wrap ((i : Int) + 1) = (i : Int) + 1 := by rw [IntKind.wrap_i64]; omega
    clear HR hk
    go_enter Tryz.func144, Tryz.ntmps144
    go_wp2
    clear c0 c1 c2 c3 c4
    go_loopw [5] (fun q wr => ∃ (j : Nat), i + 1 ≤ j ∧ j ≤ n ∧ q = .int .i64 j ∧ (∀ m y, i < m → m < j → es[m]? = some y → ¬ (y.k = 21 ∧ y.o = x.o ∧ y.a = x.a)) ∧ ∃ m, wr = w.drewN m) (fun q _ => n - (intOf q).toNat)
    case atStart => exact ⟨i + 1, Nat.le_refl _, hin, by go_num, fun m y h1 h2 => by omega, 0, rfl⟩
    case round =>
      obtain ⟨j, hj0, hj, rfl, hN, qq, hbl⟩ := hrel
      have HDr : Hid (∃ m, wr = w.drewN m) := hide ⟨qq, hbl⟩
      have HBl : Hid (Below w.heap.size w wr) := hide (by rw [hbl]; exact below_drewN (Below.refl _ _) _)
      have HN := hide hN
      clear hbl hN
      by_cases hlt : j < n
      · have hjI : (j : Int) < n := by omega
        have hj00 : (0 : Int) ≤ j := by omega
        obtain ⟨b', off', e, ha, hej, d0, d1, d2, d3, d4, hs⟩ := (HE.out.bel HBl.out).at hlt
        cases ha
        obtain ⟨c1, c2, c3⟩ := HX.out wr HBl.out
        have HEj := hide hej
        have HS : Hid (¬ (e.k = 21 ∧ e.o = x.o ∧ e.a = x.a) → ∀ m y, i < m → m < j + 1 → es[m]? = some y → ¬ (y.k = 21 ∧ y.o = x.o ∧ y.a = x.a)) := hide (fun hq m y h1 h2 hy => by
          by_cases hmj : m = j
          · subst hmj; rw [HEj.out] at hy; cases hy; exact hq
          · exact HN.out m y h1 (by omega) hy)
        have HF : Hid ((e.k = 21 ∧ e.o = x.o ∧ e.a = x.a) → R = false) := hide (fun hq => by
          rw [HRk.out]
          have : (((es.drop (i + 1)).map me).any fun y => decide (y.k = 21 ∧ y.o = x.o ∧ y.a = x.a)) = true := by
            rw [List.any_eq_true]
            refine ⟨me e, List.mem_map.2 ⟨e, ?_, rfl⟩, decide_eq_true hq⟩
            refine List.mem_of_getElem? (i := j - (i + 1)) ?_
            rw [List.getElem?_drop, show i + 1 + (j - (i + 1)) = j by omega]
            exact HEj.out
          rw [this]; rfl)
        clear hs hej HEj HN
        by_cases hk : e.k = 21
        · have hkb2 := beq_t hk
          by_cases ho : e.o = x.o
          · have hob := beq_t ho
            by_cases ha : e.a = x.a
            · have hab := beq_t ha
              have H9 := hide (HF.out ⟨hk, ho, ha⟩)
              clear HF HS hk ho ha
              go_wp2_with fail
              go_quiet (fail)
              go_wp2
              go_ret
              exact ⟨by rw [H9.out]; rfl, drew_on HDr.out _⟩
            · have hab := beq_f ha
              have H9 := hide (HS.out (fun q => ha q.2.2))
              clear HF HS hk ho ha
              go_wp2_with fail
              go_quiet (fail)
              go_wp2
              exact ⟨⟨j + 1, by omega, by omega, by go_num, H9.out, drew_on HDr.out _⟩, by simp [intOf]; omega⟩
          · have hob := beq_f ho
            have H9 := hide (HS.out (fun q => ho q.2.1))
            clear HF HS hk ho
            go_wp2_with fail
            go_quiet (fail)
            go_wp2
            exact ⟨⟨j + 1, by omega, by omega, by go_num, H9.out, drew_on HDr.out _⟩, by simp [intOf]; omega⟩
        · have hkb2 := beq_f hk
          have H9 := hide (HS.out (fun q => hk q.1))
          clear HF HS hk
          go_wp2_with fail
          go_quiet (fail)
          go_wp2
          exact ⟨⟨j + 1, by omega, by omega, by go_num, H9.out, drew_on HDr.out _⟩, by simp [intOf]; omega⟩
      · have h9 : j = n := by omega
        have H9 : Hid (R = true) := hide (by
          rw [HRk.out]
          have : (((es.drop (i + 1)).map me).any fun y => decide (y.k = 21 ∧ y.o = x.o ∧ y.a = x.a)) = false := by
            rw [List.any_eq_false]
            intro y hy
            obtain ⟨z, hz, rfl⟩ := List.mem_map.1 hy
            obtain ⟨m, hm, hzm⟩ := List.getElem_of_mem hz
            have h1 : es[i + 1 + m]? = some z := by rw [← List.getElem?_drop, List.getElem?_eq_getElem hm, hzm]
            have h2 := (List.getElem?_eq_some_iff.1 h1).1
            rw [HE.out.len] at h2
            have h3 := HN.out (i + 1 + m) z (by omega) (by omega) h1
            exact fun q => h3 (of_decide_eq_true q)
          rw [this]; rfl)
        clear HRk HN
        go_wp2
        go_ret
        exact ⟨by rw [H9.out]; rfl, HDr.out⟩
  · have hkb := bne_t hk
    have H9 : Hid (R = false) := hide (by rw [HR.out]; unfold lvB; rw [decide_eq_false (show ¬ (me x).k = 20 from hk)]; rfl)
    clear HR hk
    go_enter Tryz.func144, Tryz.ntmps144
    go_wp2
    go_ret
    exact ⟨by rw [H9.out]; rfl, 0, rfl⟩
end Go.Proofs.YtafkammiehcdjaaGreatDoor
