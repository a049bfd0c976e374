import Derived.Test.YtafkammiehcdjaaGreatDoorZr04
import Derived.Test.YtafkammiehcdjaaGreatDoorZr40
import Derived.Test.YtafkammiehcdjaaGreatDoorZr31
/-
  Run, told by counts over the events that came.
-/
namespace Go.Proofs.YtafkammiehcdjaaGreatDoor
/-- The first place whose event can't come, and why. -/
def fr : List Me → List Me → Nat → Int × Int
  | _, [], _ => (-1, 0)
  | T, e :: es, i => if rsn T e ≠ 0 then ((i : Int), rsn T e) else fr (T ++ [e]) es (i + 1)
theorem run_fr : ∀ (es : List E6.Ev) (T : List Me) (M : CS) (i : Nat), Rch T M → (∀ e ∈ es, Gdm (me e)) → M.run es i = fr T (es.map me) i := by
  intro es
  induction es with
  | nil => intro T M i _ _; rfl
  | cons e es ih =>
    intro T M i h hg
    have h1 := h.why (hg e (List.mem_cons_self ..))
    rw [CS.run, List.map_cons, fr, h1]
    by_cases hw : rsn T (me e) ≠ 0
    · rw [if_pos hw, if_pos hw]
    · rw [if_neg hw, if_neg hw]
      exact ih _ _ _ (.step h (hg e (List.mem_cons_self ..)) (by rw [h1]; omega)) fun x hx => hg x (List.mem_cons_of_mem _ hx)
theorem chk_arg {g k o a : Int} {ls : List ByteArray} (h : E6.chk g k o a ls = 0) : E6.argB k.toNat a = true := by
  unfold E6.chk at h
  split at h
  · split at h
    · cases h
    · split at h
      · split at h
        · assumption
        · cases h
      · cases h
  · cases h
theorem gdm_of {e : E6.Ev} (h : e.chk = 0) (hok : e.ok) : Gdm (me e) ∧ Eb e.g e.k e.o e.a := by
  have hb : Eb e.g e.k e.o e.a := chk_eb (ls := e.ls) h hok.ho.1 hok.ho.2 hok.ha.1 hok.ha.2
  refine ⟨⟨⟨hb.ok.g0, hb.ok.g1⟩, fun hk => ?_, fun hk => ?_, fun hk => ?_⟩, hb⟩
  · have h1 := chk_arg (g := e.g) (k := e.k) (o := e.o) (a := e.a) (ls := e.ls) h
    have h2 : e.k = 16 := hk
    rw [h2] at h1
    have h3 := of_decide_eq_true h1
    have h4 : e.a ≤ 1 := h3.2
    have := hok.ha
    show e.a = 0 ∨ e.a = 1
    omega
  · have := hb.rc hk; have := hok.ha; show e.a = 0 ∨ e.a = 1; omega
  · exact (hb.al (.inl hk)).1
/-- Each channel was made ahead of what is sent to it. -/
def Mde (T : List Me) : Prop := ∀ P e S, T = P ++ e :: S → e.k = 10 → (roomT P e.o).isSome = true
theorem Rch.mde {T : List Me} {M : CS} (h : Rch T M) : Mde T := by
  induction h with
  | new => intro P e S h; exact absurd h (by simp)
  | @step T M e h0 hg hw ih =>
    intro P x S he hk
    rcases List.eq_nil_or_concat S with rfl | ⟨S', y, rfl⟩
    · have h1 := List.append_inj' he rfl
      obtain ⟨rfl, h2⟩ := h1
      cases h2
      obtain ⟨r, hc⟩ := why_can hw
      have h3 := ask_chan hc.ask (by omega) (by omega)
      have h4 := h0.lkC.ch e.o
      cases hq : roomT T e.o with
      | some _ => rfl
      | none =>
        rw [hq] at h4
        have := h3.2 h4
        omega
    · have h1 : T ++ [e] = (P ++ x :: S') ++ [y] := by rw [he]; simp
      have h2 := List.append_inj' h1 rfl
      exact ih P x S' h2.1 hk
def Tj (es : List E6.Ev) (j : Nat) : List Me := (es.take j).map me
theorem Tj_succ {es : List E6.Ev} {j : Nat} {e : E6.Ev} (he : es[j]? = some e) : Tj es (j + 1) = Tj es j ++ [me e] := by
  obtain ⟨hl, h9⟩ := List.getElem?_eq_some_iff.1 he
  unfold Tj
  rw [List.take_succ_eq_append_getElem hl, h9, List.map_append]
  rfl
theorem Tj_zero (es : List E6.Ev) : Tj es 0 = [] := by unfold Tj; simp
theorem Tj_all {es : List E6.Ev} {n : Nat} (h : es.length = n) : Tj es n = es.map me := by
  unfold Tj; rw [← h, List.take_length]
theorem Tj_len {es : List E6.Ev} {n : Nat} (h : es.length = n) {j : Nat} (hj : j ≤ n) : (Tj es j).length = j := by
  unfold Tj; rw [List.length_map, List.length_take]; omega
theorem Tj_split {es : List E6.Ev} {j : Nat} {e : E6.Ev} (he : es[j]? = some e) : es.map me = Tj es j ++ me e :: (es.drop (j + 1)).map me := by
  obtain ⟨hl, h9⟩ := List.getElem?_eq_some_iff.1 he
  conv => lhs; rw [← List.take_append_drop j es]
  rw [List.map_append, List.drop_eq_getElem_cons hl, h9]
  rfl
/-- How many events there are of a goroutine (below 0: of all), kind and object. -/
def cnX (T : List Me) (g k o : Int) : Nat := if g < 0 then cnA T k o else cnG T g k o
theorem cnX_nil (g k o : Int) : cnX [] g k o = 0 := by unfold cnX; split <;> rfl
theorem cnX_snoc {T : List Me} {e : Me} {g k o : Int} : cnX (T ++ [e]) g k o = cnX T g k o + (if (g < 0 ∨ e.g = g) ∧ e.k = k ∧ e.o = o then 1 else 0) := by
  unfold cnX
  by_cases h : g < 0
  · rw [if_pos h, if_pos h, cnA_snoc]
    congr 1
    by_cases h2 : e.k = k ∧ e.o = o
    · rw [if_pos h2, if_pos ⟨.inl h, h2⟩]
    · rw [if_neg h2, if_neg (fun q => h2 q.2)]
  · rw [if_neg h, if_neg h]
    unfold cnG
    rw [List.countP_append]
    congr 1
    by_cases h2 : e.g = g ∧ e.k = k ∧ e.o = o
    · rw [if_pos ⟨.inr h2.1, h2.2⟩]; simp [h2]
    · rw [if_neg (fun q => h2 ⟨q.1.resolve_left h, q.2⟩)]; simp [h2]
theorem cnX_le (T : List Me) (g k o : Int) : cnX T g k o ≤ T.length := by
  unfold cnX cnA cnG
  split <;> exact List.countP_le_length
theorem cnT_le (T : List Me) (k o a : Int) : cnT T k o a ≤ T.length := List.countP_le_length
theorem cnX_all (T : List Me) (k o : Int) : cnX T (-1) k o = cnA T k o := if_pos (by decide)
theorem cnX_g {T : List Me} {g k o : Int} (h : 0 ≤ g) : cnX T g k o = cnG T g k o := if_neg (by omega)
theorem nmd_append (T U : List Me) (k x : Int) : nmd (T ++ U) k x = (nmd T k x || nmd U k x) := by unfold nmd; rw [List.any_append]
theorem nmd_found {T U : List Me} {e : Me} {k x : Int} (h1 : e.k = k) (h2 : e.a = x) : nmd (T ++ e :: U) k x = true := by
  rw [nmd_append]; unfold nmd; simp [h1, h2]
theorem roomT_append (T U : List Me) (o : Int) : roomT (T ++ U) o = match roomT T o with
    | some r => some r
    | none => roomT U o := by
  induction T with
  | nil => rfl
  | cons x T ih =>
    rw [List.cons_append, roomT, roomT]
    by_cases h : x.k = 9 ∧ x.o = o
    · rw [if_pos h, if_pos h]
    · rw [if_neg h, if_neg h, ih]
end Go.Proofs.YtafkammiehcdjaaGreatDoor
/-
  The document's counts over a trace.
-/
namespace Go.Proofs.YtafkammiehcdjaaGreatDoor
open Go.RowKit Go.Maps
set_option linter.unusedVariables false
theorem beq_t {a b : Int} (h : a = b) : (a == b) = true := by simp [h]
theorem beq_f {a b : Int} (h : ¬ a = b) : (a == b) = false := by simp [h]
theorem bne_t {a b : Int} (h : ¬ a = b) : (a != b) = true := by simp [h]
theorem bne_f {a b : Int} (h : a = b) : (a != b) = false := by simp [h]
set_option maxRecDepth 4000 in
theorem rcount_any (ad : Option Addr) (n c : Nat) (es : List E6.Ev) (w : World) (hr : E6.ERow w ad n es) (hn : (n : Int) ≤ 1048576) (g kd ob : Int) :
    Calls Tryz.prog 139 #[.slice ad n c, .int .i64 g, .int .i64 kd, .int .u64 ob] w fun e w' => e = .returned (.int .i64 (cnX (es.map me) g kd ob : Int)) ∧ w' = w := by
  have HE := hide hr
  clear hr
  go_enter Tryz.func139, Tryz.ntmps139
  go_wp2
  go_loopw [9, 10] (fun m i wr => ∃ (j : Nat), j ≤ n ∧ i = .int .i64 j ∧ m = .int .i64 (cnX (Tj es j) g kd ob : Int) ∧ wr = w) (fun _ i _ => n - (intOf i).toNat)
  case atStart => exact ⟨0, Nat.zero_le _, rfl, by rw [Tj_zero]; rw [cnX_nil]; rfl, rfl⟩
  case round =>
    obtain ⟨j, hj, rfl, rfl, rfl⟩ := hrel
    have hNl : cnX (Tj es j) g kd ob ≤ j := by
      have h1 := cnX_le (Tj es j) g kd ob
      rw [Tj_len HE.out.len hj] at h1
      exact h1
    by_cases hlt : j < n
    · have hjI : (j : Int) < n := by omega
      obtain ⟨b, off, e, rfl, hej, c0, c1, c2, c3, c4, hs⟩ := HE.out.at hlt
      have HS : Hid (cnX (Tj es (j + 1)) g kd ob = cnX (Tj es j) g kd ob + (if (g < 0 ∨ e.g = g) ∧ e.k = kd ∧ e.o = ob then 1 else 0)) := hide (by have h1 := cnX_snoc (T := Tj es j) (e := me e) (g := g) (k := kd) (o := ob); rw [← Tj_succ hej] at h1; exact h1)
      clear hs hej
      generalize cnX (Tj es j) g kd ob = N at HS hNl ⊢
      have hNI : (N : Int) ≤ 1048576 := by omega
      by_cases hg : g < 0
      · have hgb : decide (g < 0) = true := decide_eq_true hg
        by_cases hk : e.k = kd
        · have hkb := beq_t hk
          by_cases ho : e.o = ob
          · have hob := beq_t ho
            have h8 : (g < 0 ∨ e.g = g) ∧ e.k = kd ∧ e.o = ob := ⟨.inl hg, hk, ho⟩
            have h9 : (cnX (Tj es (j + 1)) g kd ob : Int) = N + 1 := by have := HS.out; rw [if_pos h8] at this; omega
            clear HS h8
            go_wp2
            exact ⟨⟨j + 1, by omega, by go_num, by first | rw [h9] | simp only [h9], by first | trivial | rfl⟩, by simp [intOf]; omega⟩
          · have hob := beq_f ho
            have h8 : ¬ ((g < 0 ∨ e.g = g) ∧ e.k = kd ∧ e.o = ob) := fun q => ho q.2.2
            have h9 : (cnX (Tj es (j + 1)) g kd ob : Int) = N := by have := HS.out; rw [if_neg h8] at this; omega
            clear HS h8
            go_wp2
            exact ⟨⟨j + 1, by omega, by go_num, by first | rw [h9] | simp only [h9], by first | trivial | rfl⟩, by simp [intOf]; omega⟩
        · have hkb := beq_f hk
          have h8 : ¬ ((g < 0 ∨ e.g = g) ∧ e.k = kd ∧ e.o = ob) := fun q => hk q.2.1
          have h9 : (cnX (Tj es (j + 1)) g kd ob : Int) = N := by have := HS.out; rw [if_neg h8] at this; omega
          clear HS h8
          go_wp2
          exact ⟨⟨j + 1, by omega, by go_num, by first | rw [h9] | simp only [h9], by first | trivial | rfl⟩, by simp [intOf]; omega⟩
      · have hgb : decide (g < 0) = false := decide_eq_false hg
        by_cases hgg : e.g = g
        · have hge := beq_t hgg
          by_cases hk : e.k = kd
          · have hkb := beq_t hk
            by_cases ho : e.o = ob
            · have hob := beq_t ho
              have h8 : (g < 0 ∨ e.g = g) ∧ e.k = kd ∧ e.o = ob := ⟨.inr hgg, hk, ho⟩
              have h9 : (cnX (Tj es (j + 1)) g kd ob : Int) = N + 1 := by have := HS.out; rw [if_pos h8] at this; omega
              clear HS h8
              go_wp2
              exact ⟨⟨j + 1, by omega, by go_num, by first | rw [h9] | simp only [h9], by first | trivial | rfl⟩, by simp [intOf]; omega⟩
            · have hob := beq_f ho
              have h8 : ¬ ((g < 0 ∨ e.g = g) ∧ e.k = kd ∧ e.o = ob) := fun q => ho q.2.2
              have h9 : (cnX (Tj es (j + 1)) g kd ob : Int) = N := by have := HS.out; rw [if_neg h8] at this; omega
              clear HS h8
              go_wp2
              exact ⟨⟨j + 1, by omega, by go_num, by first | rw [h9] | simp only [h9], by first | trivial | rfl⟩, by simp [intOf]; omega⟩
          · have hkb := beq_f hk
            have h8 : ¬ ((g < 0 ∨ e.g = g) ∧ e.k = kd ∧ e.o = ob) := fun q => hk q.2.1
            have h9 : (cnX (Tj es (j + 1)) g kd ob : Int) = N := by have := HS.out; rw [if_neg h8] at this; omega
            clear HS h8
            go_wp2
            exact ⟨⟨j + 1, by omega, by go_num, by first | rw [h9] | simp only [h9], by first | trivial | rfl⟩, by simp [intOf]; omega⟩
        · have hge := beq_f hgg
          have h8 : ¬ ((g < 0 ∨ e.g = g) ∧ e.k = kd ∧ e.o = ob) := fun q => q.1.elim hg hgg
          have h9 : (cnX (Tj es (j + 1)) g kd ob : Int) = N := by have := HS.out; rw [if_neg h8] at this; omega
          clear HS h8
          go_wp2
          exact ⟨⟨j + 1, by omega, by go_num, by first | rw [h9] | simp only [h9], by first | trivial | rfl⟩, by simp [intOf]; omega⟩
    · have h9 : j = n := by omega
      subst h9
      have h8 := Tj_all HE.out.len
      rw [h8] at hNl ⊢
      go_wp2
      go_ret
      exact ⟨rfl, rfl⟩
set_option maxRecDepth 4000 in
theorem rtold_any (ad : Option Addr) (n c : Nat) (es : List E6.Ev) (w : World) (hr : E6.ERow w ad n es) (hn : (n : Int) ≤ 1048576) (kd ob x : Int) :
    Calls Tryz.prog 143 #[.slice ad n c, .int .i64 kd, .int .u64 ob, .int .u64 x] w fun e w' => e = .returned (.int .i64 (cnT (es.map me) kd ob x : Int)) ∧ w' = w := by
  have HE := hide hr
  clear hr
  go_enter Tryz.func143, Tryz.ntmps143
  go_wp2
  go_loopw [9, 10] (fun m i wr => ∃ (j : Nat), j ≤ n ∧ i = .int .i64 j ∧ m = .int .i64 (cnT (Tj es j) kd ob x : Int) ∧ wr = w) (fun _ i _ => n - (intOf i).toNat)
  case atStart => exact ⟨0, Nat.zero_le _, rfl, by rw [Tj_zero]; rfl, rfl⟩
  case round =>
    obtain ⟨j, hj, rfl, rfl, rfl⟩ := hrel
    have hNl : cnT (Tj es j) kd ob x ≤ j := by
      have h1 := cnT_le (Tj es j) kd ob x
      rw [Tj_len HE.out.len hj] at h1
      exact h1
    by_cases hlt : j < n
    · have hjI : (j : Int) < n := by omega
      obtain ⟨b, off, e, rfl, hej, c0, c1, c2, c3, c4, hs⟩ := HE.out.at hlt
      have HS : Hid (cnT (Tj es (j + 1)) kd ob x = cnT (Tj es j) kd ob x + (if e.k = kd ∧ e.o = ob ∧ e.a = x then 1 else 0)) := hide (by have h1 := cnT_snoc (T := Tj es j) (e := me e) (k := kd) (o := ob) (a := x); rw [← Tj_succ hej] at h1; exact h1)
      clear hs hej
      generalize cnT (Tj es j) kd ob x = N at HS hNl ⊢
      have hNI : (N : Int) ≤ 1048576 := by omega
      by_cases hk : e.k = kd
      · have hkb := beq_t hk
        by_cases ho : e.o = ob
        · have hob := beq_t ho
          by_cases ha : e.a = x
          · have hab := beq_t ha
            have h8 : e.k = kd ∧ e.o = ob ∧ e.a = x := ⟨hk, ho, ha⟩
            have h9 : (cnT (Tj es (j + 1)) kd ob x : Int) = N + 1 := by have := HS.out; rw [if_pos h8] at this; omega
            clear HS h8
            go_wp2
            exact ⟨⟨j + 1, by omega, by go_num, by first | rw [h9] | simp only [h9], by first | trivial | rfl⟩, by simp [intOf]; omega⟩
          · have hab := beq_f ha
            have h8 : ¬ (e.k = kd ∧ e.o = ob ∧ e.a = x) := fun q => ha q.2.2
            have h9 : (cnT (Tj es (j + 1)) kd ob x : Int) = N := by have := HS.out; rw [if_neg h8] at this; omega
            clear HS h8
            go_wp2
            exact ⟨⟨j + 1, by omega, by go_num, by first | rw [h9] | simp only [h9], by first | trivial | rfl⟩, by simp [intOf]; omega⟩
        · have hob := beq_f ho
          have h8 : ¬ (e.k = kd ∧ e.o = ob ∧ e.a = x) := fun q => ho q.2.1
          have h9 : (cnT (Tj es (j + 1)) kd ob x : Int) = N := by have := HS.out; rw [if_neg h8] at this; omega
          clear HS h8
          go_wp2
          exact ⟨⟨j + 1, by omega, by go_num, by first | rw [h9] | simp only [h9], by first | trivial | rfl⟩, by simp [intOf]; omega⟩
      · have hkb := beq_f hk
        have h8 : ¬ (e.k = kd ∧ e.o = ob ∧ e.a = x) := fun q => hk q.1
        have h9 : (cnT (Tj es (j + 1)) kd ob x : Int) = N := by have := HS.out; rw [if_neg h8] at this; omega
        clear HS h8
        go_wp2
        exact ⟨⟨j + 1, by omega, by go_num, by first | rw [h9] | simp only [h9], by first | trivial | rfl⟩, by simp [intOf]; omega⟩
    · have h9 : j = n := by omega
      subst h9
      have h8 := Tj_all HE.out.len
      rw [h8] at hNl ⊢
      go_wp2
      go_ret
      exact ⟨rfl, rfl⟩
set_option maxRecDepth 4000 in
theorem rnamed_any (ad : Option Addr) (n c : Nat) (es : List E6.Ev) (w : World) (hr : E6.ERow w ad n es) (hn : (n : Int) ≤ 1048576) (kd x : Int) :
    Calls Tryz.prog 134 #[.slice ad n c, .int .i64 kd, .int .u64 x] w fun e w' => e = .returned (.bool (nmd (es.map me) kd x)) ∧ w' = w := by
  obtain ⟨R, hR⟩ : ∃ R, R = nmd (es.map me) kd x := ⟨_, rfl⟩
  rw [← hR]
  have HR := hide hR
  have HE := hide hr
  clear hr hR
  go_enter Tryz.func134, Tryz.ntmps134
  go_wp2
  go_loopw [7] (fun i wr => ∃ (j : Nat), j ≤ n ∧ i = .int .i64 j ∧ nmd (Tj es j) kd x = false ∧ wr = w) (fun i _ => n - (intOf i).toNat)
  case atStart => exact ⟨0, Nat.zero_le _, rfl, by rw [Tj_zero]; rfl, rfl⟩
  case round =>
    obtain ⟨j, hj, rfl, hN, rfl⟩ := hrel
    by_cases hlt : j < n
    · have hjI : (j : Int) < n := by omega
      obtain ⟨b, off, e, rfl, hej, c0, c1, c2, c3, c4, hs⟩ := HE.out.at hlt
      have HS : Hid (nmd (Tj es (j + 1)) kd x = (false || decide (e.k = kd ∧ e.a = x))) := hide (by rw [Tj_succ hej, nmd_snoc, hN]; rfl)
      have HF : Hid (e.k = kd → e.a = x → nmd (es.map me) kd x = true) := hide (fun h1 h2 => by rw [Tj_split hej]; exact nmd_found h1 h2)
      clear hs hej hN
      by_cases hk : e.k = kd
      · have hkb := beq_t hk
        by_cases ha : e.a = x
        · have hab := beq_t ha
          have H9 : Hid (R = true) := hide (HR.out.trans (HF.out hk ha))
          clear HF HS HR
          go_wp2
          go_ret
          exact ⟨by rw [H9.out]; rfl, rfl⟩
        · have hab := beq_f ha
          have h9 : nmd (Tj es (j + 1)) kd x = false := by rw [HS.out]; simp [ha]
          clear HF HS
          go_wp2
          exact ⟨⟨j + 1, by omega, by go_num, h9, by first | trivial | rfl⟩, by simp [intOf]; omega⟩
      · have hkb := beq_f hk
        have h9 : nmd (Tj es (j + 1)) kd x = false := by rw [HS.out]; simp [hk]
        clear HF HS
        go_wp2
        exact ⟨⟨j + 1, by omega, by go_num, h9, by first | trivial | rfl⟩, by simp [intOf]; omega⟩
    · have h9 : j = n := by omega
      subst h9
      rw [Tj_all HE.out.len] at hN
      have H9 : Hid (R = false) := hide (HR.out.trans hN)
      clear hN HR
      go_wp2
      go_ret
      exact ⟨by rw [H9.out]; rfl, rfl⟩
def roomI (T : List Me) (o : Int) : Int := (roomT T o).getD (-1)
set_option maxRecDepth 4000 in
theorem rroom_any (ad : Option Addr) (n c : Nat) (es : List E6.Ev) (w : World) (hr : E6.ERow w ad n es) (hn : (n : Int) ≤ 1048576) (hg : ∀ e ∈ es, Eb e.g e.k e.o e.a) (ob : Int) :
    Calls Tryz.prog 135 #[.slice ad n c, .int .u64 ob] w fun e w' => e = .returned (.int .i64 (roomI (es.map me) ob)) ∧ w' = w := by
  obtain ⟨R, hR⟩ : ∃ R, R = roomI (es.map me) ob := ⟨_, rfl⟩
  rw [← hR]
  have HR := hide hR
  have HE := hide hr
  have HG := hide hg
  clear hr hg hR
  go_enter Tryz.func135, Tryz.ntmps135
  go_wp2
  go_loopw [5] (fun i wr => ∃ (j : Nat), j ≤ n ∧ i = .int .i64 j ∧ roomT (Tj es j) ob = none ∧ wr = w) (fun i _ => n - (intOf i).toNat)
  case atStart => exact ⟨0, Nat.zero_le _, rfl, by rw [Tj_zero]; rfl, rfl⟩
  case round =>
    obtain ⟨j, hj, rfl, hN, rfl⟩ := hrel
    by_cases hlt : j < n
    · have hjI : (j : Int) < n := by omega
      obtain ⟨b, off, e, rfl, hej, c0, c1, c2, c3, c4, hs⟩ := HE.out.at hlt
      have HS : Hid (roomT (Tj es (j + 1)) ob = if e.k = 9 ∧ e.o = ob then some e.a else none) := hide (by rw [Tj_succ hej, roomT_snoc, hN]; rfl)
      have HF : Hid (e.k = 9 → e.o = ob → roomI (es.map me) ob = e.a) := hide (fun h1 h2 => by
        unfold roomI
        rw [Tj_split hej, roomT_append, hN]
        show (roomT (me e :: _) ob).getD (-1) = _
        rw [roomT, if_pos ⟨h1, h2⟩]; rfl)
      have hb := HG.out e (List.mem_of_getElem? hej)
      clear hs hej hN
      by_cases hk : e.k = 9
      · have hkb := beq_t hk
        by_cases ha : e.o = ob
        · have hab := beq_t ha
          have H9 : Hid (R = e.a) := hide (HR.out.trans (HF.out hk ha))
          have hm := hb.mc hk
          have h0 := hb.ok.a0
          have hw1 : IntKind.i64.wrap e.a = e.a := by rw [IntKind.wrap_i64]; omega
          clear HF HS HR hb hk ha
          go_wp2
          go_ret
          exact ⟨by rw [H9.out]; rfl, rfl⟩
        · have hab := beq_f ha
          have h9 : roomT (Tj es (j + 1)) ob = none := by rw [HS.out, if_neg (fun q => ha q.2)]
          clear HF HS hb
          go_wp2
          exact ⟨⟨j + 1, by omega, by go_num, h9, by first | trivial | rfl⟩, by simp [intOf]; omega⟩
      · have hkb := beq_f hk
        have h9 : roomT (Tj es (j + 1)) ob = none := by rw [HS.out, if_neg (fun q => hk q.1)]
        clear HF HS hb
        go_wp2
        exact ⟨⟨j + 1, by omega, by go_num, h9, by first | trivial | rfl⟩, by simp [intOf]; omega⟩
    · have h9 : j = n := by omega
      subst h9
      rw [Tj_all HE.out.len] at hN
      have h8 : roomI (es.map me) ob = -1 := by unfold roomI; rw [hN]; rfl
      have H9 : Hid (R = -1) := hide (HR.out.trans h8)
      clear hN h8 HR
      go_wp2
      go_ret
      exact ⟨by rw [H9.out]; rfl, rfl⟩
end Go.Proofs.YtafkammiehcdjaaGreatDoor
