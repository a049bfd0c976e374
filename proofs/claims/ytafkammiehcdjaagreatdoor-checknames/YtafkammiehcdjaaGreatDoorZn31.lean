import Derived.Test.YtafkammiehcdjaaGreatDoorZn29
import Derived.Test.YtafkammiehcdjaaGreatDoorZn22
import Derived.Test.YtafkammiehcdjaaGreatDoorZn30
import Derived.Test.YtafkammiehcdjaaGreatDoorZn10
import Derived.OneCell
/-
  The document's counts over a trace.
-/
namespace Go.Proofs.YtafkammiehcdjaaGreatDoor
open Go.RowKit Go.Maps
set_option linter.unusedVariables false
theorem beq_t {a b : Int} (h : a = b) : (a == b) = true := by simp [h]
theorem beq_f {a b : Int} (h : ¬ a = b) : (a == b) = false := by simp [h]
theorem bne_t {a b : Int} (h : ¬ a = b) : (a != b) = true := by simp [h]
theorem bne_f {a b : Int} (h : a = b) : (a != b) = false := by simp [h]
set_option maxRecDepth 4000 in
theorem rcount_any (ad : Option Addr) (n c : Nat) (es : List E6.Ev) (w : World) (hr : E6.ERow w ad n es) (hn : (n : Int) ≤ 1048576) (g kd ob : Int) :
    Calls Tryz.prog 139 #[.slice ad n c, .int .i64 g, .int .i64 kd, .int .u64 ob] w fun e w' => e = .returned (.int .i64 (cnX (es.map me) g kd ob : Int)) ∧ w' = w := by
  have HE := hide hr
  clear hr
  go_enter Tryz.func139, Tryz.ntmps139
  go_wp2
  go_loopw [9, 10] (fun m i wr => ∃ (j : Nat), j ≤ n ∧ i = .int .i64 j ∧ m = .int .i64 (cnX (Tj es j) g kd ob : Int) ∧ wr = w) (fun _ i _ => n - (intOf i).toNat)
  case atStart => exact ⟨0, Nat.zero_le _, rfl, by rw [Tj_zero]; rw [cnX_nil]; rfl, rfl⟩
  case round =>
    obtain ⟨j, hj, rfl, rfl, rfl⟩ := hrel
    have hNl : cnX (Tj es j) g kd ob ≤ j := by
      have h1 := cnX_le (Tj es j) g kd ob
      rw [Tj_len HE.out.len hj] at h1
      exact h1
    by_cases hlt : j < n
    · have hjI : (j : Int) < n := by omega
      obtain ⟨b, off, e, rfl, hej, c0, c1, c2, c3, c4, hs⟩ := HE.out.at hlt
      have HS : Hid (cnX (Tj es (j + 1)) g kd ob = cnX (Tj es j) g kd ob + (if (g < 0 ∨ e.g = g) ∧ e.k = kd ∧ e.o = ob then 1 else 0)) := hide (by have h1 := cnX_snoc (T := Tj es j) (e := me e) (g := g) (k := kd) (o := ob); rw [← Tj_succ hej] at h1; exact h1)
      clear hs hej
      generalize cnX (Tj es j) g kd ob = N at HS hNl ⊢
      have hNI : (N : Int) ≤ 1048576 := by omega
      by_cases hg : g < 0
      · have hgb : decide (g < 0) = true := decide_eq_true hg
        by_cases hk : e.k = kd
        · have hkb := beq_t hk
          by_cases ho : e.o = ob
          · have hob := beq_t ho
            have h8 : (g < 0 ∨ e.g = g) ∧ e.k = kd ∧ e.o = ob := ⟨.inl hg, hk, ho⟩
            have h9 : (cnX (Tj es (j + 1)) g kd ob : Int) = N + 1 := by have := HS.out; rw [if_pos h8] at this; omega
            clear HS h8
            go_wp2
            exact ⟨⟨j + 1, by omega, by go_num, by first | rw [h9] | simp only [h9], by first | trivial | rfl⟩, by simp [intOf]; omega⟩
          · have hob := beq_f ho
            have h8 : ¬ ((g < 0 ∨ e.g = g) ∧ e.k = kd ∧ e.o = ob) := fun q => ho q.2.2
            have h9 : (cnX (Tj es (j + 1)) g kd ob : Int) = N := by have := HS.out; rw [if_neg h8] at this; omega
            clear HS h8
            go_wp2
            exact ⟨⟨j + 1, by omega, by go_num, by first | rw [h9] | simp only [h9], by first | trivial | rfl⟩, by simp [intOf]; omega⟩
        · have hkb := beq_f hk
          have h8 : ¬ ((g < 0 ∨ e.g = g) ∧ e.k = kd ∧ e.o = ob) := fun q => hk q.2.1
          have h9 : (cnX (Tj es (j + 1)) g kd ob : Int) = N := by have := HS.out; rw [if_neg h8] at this; omega
          clear HS h8
          go_wp2
          exact ⟨⟨j + 1, by omega, by go_num, by first | rw [h9] | simp only [h9], by first | trivial | rfl⟩, by simp [intOf]; omega⟩
      · have hgb : decide (g < 0) = false := decide_eq_false hg
        by_cases hgg : e.g = g
        · have hge := beq_t hgg
          by_cases hk : e.k = kd
          · have hkb := beq_t hk
            by_cases ho : e.o = ob
            · have hob := beq_t ho
              have h8 : (g < 0 ∨ e.g = g) ∧ e.k = kd ∧ e.o = ob := ⟨.inr hgg, hk, ho⟩
              have h9 : (cnX (Tj es (j + 1)) g kd ob : Int) = N + 1 := by have := HS.out; rw [if_pos h8] at this; omega
              clear HS h8
              go_wp2
              exact ⟨⟨j + 1, by omega, by go_num, by first | rw [h9] | simp only [h9], by first | trivial | rfl⟩, by simp [intOf]; omega⟩
            · have hob := beq_f ho
              have h8 : ¬ ((g < 0 ∨ e.g = g) ∧ e.k = kd ∧ e.o = ob) := fun q => ho q.2.2
              have h9 : (cnX (Tj es (j + 1)) g kd ob : Int) = N := by have := HS.out; rw [if_neg h8] at this; omega
              clear HS h8
              go_wp2
              exact ⟨⟨j + 1, by omega, by go_num, by first | rw [h9] | simp only [h9], by first | trivial | rfl⟩, by simp [intOf]; omega⟩
          · have hkb := beq_f hk
            have h8 : ¬ ((g < 0 ∨ e.g = g) ∧ e.k = kd ∧ e.o = ob) := fun q => hk q.2.1
            have h9 : (cnX (Tj es (j + 1)) g kd ob : Int) = N := by have := HS.out; rw [if_neg h8] at this; omega
            clear HS h8
            go_wp2
            exact ⟨⟨j + 1, by omega, by go_num, by first | rw [h9] | simp only [h9], by first | trivial | rfl⟩, by simp [intOf]; omega⟩
        · have hge := beq_f hgg
          have h8 : ¬ ((g < 0 ∨ e.g = g) ∧ e.k = kd ∧ e.o = ob) := fun q => q.1.elim hg hgg
          have h9 : (cnX (Tj es (j + 1)) g kd ob : Int) = N := by have := HS.out; rw [if_neg h8] at this; omega
          clear HS h8
          go_wp2
          exact ⟨⟨j + 1, by omega, by go_num, by first | rw [h9] | simp only [h9], by first | trivial | rfl⟩, by simp [intOf]; omega⟩
    · have h9 : j = n := by omega
      subst h9
      have h8 := Tj_all HE.out.len
      rw [h8] at hNl ⊢
      go_wp2
      go_ret
      exact ⟨rfl, rfl⟩
set_option maxRecDepth 4000 in
theorem rtold_any (ad : Option Addr) (n c : Nat) (es : List E6.Ev) (w : World) (hr : E6.ERow w ad n es) (hn : (n : Int) ≤ 1048576) (kd ob x : Int) :
    Calls Tryz.prog 143 #[.slice ad n c, .int .i64 kd, .int .u64 ob, .int .u64 x] w fun e w' => e = .returned (.int .i64 (cnT (es.map me) kd ob x : Int)) ∧ w' = w := by
  have HE := hide hr
  clear hr
  go_enter Tryz.func143, Tryz.ntmps143
  go_wp2
  go_loopw [9, 10] (fun m i wr => ∃ (j : Nat), j ≤ n ∧ i = .int .i64 j ∧ m = .int .i64 (cnT (Tj es j) kd ob x : Int) ∧ wr = w) (fun _ i _ => n - (intOf i).toNat)
  case atStart => exact ⟨0, Nat.zero_le _, rfl, by rw [Tj_zero]; rfl, rfl⟩
  case round =>
    obtain ⟨j, hj, rfl, rfl, rfl⟩ := hrel
    have hNl : cnT (Tj es j) kd ob x ≤ j := by
      have h1 := cnT_le (Tj es j) kd ob x
      rw [Tj_len HE.out.len hj] at h1
      exact h1
    by_cases hlt : j < n
    · have hjI : (j : Int) < n := by omega
      obtain ⟨b, off, e, rfl, hej, c0, c1, c2, c3, c4, hs⟩ := HE.out.at hlt
      have HS : Hid (cnT (Tj es (j + 1)) kd ob x = cnT (Tj es j) kd ob x + (if e.k = kd ∧ e.o = ob ∧ e.a = x then 1 else 0)) := hide (by have h1 := cnT_snoc (T := Tj es j) (e := me e) (k := kd) (o := ob) (a := x); rw [← Tj_succ hej] at h1; exact h1)
      clear hs hej
      generalize cnT (Tj es j) kd ob x = N at HS hNl ⊢
      have hNI : (N : Int) ≤ 1048576 := by omega
      by_cases hk : e.k = kd
      · have hkb := beq_t hk
        by_cases ho : e.o = ob
        · have hob := beq_t ho
          by_cases ha : e.a = x
          · have hab := beq_t ha
            have h8 : e.k = kd ∧ e.o = ob ∧ e.a = x := ⟨hk, ho, ha⟩
            have h9 : (cnT (Tj es (j + 1)) kd ob x : Int) = N + 1 := by have := HS.out; rw [if_pos h8] at this; omega
            clear HS h8
            go_wp2
            exact ⟨⟨j + 1, by omega, by go_num, by first | rw [h9] | simp only [h9], by first | trivial | rfl⟩, by simp [intOf]; omega⟩
          · have hab := beq_f ha
            have h8 : ¬ (e.k = kd ∧ e.o = ob ∧ e.a = x) := fun q => ha q.2.2
            have h9 : (cnT (Tj es (j + 1)) kd ob x : Int) = N := by have := HS.out; rw [if_neg h8] at this; omega
            clear HS h8
            go_wp2
            exact ⟨⟨j + 1, by omega, by go_num, by first | rw [h9] | simp only [h9], by first | trivial | rfl⟩, by simp [intOf]; omega⟩
        · have hob := beq_f ho
          have h8 : ¬ (e.k = kd ∧ e.o = ob ∧ e.a = x) := fun q => ho q.2.1
          have h9 : (cnT (Tj es (j + 1)) kd ob x : Int) = N := by have := HS.out; rw [if_neg h8] at this; omega
          clear HS h8
          go_wp2
          exact ⟨⟨j + 1, by omega, by go_num, by first | rw [h9] | simp only [h9], by first | trivial | rfl⟩, by simp [intOf]; omega⟩
      · have hkb := beq_f hk
        have h8 : ¬ (e.k = kd ∧ e.o = ob ∧ e.a = x) := fun q => hk q.1
        have h9 : (cnT (Tj es (j + 1)) kd ob x : Int) = N := by have := HS.out; rw [if_neg h8] at this; omega
        clear HS h8
        go_wp2
        exact ⟨⟨j + 1, by omega, by go_num, by first | rw [h9] | simp only [h9], by first | trivial | rfl⟩, by simp [intOf]; omega⟩
    · have h9 : j = n := by omega
      subst h9
      have h8 := Tj_all HE.out.len
      rw [h8] at hNl ⊢
      go_wp2
      go_ret
      exact ⟨rfl, rfl⟩
set_option maxRecDepth 4000 in
theorem rnamed_any (ad : Option Addr) (n c : Nat) (es : List E6.Ev) (w : World) (hr : E6.ERow w ad n es) (hn : (n : Int) ≤ 1048576) (kd x : Int) :
    Calls Tryz.prog 134 #[.slice ad n c, .int .i64 kd, .int .u64 x] w fun e w' => e = .returned (.bool (nmd (es.map me) kd x)) ∧ w' = w := by
  obtain ⟨R, hR⟩ : ∃ R, R = nmd (es.map me) kd x := ⟨_, rfl⟩
  rw [← hR]
  have HR := hide hR
  have HE := hide hr
  clear hr hR
  go_enter Tryz.func134, Tryz.ntmps134
  go_wp2
  go_loopw [7] (fun i wr => ∃ (j : Nat), j ≤ n ∧ i = .int .i64 j ∧ nmd (Tj es j) kd x = false ∧ wr = w) (fun i _ => n - (intOf i).toNat)
  case atStart => exact ⟨0, Nat.zero_le _, rfl, by rw [Tj_zero]; rfl, rfl⟩
  case round =>
    obtain ⟨j, hj, rfl, hN, rfl⟩ := hrel
    by_cases hlt : j < n
    · have hjI : (j : Int) < n := by omega
      obtain ⟨b, off, e, rfl, hej, c0, c1, c2, c3, c4, hs⟩ := HE.out.at hlt
      have HS : Hid (nmd (Tj es (j + 1)) kd x = (false || decide (e.k = kd ∧ e.a = x))) := hide (by rw [Tj_succ hej, nmd_snoc, hN]; rfl)
      have HF : Hid (e.k = kd → e.a = x → nmd (es.map me) kd x = true) := hide (fun h1 h2 => by rw [Tj_split hej]; exact nmd_found h1 h2)
      clear hs hej hN
      by_cases hk : e.k = kd
      · have hkb := beq_t hk
        by_cases ha : e.a = x
        · have hab := beq_t ha
          have H9 : Hid (R = true) := hide (HR.out.trans (HF.out hk ha))
          clear HF HS HR
          go_wp2
          go_ret
          exact ⟨by rw [H9.out]; rfl, rfl⟩
        · have hab := beq_f ha
          have h9 : nmd (Tj es (j + 1)) kd x = false := by rw [HS.out]; simp [ha]
          clear HF HS
          go_wp2
          exact ⟨⟨j + 1, by omega, by go_num, h9, by first | trivial | rfl⟩, by simp [intOf]; omega⟩
      · have hkb := beq_f hk
        have h9 : nmd (Tj es (j + 1)) kd x = false := by rw [HS.out]; simp [hk]
        clear HF HS
        go_wp2
        exact ⟨⟨j + 1, by omega, by go_num, h9, by first | trivial | rfl⟩, by simp [intOf]; omega⟩
    · have h9 : j = n := by omega
      subst h9
      rw [Tj_all HE.out.len] at hN
      have H9 : Hid (R = false) := hide (HR.out.trans hN)
      clear hN HR
      go_wp2
      go_ret
      exact ⟨by rw [H9.out]; rfl, rfl⟩
def roomI (T : List Me) (o : Int) : Int := (roomT T o).getD (-1)
set_option maxRecDepth 4000 in
theorem rroom_any (ad : Option Addr) (n c : Nat) (es : List E6.Ev) (w : World) (hr : E6.ERow w ad n es) (hn : (n : Int) ≤ 1048576) (hg : ∀ e ∈ es, Eb e.g e.k e.o e.a) (ob : Int) :
    Calls Tryz.prog 135 #[.slice ad n c, .int .u64 ob] w fun e w' => e = .returned (.int .i64 (roomI (es.map me) ob)) ∧ w' = w := by
  obtain ⟨R, hR⟩ : ∃ R, R = roomI (es.map me) ob := ⟨_, rfl⟩
  rw [← hR]
  have HR := hide hR
  have HE := hide hr
  have HG := hide hg
  clear hr hg hR
  go_enter Tryz.func135, Tryz.ntmps135
  go_wp2
  go_loopw [5] (fun i wr => ∃ (j : Nat), j ≤ n ∧ i = .int .i64 j ∧ roomT (Tj es j) ob = none ∧ wr = w) (fun i _ => n - (intOf i).toNat)
  case atStart => exact ⟨0, Nat.zero_le _, rfl, by rw [Tj_zero]; rfl, rfl⟩
  case round =>
    obtain ⟨j, hj, rfl, hN, rfl⟩ := hrel
    by_cases hlt : j < n
    · have hjI : (j : Int) < n := by omega
      obtain ⟨b, off, e, rfl, hej, c0, c1, c2, c3, c4, hs⟩ := HE.out.at hlt
      have HS : Hid (roomT (Tj es (j + 1)) ob = if e.k = 9 ∧ e.o = ob then some e.a else none) := hide (by rw [Tj_succ hej, roomT_snoc, hN]; rfl)
      have HF : Hid (e.k = 9 → e.o = ob → roomI (es.map me) ob = e.a) := hide (fun h1 h2 => by
        unfold roomI
        rw [Tj_split hej, roomT_append, hN]
        show (roomT (me e :: _) ob).getD (-1) = _
        rw [roomT, if_pos ⟨h1, h2⟩]; rfl)
      have hb := HG.out e (List.mem_of_getElem? hej)
      clear hs hej hN
      by_cases hk : e.k = 9
      · have hkb := beq_t hk
        by_cases ha : e.o = ob
        · have hab := beq_t ha
          have H9 : Hid (R = e.a) := hide (HR.out.trans (HF.out hk ha))
          have hm := hb.mc hk
          have h0 := hb.ok.a0
          have hw1 : IntKind.i64.wrap e.a = e.a := by rw [IntKind.wrap_i64]; omega
          clear HF HS HR hb hk ha
          go_wp2
          go_ret
          exact ⟨by rw [H9.out]; rfl, rfl⟩
        · have hab := beq_f ha
          have h9 : roomT (Tj es (j + 1)) ob = none := by rw [HS.out, if_neg (fun q => ha q.2)]
          clear HF HS hb
          go_wp2
          exact ⟨⟨j + 1, by omega, by go_num, h9, by first | trivial | rfl⟩, by simp [intOf]; omega⟩
      · have hkb := beq_f hk
        have h9 : roomT (Tj es (j + 1)) ob = none := by rw [HS.out, if_neg (fun q => hk q.1)]
        clear HF HS hb
        go_wp2
        exact ⟨⟨j + 1, by omega, by go_num, h9, by first | trivial | rfl⟩, by simp [intOf]; omega⟩
    · have h9 : j = n := by omega
      subst h9
      rw [Tj_all HE.out.len] at hN
      have h8 : roomI (es.map me) ob = -1 := by unfold roomI; rw [hN]; rfl
      have H9 : Hid (R = -1) := hide (HR.out.trans h8)
      clear hN h8 HR
      go_wp2
      go_ret
      exact ⟨by rw [H9.out]; rfl, rfl⟩
end Go.Proofs.YtafkammiehcdjaaGreatDoor
/-
  Names are free: turned, lockKind, chanKind; a trace whose events are changed in place.
-/
namespace Go.Proofs.YtafkammiehcdjaaGreatDoor
open Go.RowKit Go.Maps
set_option linter.unusedVariables false
theorem lockKind_any (k : Int) (w : World) : Calls Tryz.prog 31 #[.int .i64 k] w fun e w' => e = .returned (.bool (decide (3 ≤ k ∧ k ≤ 6))) ∧ w' = w := by
  obtain ⟨R, hR⟩ : ∃ R, R = decide (3 ≤ k ∧ k ≤ 6) := ⟨_, rfl⟩
  rw [← hR]
  by_cases h1 : 3 ≤ k
  · have b1 : decide (3 ≤ k) = true := decide_eq_true h1
    have H9 : Hid (R = decide (k ≤ 6)) := hide (by rw [hR]; by_cases h2 : k ≤ 6 <;> simp [h1, h2])
    clear hR
    go_enter Tryz.func31, Tryz.ntmps31
    go_wp2
    go_ret
    exact ⟨by rw [H9.out]; rfl, rfl⟩
  · have b1 : decide (3 ≤ k) = false := decide_eq_false h1
    have H9 : Hid (R = false) := hide (by rw [hR]; exact decide_eq_false (fun q => h1 q.1))
    clear hR
    go_enter Tryz.func31, Tryz.ntmps31
    go_wp2
    go_ret
    exact ⟨by rw [H9.out]; rfl, rfl⟩
theorem chanKind_any (k : Int) (w : World) : Calls Tryz.prog 32 #[.int .i64 k] w fun e w' => e = .returned (.bool (decide (9 ≤ k ∧ k ≤ 13))) ∧ w' = w := by
  obtain ⟨R, hR⟩ : ∃ R, R = decide (9 ≤ k ∧ k ≤ 13) := ⟨_, rfl⟩
  rw [← hR]
  by_cases h1 : 9 ≤ k
  · have b1 : decide (9 ≤ k) = true := decide_eq_true h1
    have H9 : Hid (R = decide (k ≤ 13)) := hide (by rw [hR]; by_cases h2 : k ≤ 13 <;> simp [h1, h2])
    clear hR
    go_enter Tryz.func32, Tryz.ntmps32
    go_wp2
    go_ret
    exact ⟨by rw [H9.out]; rfl, rfl⟩
  · have b1 : decide (9 ≤ k) = false := decide_eq_false h1
    have H9 : Hid (R = false) := hide (by rw [hR]; exact decide_eq_false (fun q => h1 q.1))
    clear hR
    go_enter Tryz.func32, Tryz.ntmps32
    go_wp2
    go_ret
    exact ⟨by rw [H9.out]; rfl, rfl⟩
theorem turned_any (t g : Int) (w : World) (hg : IsG g) (ht : -9223372036854775808 ≤ t ∧ t ≤ 9223372036854775807) : Calls Tryz.prog 33 #[.int .i64 g, .int .i64 t] w fun e w' => e = .returned (.int .i64 (tgI t g)) ∧ w' = w := by
  obtain ⟨R, hR⟩ : ∃ R, R = tgI t g := ⟨_, rfl⟩
  rw [← hR]
  have b2 : decide (65535 < g) = false := decide_eq_false (by have := hg.2; omega)
  by_cases h1 : g < 1
  · have b1 : decide (g < 1) = true := decide_eq_true h1
    have H9 : Hid (R = g) := hide (by rw [hR]; unfold tgI; rw [if_pos (.inl h1)])
    clear hR hg
    go_enter Tryz.func33, Tryz.ntmps33
    go_wp2
    go_ret
    exact ⟨by rw [H9.out]; rfl, rfl⟩
  · have b1 : decide (g < 1) = false := decide_eq_false h1
    obtain ⟨m, hm⟩ : ∃ m, m = t.tmod 65535 := ⟨_, rfl⟩
    have hm1 : t.tmod 65535 = m := hm.symm
    have hmb : -65535 < m ∧ m < 65535 ∧ (m < 0 → t % 65535 = m + 65535) ∧ (0 ≤ m → t % 65535 = m) := by
      rw [hm, Int.tmod_eq_emod]
      split <;> omega
    have hw0 : IntKind.i64.wrap m = m := by rw [IntKind.wrap_i64]; omega
    have hw1 : IntKind.i64.wrap (m + 65535) = m + 65535 := by rw [IntKind.wrap_i64]; omega
    have hw2 : IntKind.i64.wrap (g - 1) = g - 1 := by rw [IntKind.wrap_i64]; unfold IsG at hg; omega
    have HR1 : Hid (R = 1 + (g - 1 + t % 65535) % 65535) := hide (by rw [hR]; unfold tgI IsG at *; rw [if_neg (by omega)])
    by_cases h2 : m < 0
    · have b3 : decide (m < 0) = true := decide_eq_true h2
      have hn : 0 ≤ g - 1 + (m + 65535) := by unfold IsG at hg; omega
      have e1 : (g - 1 + (m + 65535)).tmod 65535 = (g - 1 + (m + 65535)) % 65535 := Int.tmod_eq_emod_of_nonneg hn
      obtain ⟨z, hz⟩ : ∃ z, (g - 1 + (m + 65535)) % 65535 = z := ⟨_, rfl⟩
      have hw3 : IntKind.i64.wrap (g - 1 + (m + 65535)) = g - 1 + (m + 65535) := by rw [IntKind.wrap_i64]; unfold IsG at hg; omega
      have e2 : (g - 1 + (m + 65535)).tmod 65535 = z := e1.trans hz
      have hw4 : IntKind.i64.wrap z = z := by rw [IntKind.wrap_i64]; omega
      have hw5 : IntKind.i64.wrap (1 + z) = 1 + z := by rw [IntKind.wrap_i64]; omega
      have H9 : Hid (R = 1 + z) := hide (by rw [HR1.out, hmb.2.2.1 h2, hz])
      clear hR hg hm HR1 hmb hn e1 hz h1 ht
      go_enter Tryz.func33, Tryz.ntmps33
      go_wp2
      go_ret
      exact ⟨by rw [H9.out]; rfl, rfl⟩
    · have b3 : decide (m < 0) = false := decide_eq_false h2
      have hn : 0 ≤ g - 1 + m := by unfold IsG at hg; omega
      have e1 : (g - 1 + m).tmod 65535 = (g - 1 + m) % 65535 := Int.tmod_eq_emod_of_nonneg hn
      obtain ⟨z, hz⟩ : ∃ z, (g - 1 + m) % 65535 = z := ⟨_, rfl⟩
      have hw3 : IntKind.i64.wrap (g - 1 + m) = g - 1 + m := by rw [IntKind.wrap_i64]; unfold IsG at hg; omega
      have e2 : (g - 1 + m).tmod 65535 = z := e1.trans hz
      have hw4 : IntKind.i64.wrap z = z := by rw [IntKind.wrap_i64]; omega
      have hw5 : IntKind.i64.wrap (1 + z) = 1 + z := by rw [IntKind.wrap_i64]; omega
      have H9 : Hid (R = 1 + z) := hide (by rw [HR1.out, hmb.2.2.2 (by omega), hz])
      clear hR hg hm HR1 hmb hn e1 hz h1 ht
      go_enter Tryz.func33, Tryz.ntmps33
      go_wp2
      go_ret
      exact ⟨by rw [H9.out]; rfl, rfl⟩
def layV : Lay E6.Ev where
  cs := E6.ecell
  z := 5
  pos := by decide
  len _ := rfl
  one a u hu := by
    simp only [E6.ecell, List.mem_cons, List.not_mem_nil, or_false] at hu
    rcases hu with rfl | rfl | rfl | rfl | rfl <;> rfl
theorem ecells_fl (L : List E6.Ev) : E6.ecells L = layV.fl L := by
  induction L with
  | nil => rfl
  | cons x L ih => rw [E6.ecells, ih, layV.fl_cons]; rfl
/-- Events in memory of one's own, their stacks too. -/
structure Rd (w0 wr : World) (g c n : Nat) (L : List E6.Ev) : Prop where
  own : Own layV 36 wr w0.heap.size (.slice (some ⟨g, 0, none⟩) n c) L
  len : L.length = n
  st : ∀ f ∈ L, wr.ownsRow w0.heap.size 9 1 (.slice f.sa f.ls.length f.sc) f.ls.length (f.ls.map Value.string)
  bel : Below w0.heap.size w0 wr
section
variable {w0 wr w' : World} {g c n i t : Nat} {L : List E6.Ev} {x x' : E6.Ev} {u : Value}
theorem Rd.cell (h : Rd w0 wr g c n L) (hx : L[i]? = some x) : wr.cell? ⟨g, i * 5, none⟩ = some (.int .i64 x.g) ∧ wr.cell? ⟨g, i * 5 + 1, none⟩ = some (.int .i64 x.k) ∧ wr.cell? ⟨g, i * 5 + 2, none⟩ = some (.int .u64 x.o) ∧ wr.cell? ⟨g, i * 5 + 3, none⟩ = some (.int .u64 x.a) ∧ wr.frozen? ⟨g, i * 5, none⟩ = false ∧ wr.frozen? ⟨g, i * 5 + 2, none⟩ = false ∧ wr.frozen? ⟨g, i * 5 + 3, none⟩ = false :=
  ⟨h.own.cell hx 0 rfl, h.own.cell hx 1 rfl, h.own.cell hx 2 rfl, h.own.cell hx 3 rfl, h.own.frozen _, h.own.frozen _, h.own.frozen _⟩
theorem Rd.ge (h : Rd w0 wr g c n L) : w0.heap.size ≤ g := (h.own.lt g rfl).1
theorem Rd.set (h : Rd w0 wr g c n L) (hx : L[i]? = some x) (ht : t < 5) (hc : E6.ecell x' = (E6.ecell x).set t u) (hs : x'.sa = x.sa ∧ x'.ls = x.ls ∧ x'.sc = x.sc) : Rd w0 (wr.setCell ⟨g, i * 5 + t, none⟩ u) g c n (L.set i x') := by
  refine ⟨h.own.setU h.len hx ht hc, by rw [List.length_set]; exact h.len, fun f hf => ?_, h.bel.setCell (p := ⟨g, i * 5 + t, none⟩) h.ge u⟩
  have hne : ∀ y ∈ L, (Value.slice y.sa y.ls.length y.sc).ownBlock ≠ some g := fun y hy e => E6.own_ne h.own (h.st y hy) (by decide) g rfl e
  have hk : ∀ y ∈ L, (wr.setCell ⟨g, i * 5 + t, none⟩ u).ownsRow w0.heap.size 9 1 (.slice y.sa y.ls.length y.sc) y.ls.length (y.ls.map Value.string) := fun y hy => ownsRow_setCell_other (h.st y hy) (a := ⟨g, i * 5 + t, none⟩) (hne y hy) u
  rcases List.mem_or_eq_of_mem_set hf with h1 | h1
  · exact hk f h1
  · subst h1
    rw [hs.1, hs.2.1, hs.2.2]
    exact hk x (List.mem_of_getElem? hx)
theorem Rd.erow (h : Rd w0 wr g c n L) : E6.ERow wr (some ⟨g, 0, none⟩) n L := by
  have ho : wr.ownsRow w0.heap.size 36 5 (.slice (some ⟨g, 0, none⟩) n c) n (E6.ecells L) := by
    have h1 := h.own
    unfold Own at h1
    rw [h.len] at h1
    rw [ecells_fl]
    exact h1
  obtain ⟨a, c1, hv, hr, _⟩ := E6.erow_own ho h.len (fun f hf => E6.SRow.of_own (h.st f hf))
  cases hv
  exact hr
end
end Go.Proofs.YtafkammiehcdjaaGreatDoor
