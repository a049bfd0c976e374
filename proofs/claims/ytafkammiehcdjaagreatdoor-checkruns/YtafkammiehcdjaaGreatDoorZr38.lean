import Derived.Test.YtafkammiehcdjaaGreatDoorZr37
/-
  No number of a checker is great, and it stays so.
-/
namespace Go.Proofs.YtafkammiehcdjaaGreatDoor
def GB (n : Nat) (r : Gor) : Prop := (0 ≤ r.to ∧ r.to ≤ 18446744073709551615) ∧ (0 ≤ r.as_ ∧ r.as_ ≤ n) ∧ r.held.length ≤ n ∧ ∀ p ∈ r.held, 1 ≤ p.2 ∧ p.2 ≤ n
def CB (n : Nat) (c : Chn) : Prop := (0 ≤ c.room ∧ c.room ≤ 65536) ∧ (0 ≤ c.sends ∧ c.sends ≤ n) ∧ (0 ≤ c.recvs ∧ c.recvs ≤ n)
def LBd (n : Nat) (p : Bool × Int) : Prop := -(n : Int) ≤ p.2 ∧ p.2 ≤ n
structure Inv (n : Nat) (M : CS) : Prop where
  gor : ∀ g r, M.gs g = some r → (0 ≤ g ∧ g ≤ 65535) ∧ GB n r
  al : M.alive.length ≤ n + 1
  lk : ∀ o p, M.locks o = some p → LBd n p
  ch : ∀ o c, M.chans o = some c → CB n c
  ct : ∀ o, 0 ≤ M.cnt o ∧ M.cnt o ≤ 2147483647
  me : M.mem.length ≤ n
  g0 : ∃ r, M.gs 0 = some r
def CS.inv (M : CS) : Prop := Inv M.taken M
section
variable {M : CS} {n : Nat} {g k o a : Int}
theorem CS.inv.ok (h : M.inv) (ht : M.taken ≤ 1048576) : M.ok := by
  refine ⟨ht, fun g r hg => ?_, h.al, fun o b m hl => ?_, fun o c hc => ?_, h.ct, h.me⟩
  · obtain ⟨h1, h2, h3, h4, h5⟩ := h.gor g r hg
    exact ⟨h1, h2, ⟨h3.1, by have := h3.2; omega⟩, h4, fun p hp => ⟨(h5 p hp).1, by have := (h5 p hp).2; omega⟩⟩
  · have h9 := h.lk o (b, m) hl
    unfold LBd at h9
    dsimp only at h9
    omega
  · obtain ⟨h1, h2, h3⟩ := h.ch o c hc
    exact ⟨h1, ⟨h2.1, by have := h2.2; omega⟩, ⟨h3.1, by have := h3.2; omega⟩⟩
theorem GB.mono {m : Nat} {r : Gor} (h : GB n r) (hm : n ≤ m) : GB m r := by
  obtain ⟨h2, h3, h4, h5⟩ := h
  exact ⟨h2, ⟨h3.1, by have := h3.2; omega⟩, by omega, fun p hp => ⟨(h5 p hp).1, by have := (h5 p hp).2; omega⟩⟩
theorem Inv.mono {m : Nat} (h : Inv n M) (hm : n ≤ m) : Inv m M := by
  refine ⟨fun g r hg => ⟨(h.gor g r hg).1, (h.gor g r hg).2.mono hm⟩, by have := h.al; omega, fun o p hp => ?_, fun o c hc => ?_, h.ct, by have := h.me; omega, h.g0⟩
  · have := h.lk o p hp; unfold LBd at this ⊢; omega
  · obtain ⟨h1, h2, h3⟩ := h.ch o c hc
    exact ⟨h1, ⟨h2.1, by have := h2.2; omega⟩, ⟨h3.1, by have := h3.2; omega⟩⟩
theorem Inv.setG (h : Inv n M) (hg : 0 ≤ g ∧ g ≤ 65535) {r : Gor} (hr : GB n r) : Inv n { M with gs := setF M.gs g (some r) } := by
  refine ⟨fun g' r' h' => ?_, h.al, h.lk, h.ch, h.ct, h.me, ?_⟩
  · dsimp only at h'
    by_cases e : g' = g
    · subst e; rw [setF_same] at h'; cases h'; exact ⟨hg, hr⟩
    · rw [setF_other _ _ e] at h'; exact h.gor g' r' h'
  · dsimp only
    by_cases e : (0 : Int) = g
    · subst e; exact ⟨r, setF_same _ _ _⟩
    · rw [setF_other _ _ e]; exact h.g0
theorem Inv.setA (h : Inv n M) {L : List Ent} (hL : L.length ≤ n + 1) : Inv n { M with alive := L } := ⟨h.gor, hL, h.lk, h.ch, h.ct, h.me, h.g0⟩
theorem Inv.setM (h : Inv n M) {L : List Ent} (hL : L.length ≤ n) : Inv n { M with mem := L } := ⟨h.gor, h.al, h.lk, h.ch, h.ct, hL, h.g0⟩
theorem Inv.setO (h : Inv n M) (f : Int → Bool) : Inv n { M with once := f } := ⟨h.gor, h.al, h.lk, h.ch, h.ct, h.me, h.g0⟩
theorem Inv.setK (h : Inv n M) {v : Int} (h0 : 0 ≤ v) (h1 : v ≤ 2147483647) : Inv n { M with cnt := setF M.cnt o v } := by
  refine ⟨h.gor, h.al, h.lk, h.ch, fun x => ?_, h.me, h.g0⟩
  dsimp only
  by_cases e : x = o
  · subst e; rw [setF_same]; exact ⟨h0, h1⟩
  · rw [setF_other _ _ e]; exact h.ct x
theorem Inv.setC (h : Inv n M) {c : Chn} (hc : CB n c) : Inv n { M with chans := setF M.chans o (some c) } := by
  refine ⟨h.gor, h.al, h.lk, fun x c' hx => ?_, h.ct, h.me, h.g0⟩
  dsimp only at hx
  by_cases e : x = o
  · subst e; rw [setF_same] at hx; cases hx; exact hc
  · rw [setF_other _ _ e] at hx; exact h.ch x c' hx
theorem Inv.setL (h : Inv n M) {v : Option (Bool × Int)} (hv : ∀ p, v = some p → LBd n p) : Inv n { M with locks := setF M.locks o v } := by
  refine ⟨h.gor, h.al, fun x p hx => ?_, h.ch, h.ct, h.me, h.g0⟩
  dsimp only at hx
  by_cases e : x = o
  · subst e; rw [setF_same] at hx; exact hv p hx
  · rw [setF_other _ _ e] at hx; exact h.lk x p hx
theorem GB.ins {r : Gor} (h : GB n r) {v : Int} (h1 : 1 ≤ v) (h2 : v ≤ (n : Int) + 1) : GB (n + 1) { r with held := insE o v r.held } := by
  obtain ⟨x1, x3, x4, x5⟩ := h
  have := insE_len o v r.held
  refine ⟨x1, ⟨x3.1, by have := x3.2; dsimp only; omega⟩, by dsimp only; omega, fun p hp => ?_⟩
  rcases insE_mem p hp with rfl | hp
  · dsimp only; omega
  · have := x5 p hp; omega
theorem GB.del {r : Gor} (h : GB n r) : GB (n + 1) { r with held := delE o r.held } := by
  obtain ⟨x1, x3, x4, x5⟩ := h
  have := delE_len o r.held
  refine ⟨x1, ⟨x3.1, by have := x3.2; dsimp only; omega⟩, by dsimp only; omega, fun p hp => ?_⟩
  have := x5 p ((delE_sub o r.held).subset hp)
  omega
theorem times_bd (h : Inv n M) (o : Int) : -(n : Int) ≤ M.times o ∧ M.times o ≤ n := by
  unfold CS.times
  cases hq : M.locks o with
  | none => simp
  | some p => have := h.lk o p hq; unfold LBd at this; simpa using this
theorem look_bd {r : Gor} (h : GB n r) (o : Int) : 0 ≤ (look o r.held).getD 0 ∧ (look o r.held).getD 0 ≤ n := by
  cases hq : look o r.held with
  | none => simp
  | some u => have := h.2.2.2 _ (look_mem hq); simp at this ⊢; omega
theorem doo_inv (h : Inv n M) (he : Eb g k o a) {r : Gor} (hg : M.gs g = some r) (hask : M.ask ⟨g, k, o, a⟩ r = 0) : Inv (n + 1) (M.doo ⟨g, k, o, a⟩ r) := by
  have hm := h.mono (Nat.le_succ n)
  have hgb := (h.gor g r hg).2
  have hgr := (h.gor g r hg).1
  have htm := times_bd h o
  have hlb := look_bd hgb o
  have ho := he.ok
  rcases kcases he.k1 he.k2 with rfl | rfl | rfl | rfl | rfl | rfl | rfl | rfl | rfl | rfl | rfl | rfl | rfl | rfl | rfl | rfl | rfl | rfl | rfl | rfl | rfl | rfl
  · exact hm
  · exact hm
  · exact (hm.setL (o := o) (fun p hp => by cases hp; unfold LBd; dsimp only; omega)).setG hgr (hgb.ins (by omega) (by omega))
  · exact (hm.setL (o := o) (fun p hp => by cases hp)).setG hgr hgb.del
  · exact (hm.setL (o := o) (fun p hp => by cases hp; unfold LBd; dsimp only; omega)).setG hgr (hgb.ins (o := o) (v := (look o r.held).getD 0 + 1) (by omega) (by omega))
  · have h4 : has o r.held = true := by
      by_cases h5 : has o r.held = true
      · exact h5
      · have h6 : M.ask ⟨g, 6, o, a⟩ r = 7 := by
          show (if M.toWrite o = true then (7 : Int) else if has o r.held = true then 0 else 7) = 7
          rw [if_neg h5]
          split <;> rfl
        rw [h6] at hask; cases hask
    obtain ⟨u, hu⟩ := has_look h4
    have hu1 := hgb.2.2.2 _ (look_mem hu)
    dsimp only at hu1
    refine Inv.setG (M := { M with locks := rdLocks M o (M.times o - 1) }) (hm.setL (o := o) (fun p hp => ?_)) hgr ?_
    · by_cases hz : M.times o - 1 = 0
      · rw [if_pos hz] at hp; cases hp
      · rw [if_neg hz] at hp; cases hp; unfold LBd; dsimp only; omega
    · rw [hu]
      dsimp only [Option.getD_some]
      by_cases hz : u - 1 = 0
      · rw [if_pos hz]; exact hgb.del
      · rw [if_neg hz]; exact hgb.ins (by omega) (by omega)
  · have h9 := insE_len a 0 M.alive
    have h8 := h.al
    exact (hm.setG (g := a) (r := ⟨[], 0, 0⟩) ⟨ho.a0, he.fj (.inl rfl)⟩ ⟨⟨by decide, by decide⟩, ⟨by decide, by dsimp only; omega⟩, by simp, fun p hp => by cases hp⟩).setA (L := insE a 0 M.alive) (by omega)
  · have h9 := delE_len a M.alive
    have h8 := h.al
    exact hm.setA (L := delE a M.alive) (by omega)
  · have h9 := he.mc rfl
    have h8 := ho.a0
    exact hm.setC (o := o) (c := ⟨a, 0, 0, false⟩) ⟨⟨h8, h9⟩, ⟨by dsimp only; omega, by dsimp only; omega⟩, ⟨by dsimp only; omega, by dsimp only; omega⟩⟩
  · have h6 : M.askChan ⟨g, 10, o, a⟩ r = 0 := hask
    unfold CS.askChan at h6
    show Inv (n + 1) (match M.chans o with | none => M | some c => { M with chans := setF M.chans o (some { c with sends := c.sends + 1 }), gs := if c.room = 0 then setF M.gs g (some { r with «to» := o, as_ := c.sends + 1 }) else M.gs })
    cases hq : M.chans o with
    | none => exact hm
    | some c =>
      have hcb := h.ch o c hq
      obtain ⟨c1, ⟨c2, c3⟩, c4, c5⟩ := hcb
      have ha0 := ho.a0
      dsimp only
      have hc1 : Inv (n + 1) { M with chans := setF M.chans o (some { c with sends := c.sends + 1 }) } := hm.setC ⟨c1, ⟨by dsimp only; omega, by dsimp only; omega⟩, ⟨by dsimp only; omega, by dsimp only; omega⟩⟩
      by_cases hz : c.room = 0
      · rw [if_pos hz]
        obtain ⟨x1, x3, x4, x5⟩ := hgb
        exact hc1.setG hgr ⟨⟨ho.o0, ho.o1⟩, ⟨by dsimp only; omega, by dsimp only; omega⟩, by dsimp only; omega, fun p hp => by have := x5 p hp; omega⟩
      · rw [if_neg hz]; exact hc1
  · obtain ⟨x1, x3, x4, x5⟩ := hgb
    exact hm.setG hgr ⟨⟨by dsimp only; omega, by dsimp only; omega⟩, ⟨by dsimp only; omega, by dsimp only; omega⟩, by dsimp only; omega, fun p hp => by have := x5 p hp; omega⟩
  · have h6 : M.askChan ⟨g, 12, o, a⟩ r = 0 := hask
    unfold CS.askChan at h6
    show Inv (n + 1) (match M.chans o with | none => M | some c => { M with chans := setF M.chans o (some { c with recvs := c.recvs + a }) })
    cases hq : M.chans o with
    | none => exact hm
    | some c =>
      have hcb := h.ch o c hq
      obtain ⟨c1, ⟨c2, c3⟩, c4, c5⟩ := hcb
      have ha0 := ho.a0
      dsimp only
      have ha1 := he.rc rfl
      exact hm.setC ⟨c1, ⟨by dsimp only; omega, by dsimp only; omega⟩, ⟨by dsimp only; omega, by dsimp only; omega⟩⟩
  · have h6 : M.askChan ⟨g, 13, o, a⟩ r = 0 := hask
    unfold CS.askChan at h6
    show Inv (n + 1) (match M.chans o with | none => M | some c => { M with chans := setF M.chans o (some { c with closed := true }) })
    cases hq : M.chans o with
    | none => exact hm
    | some c =>
      have hcb := h.ch o c hq
      obtain ⟨c1, ⟨c2, c3⟩, c4, c5⟩ := hcb
      have ha0 := ho.a0
      dsimp only
      exact hm.setC ⟨c1, ⟨by dsimp only; omega, by dsimp only; omega⟩, ⟨by dsimp only; omega, by dsimp only; omega⟩⟩
  · have h6 : (if M.cnt o + mzag a < 0 ∨ 2147483647 < M.cnt o + mzag a then (23 : Int) else 0) = 0 := hask
    by_cases h5 : M.cnt o + mzag a < 0 ∨ 2147483647 < M.cnt o + mzag a
    · rw [if_pos h5] at h6; cases h6
    · exact hm.setK (o := o) (v := M.cnt o + mzag a) (by omega) (by omega)
  · exact hm
  · exact hm.setO _
  · exact hm
  · exact hm
  · exact hm
  · have h9 := insE_len (o + (a - 1)) o M.mem
    have h8 := h.me
    exact hm.setM (L := insE (o + (a - 1)) o M.mem) (by omega)
  · have h9 := delE_len (o + (a - 1)) M.mem
    have h8 := h.me
    exact hm.setM (L := delE (o + (a - 1)) M.mem) (by omega)
  · exact hm
theorem ite_taken {p : Prop} [Decidable p] (A B : CS) : (if p then A else B).taken = if p then A.taken else B.taken := by split <;> rfl
theorem doo_taken (M : CS) (e : Me) (r : Gor) : (M.doo e r).taken = M.taken := by
  unfold CS.doo
  cases M.chans e.o
  all_goals simp only [ite_taken, ite_self]
theorem next_inv (h : M.inv) (he : Eb g k o a) {r : Gor} (hg : M.gs g = some r) (hask : M.ask ⟨g, k, o, a⟩ r = 0) : (M.next ⟨g, k, o, a⟩).inv := by
  have h9 := doo_inv h he hg hask
  unfold CS.next
  dsimp only
  rw [hg]
  dsimp only
  unfold CS.inv CS.tick
  dsimp only
  rw [doo_taken]
  exact ⟨h9.gor, h9.al, h9.lk, h9.ch, h9.ct, h9.me, h9.g0⟩
theorem new_inv : CS.new.inv := by
  refine ⟨fun g r hg => ?_, by decide, fun o p hp => (by cases hp), fun o c hc => (by cases hc), fun o => ⟨by show (0 : Int) ≤ 0; decide, by show (0 : Int) ≤ 2147483647; decide⟩, by decide, ⟨⟨[], 0, 0⟩, rfl⟩⟩
  have hg' : setF (fun _ => none) 0 (some (⟨[], 0, 0⟩ : Gor)) g = some r := hg
  by_cases e : g = 0
  · subst e
    rw [setF_same] at hg'
    cases hg'
    exact ⟨⟨by decide, by decide⟩, ⟨by decide, by decide⟩, ⟨by decide, by decide⟩, by simp, fun p hp => by cases hp⟩
  · rw [setF_other _ _ e] at hg'; cases hg'
end
end Go.Proofs.YtafkammiehcdjaaGreatDoor
