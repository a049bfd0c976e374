/-
  What a kind asks for and does.
-/
import Derived.Test.YtafkammiehcdjaaGreatDoorCkJ
import Derived.Test.YtafkammiehcdjaaGreatDoorCkK
import Derived.Test.YtafkammiehcdjaaGreatDoorCkM
import Derived.Test.YtafkammiehcdjaaGreatDoorCkN
import Derived.Test.YtafkammiehcdjaaGreatDoorCkO
import Derived.Test.YtafkammiehcdjaaGreatDoorZev
namespace Go.Proofs.YtafkammiehcdjaaGreatDoor
open Go.RowKit Go.Maps
section
variable {w w' : World} {cb : Nat} {B : Bl} {F : Nat → Option Lb} {M : CS} {N : Nat} {g k o a : Int} {s : Value}
/-- What a checked event keeps to. -/
structure Eb (g k o a : Int) : Prop where
  ok : EOk g o a
  k1 : 1 ≤ k
  k2 : k ≤ 22
  fj : k = 7 ∨ k = 8 → a ≤ 65535
  mc : k = 9 → a ≤ 65536
  rc : k = 12 → a ≤ 1
  ct : k = 14 → a ≤ 4294967295
  al : k = 20 ∨ k = 21 → 1 ≤ a ∧ o + (a - 1) ≤ 18446744073709551615
theorem kcases {k : Int} (h1 : 1 ≤ k) (h2 : k ≤ 22) : k = 1 ∨ k = 2 ∨ k = 3 ∨ k = 4 ∨ k = 5 ∨ k = 6 ∨ k = 7 ∨ k = 8 ∨ k = 9 ∨ k = 10 ∨ k = 11 ∨ k = 12 ∨ k = 13 ∨ k = 14 ∨ k = 15 ∨ k = 16 ∨ k = 17 ∨ k = 18 ∨ k = 19 ∨ k = 20 ∨ k = 21 ∨ k = 22 := by omega
theorem chk_eb {ls : List ByteArray} (h : E6.chk g k o a ls = 0) (o0 : 0 ≤ o) (o1 : o ≤ 18446744073709551615) (a0 : 0 ≤ a) (a1 : a ≤ 18446744073709551615) : Eb g k o a := by
  unfold E6.chk at h
  by_cases hk : 1 ≤ k ∧ k ≤ 22
  · rw [if_pos hk] at h
    by_cases hg : g < 0 ∨ 65536 ≤ g
    · rw [if_pos hg] at h; cases h
    · rw [if_neg hg] at h
      cases hob : E6.objB k.toNat o a with
      | false => rw [hob] at h; cases h
      | true =>
        rw [hob, if_pos rfl] at h
        cases har : E6.argB k.toNat a with
        | false => rw [har] at h; cases h
        | true =>
          clear h
          refine ⟨⟨by omega, by omega, o0, o1, a0, a1⟩, hk.1, hk.2, ?_, ?_, ?_, ?_, ?_⟩
          · rintro (rfl | rfl) <;> (have := of_decide_eq_true har; exact this.2)
          · rintro rfl; have := of_decide_eq_true har; exact this.2
          · rintro rfl; have := of_decide_eq_true har; exact this.2
          · rintro rfl
            have h9 := of_decide_eq_true har
            have h8 : a ≤ 4294967294 := h9.2
            omega
          · rintro (rfl | rfl)
            all_goals
              have h9 := of_decide_eq_true har
              have h8 : (1 : Int) ≤ a := h9.1
              unfold E6.objB at hob
              rw [if_neg (by decide), if_pos (by decide), har] at hob
              have h7 : o ≤ 18446744073709551615 - (a - 1) := by simpa using hob
              exact ⟨h8, by omega⟩
  · rw [if_neg hk] at h; cases h
theorem ask_any (h : Ck w cb B F M N) (he : Eb g k o a) (hok : M.ok) {r : Gor} (hg : M.gs g = some r) :
    Calls Tryz.prog (asksOf k) #[gPtr cb, .agg (evC g k o a s)] w fun e w' => e = .returned (.int .i64 (M.ask ⟨g, k, o, a⟩ r)) ∧ Below w.heap.size w w' := by
  have ho := he.ok
  rcases kcases he.k1 he.k2 with rfl | rfl | rfl | rfl | rfl | rfl | rfl | rfl | rfl | rfl | rfl | rfl | rfl | rfl | rfl | rfl | rfl | rfl | rfl | rfl | rfl | rfl
  · exact always_any
  · exact always_any
  · exact mayAcquire_any h ho
  · exact mayRelease_any h ho hg
  · exact mayAcquireToRead_any h ho
  · exact mayReleaseToRead_any h ho hg
  · exact mayFork_any h ho (he.fj (.inl rfl))
  · exact mayJoin_any h ho (he.fj (.inr rfl))
  · have e9 : M.ask ⟨g, 9, o, a⟩ r = (if (M.chans o).isSome = true then 13 else 0) := by
      show M.askChan ⟨g, 9, o, a⟩ r = _
      unfold CS.askChan
      dsimp only
      cases M.chans o <;> rfl
    rw [e9]
    exact mayMake_any h ho
  · refine Calls.mono (maySend_any h ho hok) ?_
    rintro e w1 ⟨rfl, hb⟩
    refine ⟨?_, hb⟩
    show _ = Ending.returned (Value.int .i64 (M.askChan ⟨g, 10, o, a⟩ r))
    unfold CS.askChan
    dsimp only
    cases M.chans o <;> rfl
  · refine Calls.mono (mayAck_any h ho hok hg) ?_
    rintro e w1 ⟨rfl, hb⟩
    refine ⟨?_, hb⟩
    show _ = Ending.returned (Value.int .i64 (M.askChan ⟨g, 11, o, a⟩ r))
    unfold CS.askChan
    dsimp only
    cases M.chans o <;> rfl
  · refine Calls.mono (mayReceive_any h ho hok) ?_
    rintro e w1 ⟨rfl, hb⟩
    refine ⟨?_, hb⟩
    show _ = Ending.returned (Value.int .i64 (M.askChan ⟨g, 12, o, a⟩ r))
    unfold CS.askChan
    dsimp only
    cases M.chans o <;> rfl
  · refine Calls.mono (mayClose_any h ho hok) ?_
    rintro e w1 ⟨rfl, hb⟩
    refine ⟨?_, hb⟩
    show _ = Ending.returned (Value.int .i64 (M.askChan ⟨g, 13, o, a⟩ r))
    unfold CS.askChan
    dsimp only
    cases M.chans o <;> rfl
  · exact mayCount_any h ho hok (he.ct rfl)
  · exact mayWait_any h ho
  · exact mayRunOnce_any h ho
  · exact always_any
  · exact always_any
  · exact always_any
  · exact mayAllocate_any h ho (he.al (.inl rfl)).1 (he.al (.inl rfl)).2
  · exact mayFree_any h ho (he.al (.inr rfl)).1 (he.al (.inr rfl)).2
  · exact always_any
theorem CkR.up {M2 : CS} {w2 : World} {N' : Nat} (h : CkR w cb F M2 N w2) (hN : N ≤ N') : CkR w cb F M2 N' w2 := by
  obtain ⟨B', F', h1, h2, h3⟩ := h
  exact ⟨B', F', h1.up hN, h2, h3⟩
theorem has_look {x : Int} {L : List Ent} (h : has x L = true) : ∃ u, look x L = some u := Option.isSome_iff_exists.1 h
theorem does_any (h : Ck w cb B F M N) (hN : N ≤ 2000000) (he : Eb g k o a) (hok : M.ok) {r : Gor} (hg : M.gs g = some r) (hask : M.ask ⟨g, k, o, a⟩ r = 0) :
    Calls Tryz.prog (doesOf k) #[gPtr cb, .agg (evC g k o a s)] w fun e w' => e = .returned (.tuple #[]) ∧ CkR w cb F (M.doo ⟨g, k, o, a⟩ r) (N + 1) w' := by
  have ho := he.ok
  have hup : ∀ {M2 : CS}, (∀ e w', e = Ending.returned (.tuple #[]) ∧ CkR w cb F M2 N w' → e = Ending.returned (.tuple #[]) ∧ CkR w cb F M2 (N + 1) w') := fun e w' ⟨h1, h2⟩ => ⟨h1, h2.up (Nat.le_succ N)⟩
  rcases kcases he.k1 he.k2 with rfl | rfl | rfl | rfl | rfl | rfl | rfl | rfl | rfl | rfl | rfl | rfl | rfl | rfl | rfl | rfl | rfl | rfl | rfl | rfl | rfl | rfl
  · exact (nothing_any h).mono hup
  · exact (nothing_any h).mono hup
  · exact acquire_any h ho hN hok hg
  · have h4 : M.toWrite o = true ∧ has o r.held = true := by
      by_cases h5 : M.toWrite o = true ∧ has o r.held = true
      · exact h5
      · have h6 : M.ask ⟨g, 4, o, a⟩ r = 5 := by show (if M.toWrite o = true ∧ has o r.held = true then (0 : Int) else 5) = 5; rw [if_neg h5]
        rw [h6] at hask; cases hask
    obtain ⟨u, hu⟩ := has_look h4.2
    exact release_any h ho hN hok hg hu
  · exact acquireToRead_any h ho hN hok hg
  · have h4 : has o r.held = true := by
      by_cases h5 : has o r.held = true
      · exact h5
      · have h6 : M.ask ⟨g, 6, o, a⟩ r = 7 := by
          show (if M.toWrite o = true then (7 : Int) else if has o r.held = true then 0 else 7) = 7
          rw [if_neg h5]
          split <;> rfl
        rw [h6] at hask; cases hask
    obtain ⟨u, hu⟩ := has_look h4
    exact releaseToRead_any h ho hN hok hg hu
  · have h4 : M.gs a = none := by
      have h6 : (if (M.gs a).isSome = true then (8 : Int) else 0) = 0 := hask
      cases hq : M.gs a with
      | none => rfl
      | some q => rw [hq] at h6; cases h6
    exact fork_any h ho hN hok (he.fj (.inl rfl)) h4
  · have h4 : has a M.alive = true := by
      have h6 : M.askGor ⟨g, 8, o, a⟩ = 0 := hask
      unfold CS.askGor at h6
      dsimp only at h6
      rw [if_neg (by decide)] at h6
      cases hq : M.gs a with
      | none => rw [hq] at h6; cases h6
      | some q =>
        rw [hq] at h6
        by_cases h5 : has a M.alive = true
        · exact h5
        · dsimp only at h6; rw [if_neg h5] at h6; cases h6
    obtain ⟨u, hu⟩ := has_look h4
    exact (join_any h ho hN hok hu).mono hup
  · have h4 : M.chans o = none := by
      have h6 : M.askChan ⟨g, 9, o, a⟩ r = 0 := hask
      unfold CS.askChan at h6
      cases hq : M.chans o with
      | none => rfl
      | some q => dsimp only at h6; rw [hq] at h6; cases h6
    exact makeChannel_any h ho hN (he.mc rfl) h4
  · cases hq : M.chans o with
    | none =>
      have h6 : M.askChan ⟨g, 10, o, a⟩ r = 0 := hask
      unfold CS.askChan at h6
      dsimp only at h6; rw [hq] at h6; cases h6
    | some c =>
      have e9 : M.doo ⟨g, 10, o, a⟩ r = { M with chans := setF M.chans o (some { c with sends := c.sends + 1 }), gs := if c.room = 0 then setF M.gs g (some { r with «to» := o, as_ := c.sends + 1 }) else M.gs } := by
        show (match M.chans o with | none => M | some c => { M with chans := setF M.chans o (some { c with sends := c.sends + 1 }), gs := if c.room = 0 then setF M.gs g (some { r with «to» := o, as_ := c.sends + 1 }) else M.gs }) = _
        rw [hq]
      rw [e9]
      exact (send_any h ho hN hok hg hq).mono hup
  · exact (ack_any h ho hN hg).mono hup
  · cases hq : M.chans o with
    | none =>
      have h6 : M.askChan ⟨g, 12, o, a⟩ r = 0 := hask
      unfold CS.askChan at h6
      dsimp only at h6; rw [hq] at h6; cases h6
    | some c =>
      have e9 : M.doo ⟨g, 12, o, a⟩ r = { M with chans := setF M.chans o (some { c with recvs := c.recvs + a }) } := by
        show (match M.chans o with | none => M | some c => { M with chans := setF M.chans o (some { c with recvs := c.recvs + a }) }) = _
        rw [hq]
      rw [e9]
      exact (receive_any h ho hN hok (he.rc rfl) hq).mono hup
  · cases hq : M.chans o with
    | none =>
      have h6 : M.askChan ⟨g, 13, o, a⟩ r = 0 := hask
      unfold CS.askChan at h6
      dsimp only at h6; rw [hq] at h6; cases h6
    | some c =>
      have e9 : M.doo ⟨g, 13, o, a⟩ r = { M with chans := setF M.chans o (some { c with closed := true }) } := by
        show (match M.chans o with | none => M | some c => { M with chans := setF M.chans o (some { c with closed := true }) }) = _
        rw [hq]
      rw [e9]
      exact (closeChannel_any h ho hN hq).mono hup
  · have h6 : (if M.cnt o + mzag a < 0 ∨ 2147483647 < M.cnt o + mzag a then (23 : Int) else 0) = 0 := hask
    by_cases h5 : M.cnt o + mzag a < 0 ∨ 2147483647 < M.cnt o + mzag a
    · rw [if_pos h5] at h6; cases h6
    · exact count_any h ho hN (by omega) (by omega)
  · exact (nothing_any h).mono hup
  · exact runOnce_any h ho hN
  · exact (nothing_any h).mono hup
  · exact (nothing_any h).mono hup
  · exact (nothing_any h).mono hup
  · exact (allocate_any h ho hN hok (he.al (.inl rfl)).1 (he.al (.inl rfl)).2).mono hup
  · have h6 : (if nxt (o + (a - 1)) M.mem = some (o + (a - 1), o) then (0 : Int) else 28) = 0 := hask
    by_cases h5 : nxt (o + (a - 1)) M.mem = some (o + (a - 1), o)
    · exact (free_any h ho hN hok (he.al (.inr rfl)).1 (he.al (.inr rfl)).2 (look_of_mem (h.me nf).ris (nxt_mem h5).1)).mono hup
    · rw [if_neg h5] at h6; cases h6
  · exact (nothing_any h).mono hup
end
end Go.Proofs.YtafkammiehcdjaaGreatDoor
