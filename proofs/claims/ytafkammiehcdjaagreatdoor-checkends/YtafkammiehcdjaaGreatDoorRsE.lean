/-
  Pieces that are written: what a store of a piece makes of them; Clone, halve.
-/
import Derived.Test.YtafkammiehcdjaaGreatDoorDelE
import Derived.Test.YtafkammiehcdjaaGreatDoorDelP
import Derived.Lib.SliceRun
namespace Go.Proofs.YtafkammiehcdjaaGreatDoor
open Go.RowKit
theorem pcs_ne {w : World} {P : Nat → Prop} {v : Value} {ps : List Pc} (h : Pcs w P v ps) {b : Nat} (hb : v.ownBlock = some b) {q : Pc} (hq : Own layN 148 w 0 q.val q.es) : q.val.ownBlock ≠ some b := by
  intro e
  obtain ⟨c1, h1⟩ := own_ty h.own hb
  obtain ⟨c2, h2⟩ := own_ty hq e
  rw [h1] at h2
  simp at h2
/-- A piece is stored in another's place. -/
theorem Pcs.put {w w1 : World} {P P' : Nat → Prop} {pg n c : Nat} {ps : List Pc} {i : Nat} {p q : Pc} (h : Pcs w P (.slice (some ⟨pg, 0, none⟩) n c) ps) (hn : ps.length = n) (hp : ps[i]? = some p) (hb : But (fun b => p.val.ownBlock = some b) w w1) (ho : Own layN 148 w1 0 q.val q.es)
    (hq : q.val.ownBlock = p.val.ownBlock ∨ ∃ b, q.val.ownBlock = some b ∧ w.heap.size ≤ b) (hP : ∀ b, P b → P' b) (hqP : ∀ b, q.val.ownBlock = some b → P' b) :
    Pcs (w1.setCell ⟨pg, i, none⟩ q.val) P' (.slice (some ⟨pg, 0, none⟩) n c) (ps.set i q) := by
  have hpm := List.mem_of_getElem? hp
  have hpg : ∀ r ∈ ps, r.val.ownBlock ≠ some pg := fun r hr => pcs_ne h rfl (h.each r hr)
  have hlt := (h.own.lt pg rfl).2
  have hown1 : Own layP 149 w1 0 (.slice (some ⟨pg, 0, none⟩) n c) ps := h.own.but hb (fun g hg e => by
    have e1 : pg = g := by simpa [Value.ownBlock] using hg
    subst e1; exact hpg p hpm e)
  have hown2 := hown1.setU hn hp (t := 0) (a' := q) (u := q.val) (by decide) rfl
  have e0 : i * layP.z + 0 = i := Nat.mul_one i
  rw [e0] at hown2
  have hB : But (fun b => b = pg) w1 (w1.setCell ⟨pg, i, none⟩ q.val) := (But.refl (fun b => b = pg) w1).setCell ⟨pg, i, none⟩ (fun _ => rfl) _
  have hqn : q.val.ownBlock ≠ some pg := by
    intro e
    obtain ⟨c1, h1⟩ := own_ty hown1 rfl
    obtain ⟨c2, h2⟩ := own_ty ho e
    rw [h1] at h2
    simp at h2
  have hget : ∀ (j : Nat) (r : Pc), (ps.set i q)[j]? = some r → (j = i ∧ r = q) ∨ (j ≠ i ∧ ps[j]? = some r) := by
    intro j r hr
    rw [List.getElem?_set] at hr
    by_cases e : i = j
    · rw [if_pos e] at hr
      split at hr
      · cases hr; exact .inl ⟨e.symm, rfl⟩
      · cases hr
    · rw [if_neg e] at hr; exact .inr ⟨fun e' => e e'.symm, hr⟩
  have hold : ∀ (j : Nat) (r : Pc), j ≠ i → ps[j]? = some r → Own layN 148 w1 0 r.val r.es := fun j r hj hr =>
    (h.each r (List.mem_of_getElem? hr)).but hb (fun g hg e => hj (h.apart j i r p g hr hp hg e))
  have hdis : ∀ (j : Nat) (r : Pc) (b : Nat), j ≠ i → ps[j]? = some r → r.val.ownBlock = some b → q.val.ownBlock ≠ some b := by
    intro j r b hj hr hrb e
    rcases hq with hq | ⟨b', hb', hle⟩
    · rw [hq] at e; exact hj (h.apart j i r p b hr hp hrb e)
    · rw [hb'] at e
      cases e
      have := ((h.each r (List.mem_of_getElem? hr)).lt b hrb).2
      omega
  refine ⟨hown2, fun r hr => ?_, fun b hb => hP b (h.vin b hb), fun r hr b hb => ?_, fun j1 j2 r1 r2 b hr1 hr2 hb1 hb2 => ?_⟩
  · obtain ⟨j, hj⟩ := List.mem_iff_getElem?.1 hr
    rcases hget j r hj with ⟨rfl, rfl⟩ | ⟨hne, hr'⟩
    · exact ho.but hB (fun g hg e => hqn (by rw [hg, e]))
    · exact (hold j r hne hr').but hB (fun g hg e => hpg r (List.mem_of_getElem? hr') (by rw [hg, e]))
  · obtain ⟨j, hj⟩ := List.mem_iff_getElem?.1 hr
    rcases hget j r hj with ⟨rfl, rfl⟩ | ⟨hne, hr'⟩
    · exact hqP b hb
    · exact hP b (h.pin r (List.mem_of_getElem? hr') b hb)
  · rcases hget j1 r1 hr1 with ⟨e1, rfl⟩ | ⟨n1, h1⟩
    · rcases hget j2 r2 hr2 with ⟨e2, rfl⟩ | ⟨n2, h2⟩
      · rw [e1, e2]
      · exact absurd hb1 (hdis j2 r2 b n2 h2 hb2)
    · rcases hget j2 r2 hr2 with ⟨e2, rfl⟩ | ⟨n2, h2⟩
      · exact absurd hb2 (hdis j1 r1 b n1 h1 hb1)
      · exact h.apart j1 j2 r1 r2 b h1 h2 hb1 hb2
set_option maxRecDepth 8000 in
/-- Clone of entries. -/
theorem cloE_any (b off n c : Nat) (M : List Ent) (w : World) (h : TRow layN w (some ⟨b, off, none⟩) n M) (hn : (n : Int) ≤ 4000000) :
    Calls Tryz.prog 156 #[.slice (some ⟨b, off, none⟩) n c] w fun r w' => ∃ v', r = .returned v' ∧ Own layN 148 w' w.heap.size v' M ∧ Below w.heap.size w w' := by
  obtain ⟨i0, hi, hz0, hz1, hz2⟩ := info_parts Tryz.infoN
  have hb1 := below_alloc1 w (.cells #[] 148)
  have HB1 := hide hb1
  have HR := hide (h.below hb1)
  have HO := hide (Own.lit0 layN 148 w (base := w.heap.size) (Nat.le_refl _))
  have HN := hide hn
  clear h hb1 hn
  have hnil := fun W : World => Lib.run_eql_slice_nil (P := Tryz.prog) W 149 148 (some ⟨b, off, none⟩) n c 0 0 Tryz.underlying149
  go_enter Tryz.func156, Tryz.ntmps156
  go_wp2_with (at_builtin; refine append_lay layN _ 149 148 i0 _ 16 Tryz.underlying149 hi hz0 hz1 hz2 rfl rfl _ _ rfl w.heap.size _ [] rfl HO.out _ n c M rfl HR.out (fun e => by cases e) ?b1 ?b2 (by simp) ?_)
  case b1 => unfold maxLen; have := HN.out; simp; omega
  case b2 => have := HN.out; simp; omega
  intro v' w' o1 g1 l1
  go_wp2
  go_ret
  refine ⟨v', rfl, by simpa using o1, ?_⟩
  exact (But.of_below (S := fun b => b = w.heap.size) HB1.out).grown g1 (fun k hk e => by simp [Value.ownBlock] at e; exact e.symm) |>.below (Nat.le_refl _) (fun k e => by omega)
/-- One more piece in the row of pieces. -/
theorem Pcs.ins {w w1 : World} {P P' : Nat → Prop} {v v' : Value} {ps : List Pc} {i : Nat} {q : Pc} (h : Pcs w P v ps) (hi : i ≤ ps.length) (hb : But (fun b => v.ownBlock = some b) w w1) (ho : Own layP 149 w1 0 v' (ps.take i ++ q :: ps.drop i))
    (hq : Own layN 148 w 0 q.val q.es) (hqn : ∀ r ∈ ps, ∀ b, r.val.ownBlock = some b → q.val.ownBlock ≠ some b) (hP : ∀ b, P b → P' b) (hvP : ∀ b, v'.ownBlock = some b → P' b) (hqP : ∀ b, q.val.ownBlock = some b → P' b) : Pcs w1 P' v' (ps.take i ++ q :: ps.drop i) := by
  have hne : ∀ r : Pc, Own layN 148 w 0 r.val r.es → ∀ g, r.val.ownBlock = some g → ¬ v.ownBlock = some g := fun r hr g hg e => pcs_ne h e hr hg
  have hmem : ∀ r, r ∈ ps.take i ++ q :: ps.drop i → r = q ∨ r ∈ ps := fun r hr => by
    rcases List.mem_append.1 hr with hr | hr
    · exact .inr (List.mem_of_mem_take hr)
    · rcases List.mem_cons.1 hr with hr | hr
      · exact .inl hr
      · exact .inr (List.mem_of_mem_drop hr)
  have htl : (ps.take i).length = i := by rw [List.length_take]; omega
  have hget : ∀ (j : Nat) (r : Pc), (ps.take i ++ q :: ps.drop i)[j]? = some r → (j < i ∧ ps[j]? = some r) ∨ (j = i ∧ r = q) ∨ (i < j ∧ ps[j - 1]? = some r) := by
    intro j r hr
    rcases Nat.lt_trichotomy j i with hj | hj | hj
    · rw [List.getElem?_append_left (by omega), List.getElem?_take, if_pos hj] at hr
      exact .inl ⟨hj, hr⟩
    · subst hj
      rw [List.getElem?_append_right (by omega), htl, Nat.sub_self] at hr
      simp at hr
      exact .inr (.inl ⟨rfl, hr.symm⟩)
    · rw [List.getElem?_append_right (by omega), htl] at hr
      obtain ⟨m, hm⟩ : ∃ m, j - i = m + 1 := ⟨j - i - 1, by omega⟩
      rw [hm, List.getElem?_cons_succ, List.getElem?_drop] at hr
      rw [show i + m = j - 1 by omega] at hr
      exact .inr (.inr ⟨hj, hr⟩)
  refine ⟨ho, fun r hr => ?_, hvP, fun r hr b hb => ?_, fun j1 j2 r1 r2 b hr1 hr2 hb1 hb2 => ?_⟩
  · rcases hmem r hr with rfl | hr
    · exact hq.but hb (hne _ hq)
    · exact (h.each r hr).but hb (hne _ (h.each r hr))
  · rcases hmem r hr with rfl | hr
    · exact hqP b hb
    · exact hP b (h.pin r hr b hb)
  · rcases hget j1 r1 hr1 with ⟨l1, g1⟩ | ⟨e1, rfl⟩ | ⟨l1, g1⟩ <;> rcases hget j2 r2 hr2 with ⟨l2, g2⟩ | ⟨e2, rfl⟩ | ⟨l2, g2⟩
    · exact h.apart j1 j2 r1 r2 b g1 g2 hb1 hb2
    · exact absurd hb2 (hqn r1 (List.mem_of_getElem? g1) b hb1)
    · have := h.apart j1 (j2 - 1) r1 r2 b g1 g2 hb1 hb2; omega
    · exact absurd hb1 (hqn r2 (List.mem_of_getElem? g2) b hb2)
    · omega
    · exact absurd hb1 (hqn r2 (List.mem_of_getElem? g2) b hb2)
    · have := h.apart (j1 - 1) j2 r1 r2 b g1 g2 hb1 hb2; omega
    · exact absurd hb2 (hqn r1 (List.mem_of_getElem? g1) b hb1)
    · have := h.apart (j1 - 1) (j2 - 1) r1 r2 b g1 g2 hb1 hb2; omega
/-- One piece less. -/
theorem Pcs.del {w w1 : World} {P : Nat → Prop} {v v' : Value} {ps : List Pc} {i : Nat} (h : Pcs w P v ps) (hb : But (fun b => v.ownBlock = some b) w w1) (ho : Own layP 149 w1 0 v' (ps.take i ++ ps.drop (i + 1))) (hv : v'.ownBlock = v.ownBlock) : Pcs w1 P v' (ps.take i ++ ps.drop (i + 1)) := by
  have hne : ∀ r : Pc, Own layN 148 w 0 r.val r.es → ∀ g, r.val.ownBlock = some g → ¬ v.ownBlock = some g := fun r hr g hg e => pcs_ne h e hr hg
  have hmem : ∀ r, r ∈ ps.take i ++ ps.drop (i + 1) → r ∈ ps := fun r hr => by
    rcases List.mem_append.1 hr with hr | hr
    · exact List.mem_of_mem_take hr
    · exact List.mem_of_mem_drop hr
  have hget : ∀ (j : Nat) (r : Pc), (ps.take i ++ ps.drop (i + 1))[j]? = some r → (j < i ∧ ps[j]? = some r) ∨ (i ≤ j ∧ ps[j + 1]? = some r) := by
    intro j r hr
    by_cases hj : j < (ps.take i).length
    · rw [List.getElem?_append_left hj] at hr
      rw [List.length_take] at hj
      rw [List.getElem?_take, if_pos (by omega)] at hr
      exact .inl ⟨by omega, hr⟩
    · rw [List.getElem?_append_right (by omega), List.getElem?_drop] at hr
      rw [List.length_take] at hj hr
      have := get_lt hr
      rw [show i + 1 + (j - min i ps.length) = j + 1 by omega] at hr
      exact .inr ⟨by omega, hr⟩
  refine ⟨ho, fun r hr => (h.each r (hmem r hr)).but hb (hne _ (h.each r (hmem r hr))), fun b hb => h.vin b (by rw [← hv]; exact hb), fun r hr b hb => h.pin r (hmem r hr) b hb, fun j1 j2 r1 r2 b hr1 hr2 hb1 hb2 => ?_⟩
  rcases hget j1 r1 hr1 with ⟨l1, g1⟩ | ⟨l1, g1⟩ <;> rcases hget j2 r2 hr2 with ⟨l2, g2⟩ | ⟨l2, g2⟩
  · exact h.apart j1 j2 r1 r2 b g1 g2 hb1 hb2
  · have := h.apart j1 (j2 + 1) r1 r2 b g1 g2 hb1 hb2; omega
  · have := h.apart (j1 + 1) j2 r1 r2 b g1 g2 hb1 hb2; omega
  · have := h.apart (j1 + 1) (j2 + 1) r1 r2 b g1 g2 hb1 hb2; omega
/-- P, and what was made since. -/
def More (P : Nat → Prop) (w w' : World) (b : Nat) : Prop := P b ∨ (w.heap.size ≤ b ∧ b < w'.heap.size)
end Go.Proofs.YtafkammiehcdjaaGreatDoor
