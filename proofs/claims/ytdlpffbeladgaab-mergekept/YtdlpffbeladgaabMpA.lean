/-
  A map of lists of records: what it holds, what a store into it makes of it.
-/
import Derived.Test.YtdlpffbeladgaabKey
import Derived.Maps.OwnSet
namespace Go.Proofs.Ytdlpffbeladgaab
open Go.RowKit Go.Maps
/-- What lies in the map, as it lies. -/
def heldR (v : Value) : Option (DataW Value × List MemPlace) := some (.held v, [])
theorem law3 : Keyed Try.prog 3 := int_keyed Try.underlying3
theorem key3 {g : Int} (h0 : 0 ≤ g) (h1 : g < 65536) : keyOf Try.prog 3 (.int .i64 g) = some (.int .i64 g) := keyOf_int_mk Try.underlying3 (WalkArith.wf_i64 (by omega))
theorem klit (g : Int) : WideAt.IsKeyLit (.int .i64 g) := by trivial
theorem map_but {S : Nat → Prop} {w w' : World} {H : Type} {P : Program} {k : TypeId} {R : Value → Option (DataW H × List MemPlace)} {b n : Nat} {D : DataW H} (h : w.ownsMap P k R b n D) (hb : But S w w') (hv : ¬ S b) : w'.ownsMap P k R b n D := by
  obtain ⟨es, clock, hh, r⟩ := h
  exact ⟨es, clock, (hb.block b (Array.getElem?_eq_some_iff.1 hh).1 hv).trans hh, r⟩
structure Gm (w : World) (base mb n : Nat) (D : DataW Value) (vg : Int → Value) (L : List (Vt × Int)) : Prop where
  map : w.ownsMap Try.prog 3 heldR mb n D
  at_ : ∀ g, D.atKey (.int .i64 g) (.held (.slice none 0 0)) = .held (vg g)
  has : ∀ g, Maps.has D (.int .i64 g) = true ↔ recG g L ≠ []
  own : ∀ g, Own layR 42 w base (vg g) (recG g L)
  one : ∀ g h b, (vg g).ownBlock = some b → (vg h).ownBlock = some b → g = h
theorem Gm.below {w w' : World} {base mb n : Nat} {D : DataW Value} {vg : Int → Value} {L : List (Vt × Int)} (h : Gm w base mb n D vg L) (hb : Below w.heap.size w w') : Gm w' base mb n D vg L :=
  ⟨map_but (S := fun _ => False) h.map (But.of_below hb) (fun e => e), h.at_, h.has, fun g => (h.own g).below hb, h.one⟩
theorem Gm.but {S : Nat → Prop} {w w' : World} {base mb n : Nat} {D : DataW Value} {vg : Int → Value} {L : List (Vt × Int)} (h : Gm w base mb n D vg L) (hb : But S w w') (hm : ¬ S mb) (hv : ∀ g b, (vg g).ownBlock = some b → ¬ S b) : Gm w' base mb n D vg L :=
  ⟨map_but h.map hb hm, h.at_, h.has, fun g => (h.own g).but hb (hv g), h.one⟩
theorem own_ty {α : Type} {y : Lay α} {e : TypeId} {w : World} {base b : Nat} {v : Value} {C : List α} (h : Own y e w base v C) (hb : v.ownBlock = some b) : ∃ cur, w.heap[b]? = some (.cells cur e (0, 0)) := by
  rcases h.2 with ⟨rfl, _⟩ | ⟨g, cap, cur, rfl, _, hh, _⟩
  · simp [Value.ownBlock] at hb
  · have e1 : g = b := by simpa [Value.ownBlock] using hb
    subst e1
    exact ⟨cur, hh⟩
theorem Gm.made (w : World) (base : Nat) : Gm (w.alloc (.map #[] 0)) base w.heap.size 0 (.map []) (fun _ => .slice none 0 0) [] :=
  ⟨World.ownsMap_made w Try.prog 3 heldR, fun g => by rw [Maps.atKey_of_not_has rfl], fun g => by simp [Maps.has, recG_nil], fun g => Own.nil _ _ _ _, fun g h b e => by simp [Value.ownBlock] at e⟩
theorem own_not_map {α : Type} {y : Lay α} {e : TypeId} {w : World} {base b : Nat} {v : Value} {C : List α} {es : Array MapEntry} {cl : Nat} (h : Own y e w base v C) (hb : w.heap[b]? = some (.map es cl)) : v.ownBlock ≠ some b := by
  intro hv
  rcases h.2 with ⟨rfl, _⟩ | ⟨g, cap, cur, rfl, _, hh, _⟩
  · simp [Value.ownBlock] at hv
  · have e1 : g = b := by simpa [Value.ownBlock] using hv
    subst e1
    rw [hh] at hb
    cases hb
theorem Gm.ne {w : World} {base mb n : Nat} {D : DataW Value} {vg : Int → Value} {L : List (Vt × Int)} (h : Gm w base mb n D vg L) (g : Int) : (vg g).ownBlock ≠ some mb := by
  obtain ⟨es, clock, hh, _⟩ := h.map
  exact own_not_map (h.own g) hh
theorem Gm.look {w : World} {base mb n : Nat} {D : DataW Value} {vg : Int → Value} {L : List (Vt × Int)} (h : Gm w base mb n D vg L) {g : Int} (h0 : 0 ≤ g) (h1 : g < 65536) : (Instr.lookup 51 (.map (some mb)) (.int .i64 g) false).run Try.prog w = .ok (vg g) w := by
  obtain ⟨v, ps, hrun, hv⟩ := h.map.lookup law3 Try.underlying51 (Try.zeroValue38 w) (zd := .held (.slice none 0 0)) (zp := []) rfl (key3 h0 h1)
  rw [h.at_ g] at hv
  simp [heldR] at hv
  rw [hrun, hv.1]
/-- Behind an append to one of the lists. -/
theorem Gm.grow {w w1 : World} {base mb n : Nat} {D : DataW Value} {vg : Int → Value} {L : List (Vt × Int)} (h : Gm w base mb n D vg L) {g : Int} (hg : w.grownBy w1 (vg g).ownBlock) : w1.ownsMap Try.prog 3 heldR mb n D ∧ ∀ x, x ≠ g → Own layR 42 w1 base (vg x) (recG x L) := by
  refine ⟨h.map.kept hg (fun e => h.ne g e.symm), fun x hx => ?_⟩
  refine (h.own x).but (S := fun k => (vg g).ownBlock = some k) (But.of_grown hg fun _ e => e) (fun b hb e => hx (h.one x g b hb e))
theorem Gm.put {w w1 w2 : World} {base mb n : Nat} {D : DataW Value} {vg : Int → Value} {L : List (Vt × Int)} (h : Gm w base mb n D vg L) {e : Vt × Int} {v' : Value} (hg : w.grownBy w1 (vg e.1.g).ownBlock)
    (hv : v'.ownBlock = (vg e.1.g).ownBlock ∨ v'.ownBlock = some w.heap.size) (ho : Own layR 42 w1 base v' (recG e.1.g L ++ [rcOf (e, L.length)]))
    (hm : w2.ownsMap Try.prog 3 heldR mb (n + 1) (D.put (.int .i64 e.1.g) (.held v'))) (hg2 : w1.grownBy w2 (some mb)) :
    Gm w2 base mb (n + 1) (D.put (.int .i64 e.1.g) (.held v')) (fun x => if x = e.1.g then v' else vg x) (L ++ [e]) := by
  obtain ⟨hm1, hx1⟩ := h.grow hg
  have hIs := h.map.isMap
  have b2 : But (fun k => k = mb) w1 w2 := But.of_grown hg2 (fun k e => by injection e with e; exact e.symm)
  have hnm : ∀ {v : Value} {C : List Rc}, Own layR 42 w1 base v C → ∀ b, v.ownBlock = some b → ¬ b = mb := by
    intro v C hC b hb e
    subst e
    obtain ⟨es, clock, hh, _⟩ := hm1
    exact own_not_map hC hh hb
  refine ⟨hm, fun x => ?_, fun x => ?_, fun x => ?_, fun x y b => ?_⟩
  · by_cases hx : x = e.1.g
    · subst hx; rw [Maps.atKey_put_same hIs (klit _), if_pos rfl]
    · rw [Maps.atKey_put_other (fun c => hx (by injection c)), if_neg hx, h.at_]
  · by_cases hx : x = e.1.g
    · subst hx; rw [Maps.has_put_same hIs (klit _), recG_mine rfl]; simp
    · rw [Maps.has_put_other (fun c => hx (by injection c)), recG_other (fun c => hx c.symm), h.has]
  · by_cases hx : x = e.1.g
    · subst hx
      rw [if_pos rfl, recG_mine rfl]
      exact ho.but b2 (hnm ho)
    · rw [if_neg hx, recG_other (fun c => hx c.symm)]
      exact (hx1 x hx).but b2 (hnm (hx1 x hx))
  · intro h1 h2
    by_cases hx : x = e.1.g <;> by_cases hy : y = e.1.g
    · rw [hx, hy]
    · rw [if_pos hx] at h1
      rw [if_neg hy] at h2
      rcases hv with hv | hv
      · rw [hv] at h1; exact absurd (h.one _ _ b h1 h2).symm hy
      · rw [hv] at h1; injection h1 with h1
        have := ((h.own y).lt b h2).2
        omega
    · rw [if_neg hx] at h1
      rw [if_pos hy] at h2
      rcases hv with hv | hv
      · rw [hv] at h2; exact absurd (h.one _ _ b h1 h2) hx
      · rw [hv] at h2; injection h2 with h2
        have := ((h.own x).lt b h1).2
        omega
    · rw [if_neg hx] at h1
      rw [if_neg hy] at h2
      exact h.one _ _ b h1 h2
/-- The keys, sorted, are the goroutines by rising number. -/
theorem Gm.gors {w : World} {base mb n : Nat} {D : DataW Value} {vg : Int → Value} {L : List (Vt × Int)} (h : Gm w base mb n D vg L) {ss : List Int} (hs : ss.Perm (intKeys D)) : Gors (ss.mergeSort leI) L := by
  obtain ⟨es, hD, hpw, _⟩ := h.map.entries law3
  obtain ⟨es', hD', hko⟩ := h.map.keysOf
  obtain rfl : es = es' := by rw [hD] at hD'; simpa using hD'
  have hkey : ∀ p ∈ es, ∃ x, p.1 = .int .i64 x := fun p hp => by obtain ⟨v, hv⟩ := hko p hp; obtain ⟨x, _, hx, _⟩ := Maps.keyOf_i64 Try.underlying3 hv; exact ⟨x, hx⟩
  have hnd : (intKeys D).Nodup := by
    rw [hD]
    show (es.map fun p => Go.intOf p.1).Nodup
    refine List.pairwise_map.2 (hpw.imp_of_mem fun {p q} hp' hq' hne e => hne ?_)
    obtain ⟨a, ha⟩ := hkey p hp'
    obtain ⟨b, hb⟩ := hkey q hq'
    rw [ha, hb] at e ⊢
    exact congrArg _ e
  have hmem : ∀ x, x ∈ intKeys D ↔ Maps.has D (.int .i64 x) = true := by
    intro x
    rw [hD, has_eq, List.any_eq_true]
    show x ∈ es.map (fun p => Go.intOf p.1) ↔ _
    rw [List.mem_map]
    constructor
    · rintro ⟨p, hp', rfl⟩
      obtain ⟨a, ha⟩ := hkey p hp'
      exact ⟨p, hp', by rw [ha]; simp [Lit.sameKey, Go.intOf]⟩
    · rintro ⟨p, hp', hs⟩
      obtain ⟨a, ha⟩ := hkey p hp'
      rw [ha] at hs
      exact ⟨p, hp', by rw [ha]; simpa [Lit.sameKey, Go.intOf] using hs⟩
  have hp := (List.mergeSort_perm ss leI).trans hs
  have hle : (ss.mergeSort leI).Pairwise fun x y => leI x y = true := List.pairwise_mergeSort (fun a b c h1 h2 => by simp at h1 h2 ⊢; omega) (fun a b => by simp; omega) ss
  refine ⟨?_, fun g => ?_⟩
  · have hn2 : (ss.mergeSort leI).Nodup := hp.nodup_iff.2 hnd
    refine (hle.and hn2).imp ?_
    rintro a b ⟨h1, h2⟩
    simp at h1
    omega
  · rw [hp.mem_iff, hmem, h.has, recG_ne]
end Go.Proofs.Ytdlpffbeladgaab
