/-
  The document's forest: records and bodies.
-/
import Derived.Test.YtffakkdmojhjkaaRefJ
import Derived.Test.YtffakkdmojhjkaaEnco
namespace Go.Proofs.Ytffakkdmojhjkaa
open Go.RowKit Go.Maps Go.Shelf
attribute [local go_sem] Oper.semAt_some
theorem rrecd_any {w : World} {fb tb : Nat} {S : Nat → Prop} {N : List Nd} {v : Value} (hF : RFr w fb tb S N v) (hA : Anc N) (id : Nat) (h1 : 1 ≤ id) (h2 : id < 1 + N.length) :
    Calls Try.prog 71 #[.pointer (some ⟨fb, 0, none⟩), .int .i64 (id : Int)] w fun e w' => ∃ a c, e = .returned (.slice a (recN N id).length c) ∧ w'.ownsRow w.heap.size 5 1 (.slice a (recN N id).length c) (recN N id).length ((recN N id).map (Value.int .u8)) ∧ Below w.heap.size w w' := by
  obtain ⟨j, rfl⟩ : ∃ j, id = j + 1 := ⟨id - 1, by omega⟩
  have hg := getN_get (N := N) (k := j) (by omega)
  obtain ⟨g, c, hv, n0, n1⟩ := hF.node_at hg
  have hanc := hA j _ hg
  have hsm := hF.small _ (List.mem_of_getElem? hg)
  have c1 := hF.cell1
  have hNl : (N.length : Int) ≤ 262144 := by have := hF.len; omega
  have HE : Hid (recN N (j + 1) = enc (j - (N.getD j (0, 0)).1) ++ enc (N.getD j (0, 0)).2) := hide (by unfold recN; rw [Nat.add_sub_cancel])
  subst hv
  obtain ⟨p, f, hpf⟩ : ∃ p f, N.getD j (0, 0) = (p, f) := ⟨_, _, rfl⟩
  rw [hpf] at HE n0 n1 hanc hsm
  dsimp only at HE n0 n1 hanc hsm
  rw [HE.out]
  have hjI : (j : Int) < N.length := by omega
  have hp : (p : Int) ≤ j := by omega
  have hf : (f : Int) ≤ 65536 := by omega
  have hcast : (((j - p : Nat) : Int)) = (j : Int) - p := by omega
  have HC : Hid _ := hide hcast
  have HEl : Hid ((enc (j - p)).length ≤ 10 ∧ (enc f).length ≤ 10) := ⟨enc_le _ (by omega), enc_le _ (by omega)⟩
  clear hg hanc hsm hA hpf hF HE h1 h2 hcast
  go_enter Try.func71, Try.ntmps71
  obtain ⟨W1, hW1⟩ : ∃ W1, W1 = w.alloc (.cells #[.int .i64 (p : Int), .int .i64 (f : Int)] 88) := ⟨_, rfl⟩
  have r1 : W1.heap[w.heap.size]? = some (.cells #[.int .i64 (p : Int), .int .i64 (f : Int)] 88 (0, 0)) := by rw [hW1]; exact heap_alloc_new w _
  have q0 : W1.cell? ⟨w.heap.size, 0, none⟩ = some (.int .i64 (p : Int)) := by rw [cell_of_row W1 w.heap.size 0 _ 88 (0, 0) r1]; rfl
  have q1 : W1.cell? ⟨w.heap.size, 1, none⟩ = some (.int .i64 (f : Int)) := by rw [cell_of_row W1 w.heap.size 1 _ 88 (0, 0) r1]; rfl
  have HB1 : Hid (Below w.heap.size w W1) := hide (by rw [hW1]; exact (Below.refl _ w).alloc (Nat.le_refl _) _)
  have HU : Hid _ := hide (ruv_any ((j : Int) - p) W1 (by omega) (by omega))
  rw [← HC.out, Int.toNat_natCast, HC.out] at HU
  clear r1
  go_wp2_with fail
  rw [← hW1]
  have HW1 : Hid _ := hide hW1
  clear hW1
  refine HU.out.mono ?_
  rintro e w2 ⟨v2, rfl, ho2, hb2⟩
  obtain ⟨a2, c2, rfl⟩ := own_formB ho2
  have HB2 : Hid (Below w.heap.size w w2) := hide (HB1.out.trans (hb2.mono HB1.out.size))
  have HR2 : Hid (Row w2 a2 (enc (j - p)).length (enc (j - p))) := hide (own_row_u8 ho2 (u8_of_mem (enc_mem _)))
  have HN2 : Hid _ := hide (own_nil ho2)
  have q2 : Hid (w2.cell? ⟨w.heap.size, 1, none⟩ = some (.int .i64 (f : Int))) := hide (cell_block q1 (hb2.block _ (World.block_lt_of_cell? _ _ q1)))
  clear ho2 hb2 q0 q1
  go_wp2_with (first
    | (at_builtin; refine append_rowB _ rfl _ _ rfl w2.heap.size (.slice none 0 0) 0 [] rfl (World.ownsRow_nil _ _ _ _) a2 (enc (j - p)).length c2 (enc (j - p)) rfl HR2.out HN2.out (by have := HEl.out; omega) (Nat.le_refl _) ?_
       intro a3 c3 w3 o3 g3 _
       have HO3 : Hid (w3.ownsRow w.heap.size 5 1 (.slice a3 (enc (j - p)).length c3) (enc (j - p)).length ((enc (j - p)).map (Value.int .u8))) := hide (own_mono (by rw [Nat.zero_add] at o3; exact o3) HB2.out.size)
       have k3 : Hid (But (fun _ => False) w2 w3) := hide ((But.refl _ w2).grown g3 (fun k _ e => by simp [Value.ownBlock] at e))
       have HB3 : Hid (Below w.heap.size w w3) := hide (HB2.out.trans (k3.out.below HB2.out.size (fun _ e => e.elim)))
       have q3 : w3.cell? ⟨w.heap.size, 1, none⟩ = some (.int .i64 (f : Int)) := cell_but q2.out k3.out (fun e => e)
       have HU3 : Hid _ := hide (ruv_any (f : Int) w3 (by omega) (by omega))
       clear o3 g3)
    | fail)
  rw [Int.toNat_natCast] at HU3
  refine HU3.out.mono ?_
  rintro e w4 ⟨v4, rfl, ho4, hb4⟩
  obtain ⟨a4, c4, rfl⟩ := own_formB ho4
  have HB4 : Hid (Below w.heap.size w w4) := hide (HB3.out.trans (hb4.mono HB3.out.size))
  have HR4 : Hid (Row w4 a4 (enc f).length (enc f)) := hide (own_row_u8 ho4 (u8_of_mem (enc_mem _)))
  have HN4 : Hid _ := hide (own_nil ho4)
  have HO4 : Hid (w4.ownsRow w.heap.size 5 1 (.slice a3 (enc (j - p)).length c3) (enc (j - p)).length ((enc (j - p)).map (Value.int .u8))) := hide (own_but (S := fun _ => False) HO3.out (But.of_below hb4) (fun _ _ e => e))
  clear ho4 hb4 q3
  go_wp2_with (first
    | (at_builtin; refine append_rowB _ rfl _ _ rfl w.heap.size (.slice a3 (enc (j - p)).length c3) (enc (j - p)).length (enc (j - p)) rfl HO4.out a4 (enc f).length c4 (enc f) rfl HR4.out HN4.out (by have := HEl.out; omega) HB4.out.size ?_
       intro a5 c5 w5 o5 g5 _
       have HO5 : Hid _ := hide o5
       have HG5 : Hid _ := hide g5
       clear o5 g5)
    | go_in)
  go_ret
  have e0 : (enc (j - p) ++ enc f).length = (enc (j - p)).length + (enc f).length := by rw [List.length_append]
  refine ⟨a5, c5, by rw [e0]; rfl, by rw [e0]; exact HO5.out, ?_⟩
  exact HB4.out.grown HG5.out HB4.out.size (fun k hk => (HO4.out.lt k hk).1)
theorem Lists.take_in {w w2 : World} {base : Nat} {v : Value} {bs : List (List Int)} {vals : List Value} {b : List Int} {a1 : Option Addr} {c1 : Nat} {a2 : Option Addr} {c2 : Nat} (h : Lists w base v bs vals)
    (ho1 : w.ownsRow base 5 1 (.slice a1 b.length c1) b.length (b.map (Value.int .u8))) (hu : ∀ z ∈ b, 0 ≤ z ∧ z ≤ 255) (hap : ∀ x ∈ vals, ∀ g, x.ownBlock = some g → (Value.slice a1 b.length c1).ownBlock ≠ some g)
    (o2 : w2.ownsRow base 44 1 (.slice a2 (bs.length + 1) c2) (bs.length + 1) (vals ++ [.slice a1 b.length c1])) (g2 : (w.alloc (.cells #[.slice a1 b.length c1] 44)).grownBy w2 v.ownBlock) :
    Lists w2 base (.slice a2 (bs.length + 1) c2) (bs ++ [b]) (vals ++ [.slice a1 b.length c1]) := by
  have hl := h.len
  have k2 : But (fun k => v.ownBlock = some k) w w2 := (But.refl _ w).alloc _ |>.grown g2 (fun k _ e => e)
  have hone : w2.ownsRow base 5 1 (.slice a1 b.length c1) b.length (b.map (Value.int .u8)) := own_but ho1 k2 (fun g hg e => own_types ho1 h.own (by decide) g hg e)
  have hold : ∀ x ∈ vals, ∀ g, x.ownBlock = some g → ¬ v.ownBlock = some g := by
    intro x hx g hg e
    obtain ⟨b', _, a', c', rfl, ho⟩ := h.row hx
    exact own_types ho h.own (by decide) g hg e
  refine ⟨by rw [List.length_append]; exact o2, fun i b' hi => ?_, ?_, ?_⟩
  · by_cases hlt : i < bs.length
    · rw [List.getElem?_append_left hlt] at hi
      obtain ⟨a', c', e1, e2⟩ := h.each i b' hi
      exact ⟨a', c', by rw [List.getElem?_append_left (by omega)]; exact e1, own_but e2 k2 (hold _ (List.mem_of_getElem? e1))⟩
    · have hi2 := (List.getElem?_eq_some_iff.1 hi).1
      simp at hi2
      have e0 : i = bs.length := by omega
      subst e0
      rw [List.getElem?_append_right (Nat.le_refl _)] at hi
      simp at hi
      subst hi
      exact ⟨a1, c1, by rw [← hl, List.getElem?_append_right (Nat.le_refl _)]; simp, hone⟩
  · rw [List.pairwise_append]
    refine ⟨h.apart, List.pairwise_singleton _ _, ?_⟩
    intro x hx y hy
    simp at hy
    subst hy
    exact hap x hx
  · intro b' hb'
    rcases List.mem_append.1 hb' with hb' | hb'
    · exact h.u8 b' hb'
    · simp at hb'; subst hb'; exact hu
theorem Lists.lt {w : World} {base : Nat} {v : Value} {bs : List (List Int)} {vals : List Value} (h : Lists w base v bs vals) {x : Value} (hx : x ∈ vals) {g : Nat} (hg : x.ownBlock = some g) : g < w.heap.size := by
  obtain ⟨b, _, a, c, rfl, ho⟩ := h.row hx
  exact (ho.lt g hg).2
theorem begun {w w2 w3 w4 : World} {out : Value} {bs : List (List Int)} {vals : List Value} {a3 a4 : Option Addr} {c3 c4 : Nat} {E R : List Int} (hls : Lists w2 w.heap.size out bs vals) (hB : Below w.heap.size w w2)
    (ho3 : w3.ownsRow w2.heap.size 5 1 (.slice a3 E.length c3) E.length (E.map (Value.int .u8))) (hb3 : Below w2.heap.size w2 w3)
    (g4 : w3.grownBy w4 (Value.slice a3 E.length c3).ownBlock) (hloc : (Value.slice a4 (E.length + R.length) c4).ownBlock = (Value.slice a3 E.length c3).ownBlock ∨ (Value.slice a4 (E.length + R.length) c4).ownBlock = some w3.heap.size) :
    Lists w4 w.heap.size out bs vals ∧ (∀ x ∈ vals, ∀ g, x.ownBlock = some g → (Value.slice a4 (E.length + R.length) c4).ownBlock ≠ some g) ∧ Below w.heap.size w w4 := by
  have hls3 := hls.below hb3
  have k4 : But (fun k => (Value.slice a3 E.length c3).ownBlock = some k) w3 w4 := But.of_grown g4 (fun k e => e)
  refine ⟨hls3.but k4 (fun g hg e => own_types hls3.own ho3 (by decide) g hg e) (fun x hx g hg e => ?_), fun x hx g hg e => ?_, (hB.trans (hb3.mono hB.size)).grown g4 (Nat.le_trans hB.size hb3.size) (fun k hk => Nat.le_trans hB.size (ho3.lt k hk).1)⟩
  · have := hls.lt hx hg; have := (ho3.lt g e).1; omega
  · have h1 := hls.lt hx hg
    have h2 := hb3.size
    rcases hloc with e1 | e1
    · have := (ho3.lt g (e1.symm.trans e)).1; omega
    · rw [e1] at e; cases e; omega
theorem longer {w w1 w4 : World} {out : Value} {bs : List (List Int)} {vals : List Value} {ab a4 : Option Addr} {cb c4 : Nat} {B R : List Int} (hls : Lists w1 w.heap.size out bs vals) (hB : Below w.heap.size w w1)
    (hob : w1.ownsRow w.heap.size 5 1 (.slice ab B.length cb) B.length (B.map (Value.int .u8))) (hap : ∀ x ∈ vals, ∀ g, x.ownBlock = some g → (Value.slice ab B.length cb).ownBlock ≠ some g)
    (g4 : w1.grownBy w4 (Value.slice ab B.length cb).ownBlock) (hloc : (Value.slice a4 (B.length + R.length) c4).ownBlock = (Value.slice ab B.length cb).ownBlock ∨ (Value.slice a4 (B.length + R.length) c4).ownBlock = some w1.heap.size) :
    Lists w4 w.heap.size out bs vals ∧ (∀ x ∈ vals, ∀ g, x.ownBlock = some g → (Value.slice a4 (B.length + R.length) c4).ownBlock ≠ some g) ∧ Below w.heap.size w w4 := by
  have k4 : But (fun k => (Value.slice ab B.length cb).ownBlock = some k) w1 w4 := But.of_grown g4 (fun k e => e)
  refine ⟨hls.but k4 (fun g hg e => own_types hls.own hob (by decide) g hg e) (fun x hx g hg e => hap x hx g hg e), fun x hx g hg e => ?_, hB.grown g4 hB.size (fun k hk => (hob.lt k hk).1)⟩
  have h1 := hls.lt hx hg
  rcases hloc with e1 | e1
  · exact hap x hx g hg (e1.symm.trans e)
  · rw [e1] at e; cases e; omega
end Go.Proofs.Ytffakkdmojhjkaa
