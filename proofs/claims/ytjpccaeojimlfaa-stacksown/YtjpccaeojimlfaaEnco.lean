/-
  A forest's bodies; Encode.
-/
import Derived.Test.YtjpccaeojimlfaaWrtA
import Derived.Test.YtjpccaeojimlfaaForP
namespace Go.Proofs.Ytjpccaeojimlfaa
open Go.RowKit Go.Maps Go.Shelf
def Anc (N : List Nd) : Prop := ∀ (i : Nat) (n : Nd), N[i]? = some n → n.1 ≤ i
theorem Rep.anc {L : List ByteArray} {N : List Nd} {P : List Stk} (h : Rep L N P) : Anc N := by
  intro i n hn
  obtain ⟨s, t, h1, _, h3, h4⟩ := h.node i n hn
  rw [← h3]
  rcases h4 with e | e
  · rw [e, num_nil]; omega
  · have ht : t ∈ P := List.mem_of_mem_take e
    have hne : t ≠ [] := fun e0 => h.noNil (by rw [← e0]; exact ht)
    rw [num_mem hne ht]
    obtain ⟨j, hj, e1⟩ := List.getElem_of_mem e
    rw [List.getElem_take] at e1
    have hjj : j < i := by rw [List.length_take] at hj; omega
    have := idx_of_get (t := t) h.nodup (i := j) (by rw [List.getElem?_eq_getElem (by rw [List.length_take] at hj; omega), e1])
    omega
def recN (N : List Nd) (id : Nat) : List Int := enc (id - 1 - (N.getD (id - 1) (0, 0)).1) ++ enc (N.getD (id - 1) (0, 0)).2
def bodiesN (N : List Nd) (lim : Nat) : List (List Int) := bodiesW lim (recN N) 1 N.length
theorem getN_get {N : List Nd} {k : Nat} (h : k < N.length) : N[k]? = some (N.getD k (0, 0)) := by
  rw [List.getD_eq_getElem?_getD]; simp [h]
theorem recN_ok {N : List Nd} (hl : N.length ≤ 262144) (hs : ∀ n ∈ N, n.1 ≤ 262144 ∧ n.2 ≤ 65536) (id : Nat) (h1 : 1 ≤ id) (h2 : id < 1 + N.length) : (recN N id).length ≤ 70000 ∧ ∀ z ∈ recN N id, 0 ≤ z ∧ z ≤ 255 := by
  have hm := hs _ (List.mem_of_getElem? (getN_get (N := N) (k := id - 1) (by omega)))
  unfold recN
  refine ⟨?_, ?_⟩
  · rw [List.length_append]
    have := enc_le (id - 1 - (N.getD (id - 1) (0, 0)).1) (by omega)
    have := enc_le (N.getD (id - 1) (0, 0)).2 (by omega)
    omega
  · intro z hz
    rcases List.mem_append.1 hz with e | e
    · exact enc_mem _ z e
    · exact enc_mem _ z e
set_option maxRecDepth 4000 in
theorem rec_any {w : World} {fb tb : Nat} {S : Nat → Prop} {N : List Nd} {v : Value} {mb : Nat} (hF : Frs w fb tb S N v mb) (hA : Anc N) (X id : Nat) (hX : w.cell? ⟨X, 0, none⟩ = some (.pointer (some ⟨fb, 0, none⟩))) (h1 : 1 ≤ id) (h2 : id < 1 + N.length) :
    Calls Try.prog 48 #[.int .i64 (id : Int), .pointer (some ⟨X, 0, none⟩)] w fun e w' => ∃ v, e = .returned v ∧ w'.ownsRow w.heap.size 5 1 v (recN N id).length ((recN N id).map (Value.int .u8)) ∧ Below w.heap.size w w' := by
  obtain ⟨j, rfl⟩ : ∃ j, id = j + 1 := ⟨id - 1, by omega⟩
  have hg := getN_get (N := N) (k := j) (by omega)
  obtain ⟨g, c, hv, n0, n1⟩ := hF.node_at hg
  have hanc := hA j _ hg
  have hsm := hF.small _ (List.mem_of_getElem? hg)
  have c1 := hF.cell1
  have hNl : (N.length : Int) ≤ 262144 := by have := hF.len; omega
  have HE : Hid (recN N (j + 1) = enc (j - (N.getD j (0, 0)).1) ++ enc (N.getD j (0, 0)).2) := hide (by unfold recN; rw [Nat.add_sub_cancel])
  subst hv
  obtain ⟨p, f, hpf⟩ : ∃ p f, N.getD j (0, 0) = (p, f) := ⟨_, _, rfl⟩
  rw [hpf] at HE n0 n1 hanc hsm
  dsimp only at HE n0 n1 hanc hsm
  rw [HE.out]
  have hjI : (j : Int) < N.length := by omega
  have hp : (p : Int) ≤ j := by omega
  have hf : (f : Int) ≤ 65536 := by omega
  have hcast : (((j - p : Nat) : Int)) = (j : Int) - p := by omega
  have HC : Hid _ := hide hcast
  have HEl : Hid ((enc (j - p)).length ≤ 10 ∧ (enc f).length ≤ 10) := ⟨enc_le _ (by omega), enc_le _ (by omega)⟩
  clear hg hanc hsm hA hpf hF HE h1 h2 hcast
  go_enter Try.func48, Try.ntmps48
  obtain ⟨W1, hW1⟩ : ∃ W1, W1 = w.alloc (.cells #[.int .i64 (p : Int), .int .i64 (f : Int)] 73) := ⟨_, rfl⟩
  have r1 : W1.heap[w.heap.size]? = some (.cells #[.int .i64 (p : Int), .int .i64 (f : Int)] 73 (0, 0)) := by rw [hW1]; exact heap_alloc_new w _
  have HR1 : Hid _ := hide r1
  have q1 : W1.cell? ⟨w.heap.size, 1, none⟩ = some (.int .i64 (f : Int)) := by rw [cell_of_row W1 w.heap.size 1 _ 73 (0, 0) r1]; rfl
  have HB1 : Hid (Below w.heap.size w W1) := hide (by rw [hW1]; exact (Below.refl _ w).alloc (Nat.le_refl _) _)
  have HS1 : Hid (W1.heap.size = w.heap.size + 1) := hide (by rw [hW1]; simp)
  have HU : Hid _ := hide (uv_any ((j : Int) - p) W1 (by omega) (by omega))
  rw [← HC.out, Int.toNat_natCast, HC.out] at HU
  clear r1
  go_wp2_with fail
  rw [← hW1]
  have HW1 : Hid _ := hide hW1
  clear hW1
  refine HU.out.mono ?_
  rintro e w2 ⟨c2, rfl, ho2, hb2⟩
  have q2 : w2.cell? ⟨w.heap.size, 1, none⟩ = some (.int .i64 (f : Int)) := cell_block q1 (hb2.block _ (World.block_lt_of_cell? _ _ q1))
  have HB2 : Hid (Below w.heap.size w w2) := hide (HB1.out.trans (hb2.mono HB1.out.size))
  have HO2 : Hid _ := hide ho2
  have HU2 : Hid _ := hide (uv_any (f : Int) w2 (by omega) (by omega))
  rw [Int.toNat_natCast] at HU2
  clear ho2 hb2 q1
  go_wp2_with fail
  refine HU2.out.mono ?_
  rintro e w3 ⟨c3, rfl, ho3, hb3⟩
  have HO3 : Hid (w3.ownsRow w.heap.size 5 1 (.slice (some ⟨W1.heap.size, 0, none⟩) (enc (j - p)).length c2) (enc (j - p)).length ((enc (j - p)).map (Value.int .u8))) := hide (own_mono (own_but (S := fun _ => False) HO2.out (But.of_below hb3) (fun _ _ e => e)) HB1.out.size)
  have HB3 : Hid (Below w.heap.size w w3) := hide (HB2.out.trans (hb3.mono HB2.out.size))
  have HR3 : Hid (Row w3 (some ⟨w2.heap.size, 0, none⟩) (enc f).length (enc f)) := hide (own_row_u8 ho3 (u8_of_mem (enc_mem f)))
  clear ho3 hb3 q2
  go_wp2_with (first
    | (at_builtin; refine append_rowB _ rfl _ _ rfl w.heap.size (.slice (some ⟨W1.heap.size, 0, none⟩) (enc (j - p)).length c2) (enc (j - p)).length (enc (j - p)) rfl HO3.out (some ⟨w2.heap.size, 0, none⟩) (enc f).length c3 (enc f) rfl HR3.out (by intro e; cases e) (by have := HEl.out; omega) HB3.out.size ?_
       intro a4 c4 w4 o4 g4 _
       have HO4 : Hid _ := hide o4
       have HG4 : Hid _ := hide g4
       clear o4 g4)
    | go_in)
  go_ret
  refine ⟨.slice a4 ((enc (j - p)).length + (enc f).length) c4, rfl, by rw [List.length_append]; exact HO4.out, ?_⟩
  exact HB3.out.grown HG4.out HB3.out.size (fun k hk => (HO3.out.lt k hk).1)
theorem limit_any (lim : Int) (w : World) : Calls Try.prog 34 #[.int .i64 lim] w fun e w' => e = .returned (.bool (decide (64 ≤ lim ∧ lim ≤ 1048576))) ∧ w' = w := by
  by_cases h1 : 64 ≤ lim
  · by_cases h2 : lim ≤ 1048576
    · have H : Hid (decide (64 ≤ lim ∧ lim ≤ 1048576) = true) := hide (decide_eq_true ⟨h1, h2⟩)
      generalize decide (64 ≤ lim ∧ lim ≤ 1048576) = r at H ⊢
      go_enter Try.func34, Try.ntmps34
      go_wp2
      go_ret
      exact ⟨ret_bool H.out.symm, rfl⟩
    · have H : Hid (decide (64 ≤ lim ∧ lim ≤ 1048576) = false) := hide (decide_eq_false (fun h => h2 h.2))
      generalize decide (64 ≤ lim ∧ lim ≤ 1048576) = r at H ⊢
      go_enter Try.func34, Try.ntmps34
      go_wp2
      go_ret
      exact ⟨ret_bool H.out.symm, rfl⟩
  · have H : Hid (decide (64 ≤ lim ∧ lim ≤ 1048576) = false) := hide (decide_eq_false (fun h => h1 h.1))
    generalize decide (64 ≤ lim ∧ lim ≤ 1048576) = r at H ⊢
    go_enter Try.func34, Try.ntmps34
    go_wp2
    go_ret
    exact ⟨ret_bool H.out.symm, rfl⟩
theorem bodies_f {w : World} {fb tb : Nat} {S : Nat → Prop} {N : List Nd} {v : Value} {mb : Nat} (hF : Frs w fb tb S N v mb) (hA : Anc N) (lim : Nat) (hlim : (lim : Int) ≤ 1048576) :
    Calls Try.prog 35 #[.pointer (some ⟨fb, 0, none⟩), .int .i64 (lim : Int)] w fun e w' => ∃ a c vals, e = .returned (.slice a (bodiesN N lim).length c) ∧ Lists w' w.heap.size (.slice a (bodiesN N lim).length c) (bodiesN N lim) vals ∧ Below w.heap.size w w' := by
  obtain ⟨W1, hW1⟩ : ∃ W1, W1 = w.alloc (.cells #[.pointer (some ⟨fb, 0, none⟩)] 26) := ⟨_, rfl⟩
  have b1 : Below w.heap.size w W1 := by rw [hW1]; exact (Below.refl _ w).alloc (Nat.le_refl _) _
  have x1 : W1.cell? ⟨w.heap.size, 0, none⟩ = some (.pointer (some ⟨fb, 0, none⟩)) := by rw [hW1]; exact cell_new _ _ _
  have hF1 := hF.kept (T := fun _ => False) (But.of_below b1) (fun _ _ e => e)
  have c1 := hF.cell1
  obtain ⟨va, vc, rfl⟩ := own_form hF1.own
  have hNl : (N.length : Int) ≤ 262144 := by have := hF.len; omega
  have HW : Hid _ := hide (write_f w.heap.size 1 N.length (N.length + 1) lim (by omega) (recN N) W1 hlim (by omega) (recN_ok hF.len hF.small) (fun id W h1 h2 hb => by
    have hFW := hF1.kept (T := fun _ => False) (But.of_below hb) (fun _ _ e => e)
    exact rec_any hFW hA w.heap.size id (cell_block x1 (hb.block _ (World.block_lt_of_cell? _ _ x1))) h1 h2))
  have HB : Hid _ := hide b1
  have hfb := hF.lt
  have hmf : ∀ (fn : Fn) (first cap : Array Value) (w : World), (Instr.makeFunc fn first cap).run Try.prog w = .ok (.func fn first cap) w := fun _ _ _ _ => rfl
  clear hF hF1 hA b1
  go_enter Try.func35, Try.ntmps35
  rw [show ((N.length + 1 : Nat) : Int) = (N.length : Int) + 1 from rfl, show ((1 : Nat) : Int) = 1 from rfl] at HW
  go_wp2_with fail
  rw [← hW1]
  refine HW.out.mono ?_
  rintro e w2 ⟨a2, c2, vals, rfl, hl, hb⟩
  have HL : Hid _ := hide hl
  have HB2 : Hid _ := hide hb
  clear hl hb hW1
  go_wp2
  go_ret
  exact ⟨a2, c2, vals, rfl, ⟨own_mono HL.out.own HB.out.size, fun i b hi => by
    obtain ⟨a, c, e1, e2⟩ := HL.out.each i b hi
    exact ⟨a, c, e1, own_mono e2 HB.out.size⟩, HL.out.apart, HL.out.u8⟩, HB.out.trans (HB2.out.mono HB.out.size)⟩
theorem encode_nil (lim : Int) (w : World) : Calls Try.prog 22 #[.pointer none, .int .i64 lim] w fun e w' => e = .returned (.tuple #[.slice none 0 0, .int .i64 1]) ∧ w' = w := by
  have HM : Hid _ := hide (missing_nil w)
  go_enter Try.func22, Try.ntmps22
  go_wp2_with fail
  refine HM.out.mono ?_
  rintro e w' ⟨rfl, rfl⟩
  go_wp2
  go_ret2
  exact ⟨rfl, rfl⟩
theorem encode_bad {w : World} {fb tb : Nat} {S : Nat → Prop} {N : List Nd} {v : Value} {mb : Nat} (hF : Frs w fb tb S N v mb) (lim : Int) (hb : ¬ (64 ≤ lim ∧ lim ≤ 1048576)) :
    Calls Try.prog 22 #[.pointer (some ⟨fb, 0, none⟩), .int .i64 lim] w fun e w' => e = .returned (.tuple #[.slice none 0 0, .int .i64 2]) ∧ w' = w := by
  have HM : Hid _ := hide (missing_any fb tb w hF.cell0)
  have HL : Hid _ := hide (limit_any lim w)
  rw [decide_eq_false hb] at HL
  clear hF hb
  go_enter Try.func22, Try.ntmps22
  go_wp2_with fail
  refine HM.out.mono ?_
  rintro e w' ⟨rfl, rfl⟩
  go_wp2_with fail
  refine HL.out.mono ?_
  rintro e w' ⟨rfl, rfl⟩
  go_wp2
  go_ret2
  exact ⟨rfl, rfl⟩
theorem encode_ok {w : World} {fb tb : Nat} {S : Nat → Prop} {N : List Nd} {v : Value} {mb : Nat} (hF : Frs w fb tb S N v mb) (hA : Anc N) (lim : Nat) (h1 : 64 ≤ (lim : Int)) (h2 : (lim : Int) ≤ 1048576) :
    Calls Try.prog 22 #[.pointer (some ⟨fb, 0, none⟩), .int .i64 (lim : Int)] w fun e w' => ∃ a c vals, e = .returned (.tuple #[.slice a (bodiesN N lim).length c, .int .i64 0]) ∧ Lists w' w.heap.size (.slice a (bodiesN N lim).length c) (bodiesN N lim) vals ∧ Below w.heap.size w w' := by
  have HM : Hid _ := hide (missing_any fb tb w hF.cell0)
  have HL : Hid _ := hide (limit_any lim w)
  rw [decide_eq_true ⟨h1, h2⟩] at HL
  have HQ : Hid _ := hide (bodies_f hF hA lim h2)
  clear hF hA h1 h2
  go_enter Try.func22, Try.ntmps22
  go_wp2_with fail
  refine HM.out.mono ?_
  rintro e w' ⟨rfl, rfl⟩
  go_wp2_with fail
  refine HL.out.mono ?_
  rintro e w' ⟨rfl, rfl⟩
  go_wp2_with fail
  refine HQ.out.mono ?_
  rintro e w2 ⟨a2, c2, vals, rfl, hl, hb⟩
  have HL2 : Hid _ := hide hl
  have HB2 : Hid _ := hide hb
  clear hl hb
  go_wp2
  go_ret2
  exact ⟨a2, c2, vals, rfl, HL2.out, HB2.out⟩
end Go.Proofs.Ytjpccaeojimlfaa
