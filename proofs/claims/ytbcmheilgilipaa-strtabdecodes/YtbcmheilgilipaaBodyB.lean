/-
  All bodies of a table; Encode.
-/
import Derived.Test.YtbcmheilgilipaaBodyA
import Derived.Test.YtbcmheilgilipaaWrtA
namespace Go.Proofs.Ytbcmheilgilipaa
open Go.RowKit Go.Maps Go.Shelf
def recS (L : List ByteArray) (id : Nat) : List Int := recd (L.getD id ByteArray.empty)
theorem recS_at {L : List ByteArray} {id : Nat} (h : id < L.length) : L[id]? = some (L.getD id ByteArray.empty) := by
  rw [List.getD_eq_getElem?_getD]; simp [h]
theorem recS_ok {L : List ByteArray} (hs : ∀ s ∈ L, s.size ≤ 65536) (id : Nat) (h : id < L.length) : (recS L id).length ≤ 70000 ∧ ∀ z ∈ recS L id, 0 ≤ z ∧ z ≤ 255 := by
  have := hs _ (List.mem_of_getElem? (recS_at h))
  refine ⟨?_, recd_u8 _⟩
  unfold recS
  rw [recd_len]
  have := enc_le (L.getD id ByteArray.empty).size (by omega)
  omega
/-- The bodies that chunk.Write makes are cut as they must be. -/
theorem bodiesW_cut (L : List ByteArray) (lim : Nat) : ∀ k, k ≤ L.length → (k = 0 ∧ bodiesW lim (recS L) 0 k = []) ∨ ∃ bs first cnt, bodiesW lim (recS L) 0 k = bs ++ [bodyOf L first cnt] ∧ CutTo L lim 0 bs first ∧ first + cnt = k ∧ 1 ≤ cnt ∧ (1 < cnt → (bodyOf L first cnt).length ≤ lim) := by
  intro k
  induction k with
  | zero => intro _; exact .inl ⟨rfl, rfl⟩
  | succ k ih =>
    intro hk
    have hs := recS_at (L := L) (id := k) (by omega)
    have h1 : enc k ++ recS L k = bodyOf L k 1 := by rw [bodyOf_succ (k := 0) hs, bodyOf_zero]; rfl
    right
    rw [bodiesW_succ, Nat.zero_add]
    rcases ih (by omega) with ⟨rfl, e⟩ | ⟨bs, first, cnt, e, hc, hf, hp, hl⟩
    · rw [e, stepW_nil, h1]
      exact ⟨[], 0, 1, rfl, rfl, rfl, Nat.le_refl _, fun h => absurd h (by decide)⟩
    · rw [e, stepW_snoc]
      have hs' : L[first + cnt]? = some (L.getD k ByteArray.empty) := by rw [hf]; exact hs
      split
      · rename_i hle
        refine ⟨bs, first, cnt + 1, by rw [bodyOf_succ hs']; rfl, hc, by omega, by omega, fun _ => ?_⟩
        rw [bodyOf_succ hs', List.length_append]
        exact hle
      · rename_i hle
        refine ⟨bs ++ [bodyOf L first cnt], k, 1, by rw [h1], ?_, rfl, Nat.le_refl _, fun h => absurd h (by decide)⟩
        have := hc.snoc (cnt := cnt) ⟨hp, by omega, hl, fun s hs2 => by
          rw [hs'] at hs2
          cases hs2
          have : (recS L k).length = (recd (L.getD k ByteArray.empty)).length := rfl
          omega⟩
        rwa [hf] at this
theorem bodiesW_cutting (L : List ByteArray) (lim : Nat) : Cutting L lim 0 (bodiesW lim (recS L) 0 L.length) := by
  rcases bodiesW_cut L lim L.length (Nat.le_refl _) with ⟨h0, e⟩ | ⟨bs, first, cnt, e, hc, hf, hp, hl⟩
  · rw [e]; exact h0.symm
  · rw [e]
    have := hc.snoc (cnt := cnt) ⟨hp, by omega, hl, fun s hs => by
      have := (List.getElem?_eq_some_iff.1 hs).1
      omega⟩
    rw [hf] at this
    exact this.all
theorem rec_t {w : World} {tb : Nat} {S : Nat → Prop} {L : List ByteArray} {v mv : Value} (h : Tab w tb S L v mv) (X id : Nat) (hX : w.cell? ⟨X, 0, none⟩ = some (.pointer (some ⟨tb, 0, none⟩))) (hid : id < L.length) :
    Calls Try.prog 44 #[.int .i64 (id : Int), .pointer (some ⟨X, 0, none⟩)] w fun e w' => ∃ v, e = .returned v ∧ w'.ownsRow w.heap.size 5 1 v (recS L id).length ((recS L id).map (Value.int .u8)) ∧ Below w.heap.size w w' := by
  have c0 := h.cell0
  obtain ⟨a, c, rfl⟩ := own_form h.own
  obtain ⟨b, off, rfl, hc⟩ := (SRow.of_own h.own).at hid
  have hsz := h.small _ (List.mem_of_getElem? (recS_at hid))
  have hLl : (L.length : Int) ≤ 65536 := by have := h.len; omega
  have hidI : (id : Int) < L.length := by omega
  obtain ⟨s, hs⟩ : ∃ s, s = L.getD id ByteArray.empty := ⟨_, rfl⟩
  have HE : Hid (recS L id = enc s.size ++ sbytes s) := hide (by unfold recS recd; rw [← hs])
  rw [← hs] at hc hsz
  rw [HE.out]
  have HU : Hid _ := hide (uv_any (s.size : Int) w (by omega) (by omega))
  rw [Int.toNat_natCast] at HU
  have hsI : (s.size : Int) ≤ 65536 := by omega
  have HEl : Hid ((enc s.size).length ≤ 10) := enc_le _ (by omega)
  clear h hs HE hid
  go_enter Try.func44, Try.ntmps44
  go_wp2_with fail
  refine HU.out.mono ?_
  rintro e w2 ⟨c2, rfl, ho2, hb2⟩
  have HB2 : Hid (Below w.heap.size w w2) := hb2
  have HO2 : Hid _ := hide ho2
  clear ho2 hb2
  go_wp2_with (first
    | (at_builtin; refine append_bytes _ rfl _ _ rfl w.heap.size (.slice (some ⟨w.heap.size, 0, none⟩) (enc s.size).length c2) (enc s.size).length (enc s.size) rfl HO2.out s rfl (by have := HEl.out; omega) HB2.out.size ?_
       intro a4 c4 w4 o4 g4
       have HO4 : Hid _ := hide o4
       have HG4 : Hid _ := hide g4
       clear o4 g4)
    | go_in)
  go_ret
  refine ⟨.slice a4 ((enc s.size).length + s.size) c4, rfl, by rw [List.length_append, sbytes_len]; exact HO4.out, ?_⟩
  exact HB2.out.grown HG4.out HB2.out.size (fun k hk => (HO2.out.lt k hk).1)
theorem bodies_any {w : World} {tb : Nat} {S : Nat → Prop} {L : List ByteArray} {v mv : Value} (h : Tab w tb S L v mv) (lim : Nat) (hlim : (lim : Int) ≤ 1048576) :
    Calls Try.prog 31 #[.pointer (some ⟨tb, 0, none⟩), .int .i64 (lim : Int)] w fun e w' => ∃ a c bs vals, e = .returned (.slice a bs.length c) ∧ Cutting L lim 0 bs ∧ Lists w' w.heap.size (.slice a bs.length c) bs vals ∧ Below w.heap.size w w' := by
  obtain ⟨W1, hW1⟩ : ∃ W1, W1 = w.alloc (.cells #[.pointer (some ⟨tb, 0, none⟩)] 24) := ⟨_, rfl⟩
  have b1 : Below w.heap.size w W1 := by rw [hW1]; exact (Below.refl _ w).alloc (Nat.le_refl _) _
  have x1 : W1.cell? ⟨w.heap.size, 0, none⟩ = some (.pointer (some ⟨tb, 0, none⟩)) := by rw [hW1]; exact cell_new _ _ _
  have h1 := h.kept (T := fun _ => False) (But.of_below b1) (fun _ _ e => e)
  have c0 := h.cell0
  obtain ⟨va, vc, rfl⟩ := own_form h1.own
  have hLl : (L.length : Int) ≤ 65536 := by have := h.len; omega
  have HW : Hid _ := hide (write_f w.heap.size 0 L.length L.length lim (by omega) (recS L) W1 hlim (by omega) (fun id _ h2 => recS_ok h.small id (by omega)) (fun id W _ h2 hb => by
    have hW := h1.kept (T := fun _ => False) (But.of_below hb) (fun _ _ e => e)
    exact rec_t hW w.heap.size id (cell_block x1 (hb.block _ (World.block_lt_of_cell? _ _ x1))) (by omega)))
  have HC : Hid _ := hide (bodiesW_cutting L lim)
  have HB : Hid _ := hide b1
  have htb := h.lt
  clear h h1 b1
  generalize bodiesW lim (recS L) 0 L.length = bs at HW HC
  go_enter Try.func31, Try.ntmps31
  rw [show ((0 : Nat) : Int) = 0 from rfl] at HW
  go_wp2_with fail
  rw [← hW1]
  refine HW.out.mono ?_
  rintro e w2 ⟨a2, c2, vals, rfl, hl, hb⟩
  have HL : Hid _ := hide hl
  have HB2 : Hid _ := hide hb
  clear hl hb hW1
  go_wp2
  go_ret
  exact ⟨a2, c2, bs, vals, rfl, HC.out, HL.out.mono HB.out.size, HB.out.trans (HB2.out.mono HB.out.size)⟩
def encV (a : Option Addr) (n c : Nat) : Value := .tuple #[.slice a n c, .int .i64 0]
theorem encode_any {w : World} {tb : Nat} {S : Nat → Prop} {L : List ByteArray} {v mv : Value} (h : Tab w tb S L v mv) (lim : Nat) (hlo : 64 ≤ (lim : Int)) (hlim : (lim : Int) ≤ 1048576) :
    Calls Try.prog 11 #[.pointer (some ⟨tb, 0, none⟩), .int .i64 (lim : Int)] w fun e w' => ∃ a c bs vals, e = .returned (.tuple #[.slice a bs.length c, .int .i64 0]) ∧ Cutting L lim 0 bs ∧ Lists w' w.heap.size (.slice a bs.length c) bs vals ∧ Below w.heap.size w w' := by
  have HQ : Hid _ := hide (bodies_any h lim hlim)
  clear h
  have Q1 : Calls Try.prog 30 #[.int .i64 (lim : Int)] w fun e w' => e = .returned (.bool true) ∧ w' = w := by
    clear HQ
    go_enter Try.func30, Try.ntmps30
    go_wp2
    go_ret
    exact ⟨rfl, rfl⟩
  have HQ1 : Hid _ := hide Q1
  clear Q1
  go_enter Try.func11, Try.ntmps11
  go_wp2_with fail
  refine HQ1.out.mono ?_
  rintro e w1 ⟨rfl, rfl⟩
  go_wp2_with fail
  refine HQ.out.mono ?_
  rintro e w2 ⟨a, c, bs, vals, rfl, hcu, hls, hb⟩
  have H1 : Hid (Cutting L lim 0 bs) := hcu
  have H2 : Hid (Lists w2 w1.heap.size (.slice a bs.length c) bs vals) := hls
  have H3 : Hid (Below w1.heap.size w1 w2) := hb
  clear hcu hls hb
  go_wp2
  go_ret2
  exact ⟨a, c, bs, vals, rfl, H1.out, H2.out, H3.out⟩
end Go.Proofs.Ytbcmheilgilipaa
