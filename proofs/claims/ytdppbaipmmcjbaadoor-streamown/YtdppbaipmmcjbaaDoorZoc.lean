import Derived.Test.YtdppbaipmmcjbaaDoorSLaw
/-
  The marks: a stream of two bodies.
-/
namespace Go.Proofs.YtdppbaipmmcjbaaDoor
open Go.RowKit
def mark (i : Nat) : Rc := ⟨i, 22, 0, 0, 0⟩
def marks : Nat → Nat → List Rc
  | _, 0 => []
  | k, n + 1 => mark k :: marks (k + 1) n
def rep : Nat → List Int
  | 0 => []
  | n + 1 => 22 :: 0 :: rep n
theorem text_mark (i : Nat) : text ⟨i, 0, 0⟩ (mark i) = [22, 0] := by
  unfold text fO fA fK xO xA xK mark
  simp [enc_small]
theorem text_32 : text St.zero (mark 32) = [22, 32] := by
  unfold text fO fA fK xO xA xK mark St.zero
  simp [enc_small]
theorem rep_len : ∀ n, (rep n).length = 2 * n
  | 0 => rfl
  | n + 1 => by rw [rep, List.length_cons, List.length_cons, rep_len n]; omega
theorem marks_snoc : ∀ (n k : Nat), marks k (n + 1) = marks k n ++ [mark (k + n)]
  | 0, k => rfl
  | n + 1, k => by
    rw [marks, marks_snoc n (k + 1), marks, List.cons_append]
    congr 3
    congr 1
    omega
theorem marks_len : ∀ (n k : Nat), (marks k n).length = n
  | 0, k => rfl
  | n + 1, k => by rw [marks, List.length_cons, marks_len n]
theorem encs_marks : ∀ (n k : Nat), encs ⟨k, 0, 0⟩ (marks k n) = rep n
  | 0, k => rfl
  | n + 1, k => by
    rw [marks, encs, text_mark, rep]
    show 22 :: 0 :: encs ⟨((k + 1 : Nat) : Int), 0, 0⟩ (marks (k + 1) n) = _
    rw [encs_marks n]
theorem putE_mark (k : Nat) (h : k < 1000) : putE St.zero (mark k) = 0 := putE_of (by unfold mark St.zero; dsimp only; omega)
theorem strE_marks : ∀ (n k : Nat) (m : Int), m ≤ k → k + n < 1000 → strE m (marks k n) = 0
  | 0, k, m, _, _ => rfl
  | n + 1, k, m, h, h2 => by
    rw [marks]
    exact strE_step.2 ⟨putE_mark k (by omega), h, strE_marks n (k + 1) _ (by unfold mark; dsimp only; omega) (by omega)⟩
theorem marks_ok : ∀ (n k : Nat), ∀ r ∈ marks k n, r.ok
  | 0, k, r, h => by simp [marks] at h
  | n + 1, k, r, h => by
    rw [marks] at h
    rcases List.mem_cons.1 h with e | e
    · subst e; exact ⟨by unfold mark; dsimp only; omega, by unfold mark; dsimp only; omega, by unfold mark; dsimp only; omega, by unfold mark; dsimp only; omega⟩
    · exact marks_ok n (k + 1) r e
theorem cut_marks : ∀ (n k : Nat) (b : List Int) (rest : List Rc), b.length + 2 * n ≤ 64 → cutS 64 b ⟨k, 0, 0⟩ (marks k n ++ rest) = cutS 64 (b ++ rep n) ⟨((k + n : Nat) : Int), 0, 0⟩ rest
  | 0, k, b, rest, _ => by rw [marks, rep, List.nil_append, List.append_nil]; rfl
  | n + 1, k, b, rest, h => by
    rw [marks, List.cons_append, cutS, text_mark, if_neg (by simp; omega)]
    show cutS 64 (b ++ [22, 0]) ⟨((k + 1 : Nat) : Int), 0, 0⟩ (marks (k + 1) n ++ rest) = _
    rw [cut_marks n (k + 1) (b ++ [22, 0]) rest (by simp; omega), rep, List.append_assoc]
    rw [show k + 1 + n = k + (n + 1) by omega]
    rfl
theorem cut_33 : cutS 64 [] St.zero (marks 0 33) = [rep 32, [22, 32]] := by
  rw [marks_snoc 32 0]
  have h := cut_marks 32 0 [] [mark (0 + 32)] (by simp)
  rw [List.nil_append] at h
  refine Eq.trans h ?_
  rw [cutS, if_pos ?_]
  · rw [show mark (0 + 32) = mark 32 from rfl, text_32, cutS, if_neg (by simp)]
  · rw [rep_len]
    have := text_mark 32
    rw [show (⟨((0 + 32 : Nat) : Int), 0, 0⟩ : St) = ⟨((32 : Nat) : Int), 0, 0⟩ from rfl, show mark (0 + 32) = mark 32 from rfl, this]
    simp
theorem dec_33 : decV 64 [rep 32, [22, 32]] = (marks 0 33, 0) := by
  have e1 : chunkV (rep 32) = (marks 0 32, 0) := by
    rw [← encs_marks 32 0]
    exact chunk_text (strE_marks 32 0 0 (by decide) (by decide)) (marks_ok 32 0) (by intro e; have := congrArg List.length e; rw [marks_len] at this; simp at this)
  have e2 : chunkV [22, 32] = ([mark 32], 0) := by
    have h := chunk_text (L := [mark 32]) (strE_step.2 ⟨putE_mark 32 (by decide), by decide, rfl⟩) (fun r hr => by simp at hr; subst hr; exact marks_ok 1 32 (mark 32) (by simp [marks])) (by simp)
    rw [encs, encs, List.append_nil, text_32] at h
    exact h
  have e3 : meets (marks 0 32) [mark 32] = true := by
    rw [marks_snoc 31 0]
    unfold meets
    rw [List.getLast?_concat]
    rfl
  have e4 : readV [] [rep 32, [22, 32]] = (marks 0 33, 0) := by
    rw [readV, e1, if_neg (by simp), if_neg (by simp [meets]), readV, e2, if_neg (by simp)]
    dsimp only [List.nil_append]
    rw [if_neg (by rw [e3]; simp), readV, marks_snoc 32 0]
  unfold decV
  rw [e4, if_neg (by simp), if_pos cut_33]
end Go.Proofs.YtdppbaipmmcjbaaDoor
/-
  awake: a stream of two bodies goes there and back.
-/
namespace Go.Proofs.YtdppbaipmmcjbaaDoor
open Go.RowKit
set_option maxHeartbeats 1600000 in
set_option maxRecDepth 8000 in
theorem awake_any (w : World) (hK : Kn w) (hw : 0 < w.heap.size) : Calls Tryd.prog 21 #[] w fun e w' => e = .returned (.bool true) ∧ Below w.heap.size w w' := by
  have I0 : Hid (w.ownsRow w.heap.size 48 5 (.slice none 0 0) 0 (flat (marks 0 0))) := hide (World.ownsRow_nil _ _ _ _)
  go_enter Tryd.func21, Tryd.ntmps21
  go_wp2
  go_loopw [1, 2] (fun s1 s2 wr => ∃ k : Nat, k ≤ 33 ∧ s2 = .int .i64 k ∧ wr.ownsRow w.heap.size 48 5 s1 k (flat (marks 0 k)) ∧ Below w.heap.size w wr) (fun _ s2 _ => 33 - (intOf s2).toNat)
  case atStart => exact ⟨0, by omega, rfl, I0.out, Below.refl _ _⟩
  case round =>
    obtain ⟨k, hk, rfl, hO, hB⟩ := hrel
    clear I0
    obtain ⟨av, cv, e9⟩ := own_formR hO
    subst e9
    have HO : Hid _ := hide hO
    have HB : Hid _ := hide hB
    have hsz := hB.size
    clear hO hB
    by_cases hlt : k < 33
    · have hltI : (k : Int) < 33 := by omega
      go_wp2_with (at_builtin; refine rec_lies _ rfl _ _ rfl w.heap.size (.slice av k cv) k (marks 0 k) rfl (HO.out.alloc _) wr.heap.size ⟨k, 22, 0, 0, 0⟩ rfl (heap_new wr _) (by omega) (by simp; omega) ?_; intro g4 c4 w4 o4 gr4 l4; have O4 : Hid _ := hide o4; have G4 : Hid _ := hide gr4; clear o4 gr4 l4)
      have hO4 := O4.out
      rw [show (⟨(k : Int), 22, 0, 0, 0⟩ : Rc) = mark (0 + k) by unfold mark; simp, ← marks_snoc k 0] at hO4
      exact ⟨⟨k + 1, by omega, by go_num, hO4, (HB.out.alloc hsz _).grown G4.out (by simp; omega) (fun j e => (HO.out.lt j e).1)⟩, by simp [intOf]; omega⟩
    · have hk33 : k = 33 := by omega
      subst hk33
      have hen := enc_any av 33 cv (marks 0 33) 64 wr (hK.below HB.out (by omega)) (by omega) (RRow.of_own HO.out) (marks_ok 33 0) ⟨by decide, by decide⟩ (by decide)
      have HS : Hid (strE 0 (marks 0 33) = 0) := hide (strE_marks 33 0 0 (by decide) (by decide))
      rw [show ((64 : Int).toNat) = 64 from rfl, cut_33] at hen
      have HEN : Hid _ := hide hen
      clear hen hlt hk
      go_wp2_with fail
      refine HEN.out.mono ?_
      rintro e w2 ⟨hb2, -, hg⟩
      obtain ⟨ao, co, vals, rfl, hBd, -, -⟩ := hg HS.out
      have hs2 := hb2.size
      obtain ⟨G, Gc, e9, _, _⟩ : ∃ G c, Value.slice ao [rep 32, [22, 32]].length co = .slice (some ⟨G, 0, none⟩) 2 c ∧ True ∧ True := by
        rcases hBd.own.2 with ⟨_, e⟩ | ⟨g, cap, cur, e, _⟩
        · simp at e
        · exact ⟨g, cap, e, trivial, trivial⟩
      cases e9
      have hLR : LRow w2 (some ⟨G, 0, none⟩) 2 [rep 32, [22, 32]] := hBd.lrow rfl (fun x hx => by
        simp at hx
        rcases hx with e | e
        · subst e; rw [rep_len]; decide
        · subst e; decide)
      obtain ⟨g0, p0, h01, h02⟩ := hBd.each 0 (rep 32) rfl
      obtain ⟨g1, p1, h11, h12⟩ := hBd.each 1 [22, 32] rfl
      have ha : ∀ i : Nat, (⟨G, 0, none⟩ : Addr).add i = ⟨G, i, none⟩ := by intro i; unfold Addr.add; split <;> simp_all
      have c0 := hBd.own.cells (g := G) rfl 0 _ h01
      have c1 := hBd.own.cells (g := G) rfl 1 _ h11
      rw [ha, rep_len] at c0
      rw [ha] at c1
      rw [show (2 * 32 : Nat) = 64 from rfl] at c0
      rw [show [(22 : Int), 32].length = 2 from rfl] at c1 h12
      have hrow1 := own_row_u8 h12 (u8_of_mem (by intro z hz; simp at hz; rcases hz with e | e <;> subst e <;> decide))
      obtain ⟨w3, hw3⟩ : ∃ w3, w3 = w2.alloc (.cells #[.int .u8 22, .int .u8 32] 5) := ⟨_, rfl⟩
      have hb3 : Below w2.heap.size w2 w3 := by rw [hw3]; exact below_alloc1 _ _
      have L3 : w3.heap[w2.heap.size]? = some (.cells #[.int .u8 22, .int .u8 32] 5 (0, 0)) := by rw [hw3]; exact heap_new _ _
      have hrow2 : Row w3 (some ⟨w2.heap.size, 0, none⟩) 2 [22, 32] := by
        refine ⟨rfl, u8_of_mem (by intro z hz; simp at hz; rcases hz with e | e <;> subst e <;> decide), .inr ⟨w2.heap.size, 0, rfl, fun i hi => ?_⟩⟩
        match i, hi with
        | 0, _ => rw [cell_of_row w3 _ (0 + 0) _ 5 (0, 0) L3]; rfl
        | 1, _ => rw [cell_of_row w3 _ (0 + 1) _ 5 (0, 0) L3]; rfl
      have HSB := same_any (some ⟨g1, 0, none⟩) (some ⟨w2.heap.size, 0, none⟩) 2 2 2 2 [22, 32] [22, 32] w3 (hrow1.below hb3) hrow2 (by decide)
      rw [decide_eq_true rfl] at HSB
      have HNU := num_any 0
      have Hw3 : Hid _ := hide hw3
      have HLR : Hid _ := hide hLR
      have HB2 : Hid _ := hide (HB.out.trans (hb2.mono hsz))
      have HB3 : Hid _ := hide hb3
      have HO2 : Hid _ := hide (own_below HO.out hb2)
      clear hg hBd h01 h02 h11 h12 hrow1 hrow2 hb2 hw3 hb3 L3 hLR HEN
      go_wp2_with (go_at_call 22; refine (HNU _).mono ?_; rintro e w9 ⟨rfl, rfl⟩)
      rw [← Hw3.out]
      refine HSB.mono ?_
      rintro e w5 ⟨rfl, m, hw5⟩
      have hb5 : Below w3.heap.size w3 w5 := by rw [hw5]; exact below_drewN (Below.refl _ _) m
      have hB5 : Below w9.heap.size w9 w5 := HB3.out.trans (hb5.mono HB3.out.size)
      have hW5 : Below w.heap.size w w5 := HB2.out.trans (hB5.mono HB2.out.size)
      have hs5 := hW5.size
      have hde := dec_any (some ⟨G, 0, none⟩) 2 co [rep 32, [22, 32]] 64 w5 (hK.below hW5 (by omega)) (by omega) (HLR.out.below hB5) ⟨by decide, by decide⟩ (by decide)
      rw [show ((64 : Int).toNat) = 64 from rfl, dec_33] at hde
      have HDE : Hid _ := hide hde
      have HO5 : Hid _ := hide (own_below HO2.out hB5)
      have HW5 : Hid _ := hide hW5
      clear hw5 hb5 hB5 hW5 hde HSB c0 c1
      go_wp2_with fail
      refine HDE.out.mono ?_
      rintro e w6 ⟨hb6, -, hg⟩
      obtain ⟨v6, rfl, hO6'⟩ := hg (by first | trivial | rfl)
      have hO6 : w6.ownsRow w5.heap.size 48 5 v6 (marks 0 33).length (flat (marks 0 33)) := hO6'
      rw [marks_len] at hO6
      obtain ⟨a6, c6, e9⟩ := own_formR hO6
      subst e9
      have HRS := rsame_eq a6 av 33 c6 cv (marks 0 33) w6 (RRow.of_own hO6) (RRow.of_own (own_below HO5.out hb6)) (by decide)
      have HB6 : Hid _ := hide (HW5.out.trans (hb6.mono hs5))
      clear hg hO6 hO6' hb6 HDE
      go_wp2_with (go_at_call 22; refine (HNU _).mono ?_; rintro e w9 ⟨rfl, rfl⟩)
      refine HRS.mono ?_
      rintro e w7 ⟨rfl, m7, hw7⟩
      have HB7 : Hid (Below w.heap.size w w7) := hide (by rw [hw7]; exact below_drewN HB6.out m7)
      clear hw7 HRS
      go_wp2
      go_ret
      exact ⟨rfl, HB7.out⟩
end Go.Proofs.YtdppbaipmmcjbaaDoor
