/-
  Next of nil; the document's Left.
-/
import Derived.Test.YtdlpffbeladgaaaMgF
import Derived.Test.YtdlpffbeladgaaaMSp
namespace Go.Proofs.Ytdlpffbeladgaaa
open Go.RowKit Go.Maps Go.Shelf
attribute [local go_sem] Oper.semAt_some
set_option maxRecDepth 100000 in
set_option maxHeartbeats 4000000 in
theorem next_nil (w : World) : Calls Try.prog 16 #[.pointer none] w fun r w' => r = .returned (.tuple #[.agg #[.int .i64 0, .int .i64 0, .int .u64 0, .int .u64 0, .slice none 0 0], .int .i64 0, .int .i64 1]) ∧ Below w.heap.size w w' := by
  refine (callsIn_wide (n := 4)).1 ?_
  refine callsIn_of_wp_marks Try.func16 rfl trivial ?_ rfl
  simp only [Try.ntmps16, List.size_toArray, List.length_cons, List.length_nil, Nat.reduceAdd, Nat.reduceSub, Array.replicate_succ, Array.replicate_zero, List.push_toArray, List.append_toArray, List.nil_append, List.cons_append]
  gi_wp2_with fail
  obtain ⟨w3, hw3⟩ : ∃ w3, w3 = ((w.alloc (.cells #[.int .i64 0, .int .i64 0, .int .u64 0, .int .u64 0, .slice none 0 0] 46)).alloc (.cells #[.int .i64 0] 3)).alloc (.cells #[.int .i64 1] 30) := ⟨_, rfl⟩
  have b3 : Below w.heap.size w w3 := by rw [hw3]; exact (below_alloc2 _ _ _).alloc (by simp; omega) _
  have t0 : w3.heap[w.heap.size]? = some (.cells #[.int .i64 0, .int .i64 0, .int .u64 0, .int .u64 0, .slice none 0 0] 46 (0, 0)) := by rw [hw3]; exact heap_old (heap_old (heap_new _ _))
  have t1 : w3.heap[w.heap.size + 1]? = some (.cells #[.int .i64 0] 3 (0, 0)) := by rw [hw3]; exact heap_old (heap_new2 _ _ _)
  have t2 : w3.heap[w.heap.size + 1 + 1]? = some (.cells #[.int .i64 1] 30 (0, 0)) := by
    rw [hw3]
    have h9 := World.alloc_heap_new ((w.alloc (.cells #[.int .i64 0, .int .i64 0, .int .u64 0, .int .u64 0, .slice none 0 0] 46)).alloc (.cells #[.int .i64 0] 3)) (.cells #[.int .i64 1] 30)
    rw [World.size_alloc, World.size_alloc] at h9
    exact h9
  rw [← hw3]
  exact ⟨_, results_ccc Try.results16 _ _ w.heap.size (w.heap.size + 1) (w.heap.size + 1 + 1) _ _ _ _ _ _ rfl t0 Try.underlying46 rfl (by kernel_rfl) rfl (load_3 t1) rfl (load_err t2), rfl, b3⟩
/-- The document's merger in memory: its rows, how many of each were taken, the next stamp. -/
structure RMg (w : World) (base p : Nat) (vr va : Value) (Gs : List (Int × List Rc)) (As : List Nat) (nx : Int) : Prop where
  blk : w.heap[p]? = some (.cells #[vr, va, .int .i64 nx] 77 (0, 0))
  rows : ∃ rws, Rowz w base vr rws Gs
  ats : Own layN 3 w base va (As.map fun k : Nat => (k : Int))
  len : As.length = Gs.length
  most : ∀ (k : Nat) (n : Nat) (G : Int × List Rc), As[k]? = some n → Gs[k]? = some G → n ≤ G.2.length
  ge : base ≤ p
/-- What is left of the rows. -/
def leftR : List (Int × List Rc) → List Nat → List (List Rc)
  | G :: Gs, n :: As => G.2.drop n :: leftR Gs As
  | _, _ => []
theorem leftR_len : ∀ {Gs : List (Int × List Rc)} {As : List Nat}, As.length = Gs.length → (leftR Gs As).length = Gs.length
  | [], [], _ => rfl
  | [], _ :: _, h => by simp at h
  | _ :: _, [], h => by simp at h
  | G :: Gs, n :: As, h => by
    unfold leftR
    rw [List.length_cons, List.length_cons, leftR_len (by simpa using h)]
theorem leftR_at : ∀ {Gs : List (Int × List Rc)} {As : List Nat} {k n : Nat} {G : Int × List Rc}, Gs[k]? = some G → As[k]? = some n → (leftR Gs As)[k]? = some (G.2.drop n)
  | [], _, k, _, _, h, _ => by simp at h
  | _ :: _, [], k, _, _, _, h => by simp at h
  | G :: Gs, n :: As, 0, _, _, h, h' => by
    simp at h h'
    subst h; subst h'
    rfl
  | G :: Gs, n :: As, k + 1, _, _, h, h' => by
    unfold leftR
    rw [List.getElem?_cons_succ]
    exact leftR_at (by simpa using h) (by simpa using h')
theorem leftR_set : ∀ {Gs : List (Int × List Rc)} {As : List Nat} {k n : Nat} {G : Int × List Rc}, Gs[k]? = some G → As[k]? = some n → leftR Gs (As.set k (n + 1)) = (leftR Gs As).set k (G.2.drop (n + 1))
  | [], _, k, _, _, h, _ => by simp at h
  | _ :: _, [], k, _, _, _, h => by simp at h
  | G :: Gs, n :: As, 0, _, _, h, h' => by
    simp at h h'
    subst h; subst h'
    rfl
  | G :: Gs, n :: As, k + 1, _, _, h, h' => by
    rw [List.set_cons_succ]
    unfold leftR
    rw [List.set_cons_succ, leftR_set (by simpa using h) (by simpa using h')]
theorem rleft_nil (w : World) : Calls Try.prog 15 #[.pointer none] w fun r w' => r = .returned (.int .i64 0) ∧ w' = w := by
  go_enter Try.func15, Try.ntmps15
  go_wp2
  go_ret
  exact ⟨rfl, rfl⟩
theorem leftR_tot : ∀ (Gs : List (Int × List Rc)) (As : List Nat), tot (leftR Gs As) ≤ tot (Gs.map Prod.snd)
  | [], _ => by unfold leftR; exact Nat.zero_le _
  | _ :: _, [] => by unfold leftR; exact Nat.zero_le _
  | G :: Gs, n :: As => by
    unfold leftR
    rw [List.map_cons, tot_cons, tot_cons, List.length_drop]
    have := leftR_tot Gs As
    omega
theorem tot_step {Ls : List (List Rc)} {k : Nat} {L : List Rc} (h : Ls[k]? = some L) : tot (Ls.take (k + 1)) = tot (Ls.take k) + L.length := by
  rw [List.take_add_one, h]
  exact tot_snoc _ _
set_option maxRecDepth 8000 in
set_option maxHeartbeats 3200000 in
theorem rleft_any {w : World} {base p : Nat} {vr va : Value} {Gs : List (Int × List Rc)} {As : List Nat} {nx : Int} (h : RMg w base p vr va Gs As nx) (hm : tot (Gs.map Prod.snd) ≤ 1048576) (hg : (Gs.length : Int) ≤ 1048576) :
    Calls Try.prog 15 #[.pointer (some ⟨p, 0, none⟩)] w fun r w' => r = .returned (.int .i64 (tot (leftR Gs As) : Int)) ∧ Below w.heap.size w w' := by
  obtain ⟨rws, hz⟩ := h.rows
  obtain ⟨a1, c1, hv1, -⟩ := hz.form
  obtain ⟨a2, c2, hv2, -, -⟩ := own_form h.ats
  rw [List.length_map, h.len] at hv2
  obtain ⟨N, hN⟩ : ∃ N, N = Gs.length := ⟨_, rfl⟩
  rw [← hN] at hv1 hv2 hg
  subst hv1; subst hv2
  have x0 : w.cell? ⟨p, 0, none⟩ = some (.slice a1 N c1) := cell_at h.blk rfl
  have x1 : w.cell? ⟨p, 1, none⟩ = some (.slice a2 N c2) := cell_at h.blk rfl
  have hp : p < w.heap.size := (Array.getElem?_eq_some_iff.1 h.blk).1
  have HX : Hid (∀ X, Below w.heap.size w X → X.cell? ⟨p, 0, none⟩ = some (.slice a1 N c1) ∧ X.cell? ⟨p, 1, none⟩ = some (.slice a2 N c2)) := hide (fun X hX => ⟨(hX.cell (p := ⟨p, 0, none⟩) hp).trans x0, (hX.cell (p := ⟨p, 1, none⟩) hp).trans x1⟩)
  have HZ : Hid (Rdz w a1 N rws Gs) := hide (hz.reads (by rw [hz.len, hN]))
  have HA : Hid (TRow layN w a2 N (As.map fun k : Nat => (k : Int))) := hide (h.ats.row (by rw [List.length_map, h.len, hN]))
  have HR : Hid _ := hide h
  have HRL : Hid (rws.length = N) := hide (by rw [hz.len, hN])
  have HGL : Hid _ := hide hN
  have HTM : Hid (∀ k, tot ((leftR Gs As).take k) ≤ 1048576) := hide (fun k => Nat.le_trans (tot_take _ k) (Nat.le_trans (leftR_tot Gs As) hm))
  have HGM : Hid (∀ G ∈ Gs, G.2.length ≤ 1048576) := hide (fun G hG => by
    obtain ⟨k, hk⟩ := List.getElem?_of_mem hG
    have h1 := tot_step (Ls := Gs.map Prod.snd) (k := k) (L := G.2) (by rw [List.getElem?_map, hk]; rfl)
    have h2 := tot_take (Gs.map Prod.snd) (k + 1)
    omega)
  clear hz h hN hm x0 x1
  go_enter Try.func15, Try.ntmps15
  go_wp2_with fail
  go_loopw [3, 4] (fun cn i wr => ∃ k ct : Nat, i = .int .i64 k ∧ cn = .int .i64 ct ∧ k ≤ N ∧ (ct : Int) ≤ 1048576 ∧ Hid (ct = tot ((leftR Gs As).take k)) ∧ Hid (Below w.heap.size w wr)) (fun _ i _ => N - numV i)
  case atStart => exact ⟨0, 0, rfl, rfl, Nat.zero_le _, by omega, hide rfl, hide (Below.refl _ _)⟩
  case round =>
    obtain ⟨k, ct, rfl, rfl, hk, hct, HC, HB⟩ := hrel
    obtain ⟨x0, x1⟩ := HX.out _ HB.out
    by_cases hlt : k < N
    · have hltI : (k : Int) < (N : Int) := by omega
      obtain ⟨q, hq⟩ : ∃ r, rws[k]? = some r := ⟨_, List.getElem?_eq_getElem (by rw [HRL.out]; exact hlt)⟩
      obtain ⟨G, hG⟩ : ∃ r, Gs[k]? = some r := ⟨_, List.getElem?_eq_getElem (by rw [← HGL.out]; exact hlt)⟩
      obtain ⟨n, hn⟩ : ∃ r, As[k]? = some r := ⟨_, List.getElem?_eq_getElem (by rw [HR.out.len, ← HGL.out]; exact hlt)⟩
      have A1 := HZ.out.below HB.out
      obtain ⟨b1, o1, rfl, _, hc1⟩ := A1.row.at (by omega)
      obtain ⟨b2, o2, rfl, _, hc2⟩ := (HA.out.below HB.out).at (by omega)
      obtain ⟨-, pr, -, -⟩ := A1.each k q G hq hG
      have y1 := hc1 k q hq 1 _ rfl
      have y2 := hc2 k (n : Int) (by rw [List.getElem?_map, hn]; rfl) 0 _ rfl
      have hGl := HGM.out G (List.mem_of_getElem? hG)
      have hmo := HR.out.most k n G hn hG
      have hst := tot_step (leftR_at hG hn)
      have hnx := HTM.out (k + 1)
      obtain ⟨q0, pa, pn, pc⟩ := q
      dsimp only at pr
      rw [pr.len] at hGl hmo
      rw [List.length_drop, pr.len] at hst
      obtain ⟨d, hd⟩ : ∃ d, d + n = pn := ⟨pn - n, by omega⟩
      have HST : Hid (tot ((leftR Gs As).take (k + 1)) = ct + d) := hide (by rw [HC.out]; omega)
      have hcd : ((ct + d : Nat) : Int) ≤ 1048576 := by have := HST.out; omega
      simp only [layW, layN, Nat.add_zero, Nat.mul_one] at y1 y2
      have hpI : (pn : Int) ≤ 1048576 := by omega
      have hw1 : IntKind.i64.wrap ((ct : Int) + (pn : Int)) = (ct : Int) + (pn : Int) := by rw [IntKind.wrap_i64]; omega
      have hw2 : IntKind.i64.wrap ((ct : Int) + (pn : Int) - (n : Int)) = (ct : Int) + (pn : Int) - (n : Int) := by rw [IntKind.wrap_i64]; omega
      have HDD : Hid _ := hide hd
      have HCD : Hid _ := hide hcd
      clear A1 hc1 hc2 hq hG hn pr hst hnx hGl hmo hd hcd
      go_wp2_with fail
      go_quiet (fail)
      go_wp2
      have hd := HDD.out
      exact ⟨⟨k + 1, ct + d, by go_num, by go_num, by omega, HCD.out, hide HST.out.symm, hide (below_drewN HB.out _)⟩, by simp [numV]; omega⟩
    · have hltI : ¬ (k : Int) < (N : Int) := by omega
      obtain rfl : k = N := by omega
      have e9 : ct = tot (leftR Gs As) := by rw [HC.out, List.take_of_length_le (by rw [leftR_len HR.out.len, HGL.out]; exact Nat.le_refl _)]
      have HE : Hid _ := hide e9
      clear e9
      go_wp2
      go_ret
      exact ⟨ret_int (by rw [HE.out]), HB.out⟩
end Go.Proofs.Ytdlpffbeladgaaa
