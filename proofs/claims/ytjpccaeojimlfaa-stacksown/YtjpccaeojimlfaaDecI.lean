/-
  read; Decode.
-/
import Derived.Test.YtjpccaeojimlfaaDecH
import Derived.Test.YtjpccaeojimlfaaEqs
import Derived.Deep.RegionWith
namespace Go.Proofs.Ytjpccaeojimlfaa
open Go.RowKit Go.Maps Go.Shelf
theorem Left.out {w0 w w1 w2 : World} {T S : Nat → Prop} {tb fb : Nat} {L : List ByteArray} {N : List Nd} (hb : Below w.heap.size w w1) (h : Left w0 w1 w2 T S tb fb L N) : Left w0 w w2 T S tb fb L N := by
  obtain ⟨S', hF, hM, hb2⟩ := h
  refine ⟨S', hF, fun k hk => ?_, (But.of_below (S := S) hb).trans hb2 (fun _ _ e => e)⟩
  have := hb.size
  rcases hM k hk with e | e
  · exact .inl e
  · right; omega
set_option maxHeartbeats 2000000 in
set_option maxRecDepth 4000 in
theorem read_any {w0 w : World} {T S : Nat → Prop} {tb fb : Nat} {L : List ByteArray} {N : List Nd} (h : FN w0 w T S tb fb L N) (a : Option Addr) (n c : Nat) (zs : List Int) (hr : Row w0 a n zs) (hn : (n : Int) ≤ 140737488355328) :
    Calls Try.prog 40 #[.pointer (some ⟨fb, 0, none⟩), .slice a n c] w fun e w' => e = .returned (.int .i64 (rdBodyN L.length N zs).1) ∧ Left w0 w w' T S tb fb L (rdBodyN L.length N zs).2 := by
  obtain ⟨W2, hW2⟩ : ∃ W2, W2 = (w.alloc (.cells #[.pointer (some ⟨fb, 0, none⟩)] 26)).alloc (.cells #[.slice a n c] 46) := ⟨_, rfl⟩
  have b2 : Below w.heap.size w W2 := by rw [hW2]; exact ((Below.refl _ w).alloc (Nat.le_refl _) _).alloc (by simp) _
  have k0 : W2.cell? ⟨w.heap.size, 0, none⟩ = some (.pointer (some ⟨fb, 0, none⟩)) := by
    rw [hW2]; exact (World.cell?_alloc_old _ _ _ (by simp)).trans (cell_new _ _ _)
  have k1 : W2.cell? ⟨w.heap.size + 1, 0, none⟩ = some (.slice a n c) := by
    rw [hW2]; have := cell_new (w.alloc (.cells #[.pointer (some ⟨fb, 0, none⟩)] 26)) (.slice a n c) 46; rw [World.size_alloc] at this; exact this
  have h2 := h.below b2
  have hnS : ∀ k, w.heap.size ≤ k → ¬ S k := fun k hk e => by have := (h.news k e).2; omega
  obtain ⟨v, mb, hF⟩ := h2.frs
  have c1 := hF.cell1
  obtain ⟨va, vc, rfl⟩ := own_form hF.own
  have hNl : (N.length : Int) ≤ 262144 := by have := hF.len; omega
  have hQ := cread_any (w := W2.drew) (h2.but (U := fun _ => False) ((But.refl _ W2).drew) (fun _ e => e.elim)) w.heap.size (w.heap.size + 1) a n c zs k0 k1 (hnS _ (Nat.le_refl _)) (hnS _ (by omega)) hr hn
  have HQ : Hid _ := hide hQ
  have HB2 : Hid _ := hide b2
  have hfb : fb < W2.heap.size := hF.lt
  have hx0 : w.heap.size < W2.heap.size := World.block_lt_of_cell? _ _ k0
  have hx1 : w.heap.size + 1 < W2.heap.size := World.block_lt_of_cell? _ _ k1
  have hmf : ∀ (fn : Fn) (first cap : Array Value) (w : World), (Instr.makeFunc fn first cap).run Try.prog w = .ok (.func fn first cap) w := fun _ _ _ _ => rfl
  have hwr : IntKind.i64.wrap ((N.length : Int) + 1) = (N.length : Int) + 1 := by rw [IntKind.wrap_i64]; omega
  clear h h2 hF hQ hnS hr
  generalize rdBodyN L.length N zs = R at HQ ⊢
  obtain ⟨f, N'⟩ := R
  dsimp only at HQ ⊢
  go_enter Try.func40, Try.ntmps40
  go_wp2
  rw [← hW2]
  have HW2 : Hid _ := hide hW2
  clear hW2
  go_region_with (go_at_call 51; refine HQ.out.mono ?_; rintro e w3 ⟨rfl, hL⟩; have HL : Hid _ := hide hL; clear hL)
  all_goals
    go_wp2
    go_ret
    exact ⟨rfl, Left.out HB2.out (by
      obtain ⟨S', h1, h2, h3⟩ := HL.out
      exact ⟨S', h1, h2, ⟨h3.os, h3.tape, h3.output, h3.size, h3.block⟩⟩)⟩
end Go.Proofs.Ytjpccaeojimlfaa
