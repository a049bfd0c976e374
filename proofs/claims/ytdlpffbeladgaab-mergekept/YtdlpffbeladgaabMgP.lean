/-
  Next.
-/
import Derived.Test.YtdlpffbeladgaabMgE
namespace Go.Proofs.Ytdlpffbeladgaab
open Go.RowKit Go.Maps Go.Shelf
attribute [local go_sem] Oper.semAt_some
theorem Mgr.not_ty {w : World} {base p ph : Nat} {rv : Value} {gs : List Int} {s : MSt} (h : Mgr w base p rv ph gs s) {q : Nat} {o : Obj} (ho : w.heap[q]? = some o) (hn : ∀ cur T, o = .cells cur T (0, 0) → T ≠ 74 ∧ T ≠ 40 ∧ T ≠ 88 ∧ T ≠ 91) : ¬ Mine p rv ph s.hv q := by
  intro hm
  obtain ⟨cur, T, h1, h2⟩ := h.ty hm
  rw [ho] at h1
  obtain ⟨n1, n2, n3, n4⟩ := hn cur T (Option.some.inj h1)
  rcases h2 with e | e | e | e
  · exact n1 e
  · exact n2 e
  · exact n3 e
  · exact n4 e
theorem Mgr.not_loop {w : World} {base p ph : Nat} {rv : Value} {gs : List Int} {s : MSt} (h : Mgr w base p rv ph gs s) {q : Nat} {o : Loop} (ho : w.heap[q]? = some (.loop o)) : ¬ Mine p rv ph s.hv q := h.not_ty ho (fun _ _ e => by cases e)
theorem Mgr.not_def {w : World} {base p ph : Nat} {rv : Value} {gs : List Int} {s : MSt} (h : Mgr w base p rv ph gs s) {q : Nat} (ho : w.heap[q]? = some (.deferred (some []))) : ¬ Mine p rv ph s.hv q := h.not_ty ho (fun _ _ e => by cases e)
theorem get_lt' {w : World} {q : Nat} {o : Obj} (h : w.heap[q]? = some o) : q < w.heap.size := (Array.getElem?_eq_some_iff.1 h).1
theorem heap_old {w : World} {q : Nat} {o ob : Obj} (h : w.heap[q]? = some ob) : (w.alloc o).heap[q]? = some ob := (Below.heap_alloc _ _ _ (get_lt' h)).trans h
theorem but_setC (W : World) (p : Addr) (v : Value) : But (fun q => q = p.block) W (W.setCell p v) := (But.refl (fun q => q = p.block) W).setCell p (fun _ => rfl) v
theorem but_setRow (W : World) (g : Nat) (cs : Array Value) : But (fun k => k = g) W (W.setRow g cs) := ⟨rfl, rfl, rfl, by simp, fun k _ hk => setRow_other W g k cs hk⟩
/-- A block that is no cells, put anew. -/
theorem Take.put {base p ph : Nat} {rv : Value} {gs : List Int} {s s2 : MSt} {x : Int × Rc} {w W : World} (h : Take base p rv ph gs s x w W s2) {q : Nat} {o : Obj} (ho : W.heap[q]? = some o) (hn : ∀ cur T, o ≠ .cells cur T (0, 0)) (hq : w.heap.size ≤ q) (o' : Obj) : Take base p rv ph gs s x w (W.putObj q o') s2 := by
  have hB := but_put W q o'
  have hm : ¬ Mine p rv ph s2.hv q := h.mgr.not_ty ho (fun cur T e => absurd e (hn cur T))
  refine ⟨h.pick, h.mgr.but hB (fun r hr e => hm (by have e9 : r = q := e; rw [← e9]; exact hr)) (fun b cur _ hb e => ?_), ?_, h.new⟩
  · have e9 : b = q := e
    rw [e9, ho] at hb
    exact hn cur _ (Option.some.inj hb)
  · exact ⟨hB.os.trans h.but.os, hB.tape.trans h.but.tape, hB.output.trans h.but.output, Nat.le_trans h.but.size hB.size, fun k hk hm => (hB.block k (by have := h.but.size; omega) (fun e => by have e9 : k = q := e; omega)).trans (h.but.block k hk hm)⟩
theorem load_3 {w : World} {g : Nat} {v : Value} {t : TypeId} (h : w.heap[g]? = some (.cells #[v] t (0, 0))) : (loadVar 3 ⟨g, 0, none⟩).run Try.prog w = .ok v w := by
  have c : w.cell? ⟨g, 0, none⟩ = some v := cell_at h rfl
  go_simp
theorem load_err {w : World} {g : Nat} {v : Value} {t : TypeId} (h : w.heap[g]? = some (.cells #[v] t (0, 0))) : (loadVar 32 ⟨g, 0, none⟩).run Try.prog w = .ok v w := by
  have c : w.cell? ⟨g, 0, none⟩ = some v := cell_at h rfl
  go_simp
theorem Take.rest {base p ph : Nat} {rv : Value} {gs : List Int} {s s2 : MSt} {x : Int × Rc} {w U X : World} (h : Take base p rv ph gs s x w U s2) {S : Nat → Prop} (hB : But S U X) (hS : ∀ q, S q → w.heap.size ≤ q ∧ ∃ cur T, U.heap[q]? = some (.cells cur T (0, 0)) ∧ T ≠ 74 ∧ T ≠ 40 ∧ T ≠ 88 ∧ T ≠ 91 ∧ T ≠ 42) : Take base p rv ph gs s x w X s2 := by
  refine ⟨h.pick, h.mgr.but hB (fun q hm hq => ?_) (fun b cur _ hb hq => ?_), ?_, h.new⟩
  · obtain ⟨_, cur, T, h1, n1, n2, n3, n4, _⟩ := hS q hq
    exact h.mgr.not_ty h1 (fun cur' T' e => by cases e; exact ⟨n1, n2, n3, n4⟩) hm
  · obtain ⟨_, cur', T, h1, _, _, _, _, n5⟩ := hS b hq
    rw [hb] at h1
    cases h1
    exact n5 rfl
  · exact ⟨hB.os.trans h.but.os, hB.tape.trans h.but.tape, hB.output.trans h.but.output, Nat.le_trans h.but.size hB.size, fun k hk hm => (hB.block k (by have := h.but.size; omega) (fun e => by have := (hS k e).1; omega)).trans (h.but.block k hk hm)⟩
end Go.Proofs.Ytdlpffbeladgaab
