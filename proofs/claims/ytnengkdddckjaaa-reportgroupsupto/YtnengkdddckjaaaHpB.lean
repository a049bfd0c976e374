/-
  What a call leaves alone; things of several cells in rows.
-/
import Derived.Test.YtnengkdddckjaaaRows
import Derived.WalkKit
import Derived.WalkLawsBesides
import Derived.BigQuiet
import Derived.BigRegion
import Derived.Deep.QuietTactic
import Derived.Deep.RegionHeld3
import Derived.Deep.DeepCutAuto
import Derived.Deep.AppendLies
import Derived.WalkSpells
import Derived.WalkSmall
import Derived.Laws.AppendOwnNone
import Derived.Laws.OwnMore
import Derived.Lib.Tables
import Derived.Maps.OwnSet
import Derived.Maps.OwnOps
import Derived.KernelRfl
namespace Go.Proofs.Ytnengkdddckjaaa
open Go.RowKit
theorem get_lt {α : Type} {l : List α} {i : Nat} {a : α} (h : l[i]? = some a) : i < l.length := by
  rcases Nat.lt_or_ge i l.length with g | g
  · exact g
  · rw [List.getElem?_eq_none g] at h; exact absurd h (by simp)
theorem hide {p : Prop} (h : p) : Hid p := h
theorem ret_int {k : IntKind} {a b : Int} (h : a = b) : Ending.returned (.int k a) = .returned (.int k b) := by rw [h]
theorem ret_bool {a b : Bool} (h : a = b) : Ending.returned (.bool a) = .returned (.bool b) := by rw [h]
/-- What is not of S stays as it was. -/
structure But (S : Nat → Prop) (w w' : World) : Prop where
  os : w'.os = w.os
  tape : w'.tape = w.tape
  output : w'.output = w.output
  size : w.heap.size ≤ w'.heap.size
  block : ∀ k, k < w.heap.size → ¬ S k → w'.heap[k]? = w.heap[k]?
theorem But.refl (S : Nat → Prop) (w : World) : But S w w := ⟨rfl, rfl, rfl, Nat.le_refl _, fun _ _ _ => rfl⟩
theorem But.trans {S T : Nat → Prop} {a b c : World} (h : But S a b) (k : But T b c) (hT : ∀ i, i < a.heap.size → T i → S i) : But S a c :=
  ⟨k.os.trans h.os, k.tape.trans h.tape, k.output.trans h.output, Nat.le_trans h.size k.size,
    fun i hi hs => (k.block i (Nat.lt_of_lt_of_le hi h.size) (fun e => hs (hT i hi e))).trans (h.block i hi hs)⟩
theorem But.of_grown {S : Nat → Prop} {w w' : World} {row : Option Nat} (hg : w.grownBy w' row) (hS : ∀ k, row = some k → S k) : But S w w' :=
  ⟨hg.os, hg.tape, hg.output, hg.size, fun k hk hs => hg.block k hk (fun e => hs (hS k e.symm))⟩
theorem But.grown {S : Nat → Prop} {w : World} {a w' : World} {row : Option Nat} (h : But S a w) (hg : w.grownBy w' row) (hS : ∀ k, k < a.heap.size → row = some k → S k) : But S a w' :=
  h.trans (T := fun k => row = some k) (But.of_grown hg fun _ e => e) hS
theorem But.alloc {S : Nat → Prop} {a w : World} (h : But S a w) (o : Obj) : But S a (w.alloc o) :=
  h.trans (T := fun _ => False) ⟨rfl, rfl, rfl, by simp, fun k hk _ => Below.heap_alloc _ _ _ hk⟩ (fun _ _ e => e.elim)
theorem But.drew {S : Nat → Prop} {a w : World} (h : But S a w) : But S a w.drew := ⟨h.os, h.tape, h.output, h.size, h.block⟩
theorem But.setCell {S : Nat → Prop} {a w : World} (h : But S a w) (p : Addr) (hp : p.block < a.heap.size → S p.block) (u : Value) : But S a (w.setCell p u) :=
  h.trans (T := fun k => k = p.block) ⟨rfl, rfl, rfl, by simp [World.setCell], fun k _ hs => Below.heap_setCell _ _ _ _ hs⟩ (fun i hi e => by subst e; exact hp hi)
theorem But.below {S : Nat → Prop} {w w' : World} {B : Nat} (h : But S w w') (hB : B ≤ w.heap.size) (hS : ∀ k, S k → B ≤ k) : Below B w w' :=
  ⟨h.os, h.tape, h.output, h.size, fun k hk => h.block k (by omega) (fun e => by have := hS k e; omega)⟩
theorem But.of_below {S : Nat → Prop} {w w' : World} (h : Below w.heap.size w w') : But S w w' := ⟨h.os, h.tape, h.output, h.size, fun k hk _ => h.block k hk⟩
theorem But.mono {S T : Nat → Prop} {w w' : World} (h : But S w w') (hT : ∀ k, S k → T k) : But T w w' := ⟨h.os, h.tape, h.output, h.size, fun k hk hs => h.block k hk fun e => hs (hT k e)⟩
/-- A call that leaves all old memory alone, behind another. -/
theorem But.on {S : Nat → Prop} {a b c : World} (h : But S a b) (k : Below b.heap.size b c) : But S a c :=
  h.trans (T := fun _ => False) (But.of_below k) (fun _ _ e => e.elim)
theorem own_but {S : Nat → Prop} {w w' : World} {base : Nat} {e : TypeId} {size n : Nat} {v : Value} {xs : List Value} (h : w.ownsRow base e size v n xs) (hb : But S w w') (hv : ∀ g, v.ownBlock = some g → ¬ S g) : w'.ownsRow base e size v n xs := by
  obtain ⟨h1, h2⟩ := h
  refine ⟨h1, h2.imp id ?_⟩
  rintro ⟨g, cap, cur, rfl, hg, hh, r⟩
  exact ⟨g, cap, cur, rfl, hg, (hb.block g (Array.getElem?_eq_some_iff.1 hh).1 (hv g rfl)).trans hh, r⟩
theorem own_below {w w' : World} {base : Nat} {e : TypeId} {size n : Nat} {v : Value} {xs : List Value} (h : w.ownsRow base e size v n xs) (hb : Below w.heap.size w w') : w'.ownsRow base e size v n xs :=
  own_but (S := fun _ => False) h (But.of_below hb) (fun _ _ e => e)
theorem own_form {w : World} {base n : Nat} {v : Value} {xs : List Value} {e : TypeId} {z : Nat} (h : w.ownsRow base e z v n xs) : ∃ a c, v = .slice a n c ∧ (a = none → n = 0 ∧ c = 0) ∧ n ≤ c := by
  rcases h.2 with ⟨rfl, rfl⟩ | ⟨g, cap, cur, rfl, _, _, hc, _⟩
  · exact ⟨none, 0, rfl, fun _ => ⟨rfl, rfl⟩, Nat.le_refl _⟩
  · exact ⟨_, _, rfl, fun h => (by cases h), hc⟩
theorem own_mono {w : World} {base base' : Nat} {e : TypeId} {size : Nat} {v : Value} {n : Nat} {xs : List Value} (h : w.ownsRow base e size v n xs) (hb : base' ≤ base) : w.ownsRow base' e size v n xs :=
  ⟨h.1, h.2.imp id fun ⟨g, cap, cur, hv, hg, r⟩ => ⟨g, cap, cur, hv, Nat.le_trans hb hg, r⟩⟩
theorem own_some {w : World} {base n : Nat} {e : TypeId} {size : Nat} {v : Value} {xs : List Value} (h : w.ownsRow base e size v n xs) (hn : 0 < n) : ∃ g c, v = .slice (some ⟨g, 0, none⟩) n c ∧ base ≤ g ∧ g < w.heap.size ∧ n ≤ c := by
  rcases h.2 with ⟨_, e⟩ | ⟨g, cap, cur, e, hb, hh, hc, _⟩
  · omega
  · exact ⟨g, cap, e, hb, (Array.getElem?_eq_some_iff.1 hh).1, hc⟩
/-- Fewer of them. -/
theorem own_cut {w : World} {base n g c k : Nat} {e : TypeId} {size : Nat} {xs : List Value} (h : w.ownsRow base e size (.slice (some ⟨g, 0, none⟩) n c) n xs) (hk : k ≤ n) : w.ownsRow base e size (.slice (some ⟨g, 0, none⟩) k c) k (xs.take (k * size)) := by
  obtain ⟨h1, h2⟩ := h
  have hle : k * size ≤ n * size := Nat.mul_le_mul_right _ hk
  refine ⟨by rw [List.length_take, h1]; omega, ?_⟩
  rcases h2 with ⟨h2, _⟩ | ⟨g', cap, cur, h2, hb, hh, hc, hm, hs, ht⟩
  · cases h2
  · cases h2
    exact .inr ⟨g, c, cur, rfl, hb, hh, by omega, hm, hs, by rw [← ht, List.take_take]; congr 1; omega⟩
theorem heap_new (w : World) (o : Obj) : (w.alloc o).heap[w.heap.size]? = some o := heap_alloc_new w o
theorem heap_newS {w : World} {o : Obj} {n : Nat} (h : w.heap.size = n) : (w.alloc o).heap[n]? = some o := by rw [← h]; exact heap_new _ _
theorem heap_new2 (w : World) (o p : Obj) : ((w.alloc o).alloc p).heap[w.heap.size + 1]? = some p := heap_newS (by simp)
theorem Below.on {w a b : World} (h : Below w.heap.size w a) (k : Below a.heap.size a b) : Below w.heap.size w b := h.trans (k.mono h.size)
theorem below_alloc1 (w : World) (o : Obj) : Below w.heap.size w (w.alloc o) := (Below.refl _ _).alloc (Nat.le_refl _) _
theorem below_alloc2 (w : World) (o p : Obj) : Below w.heap.size w ((w.alloc o).alloc p) := (below_alloc1 w o).alloc (by simp) _
theorem frz {w : World} {p : Nat} {cs : Array Value} {t : TypeId} (h : w.heap[p]? = some (.cells cs t (0, 0))) (k : Nat) : w.frozen? ⟨p, k, none⟩ = false := frozen_of_row w p k cs t h
theorem own_ne_cells {w : World} {base n b : Nat} {v : Value} {xs : List Value} {e T : TypeId} {z : Nat} {ds : Array Value} {fr : Nat × Nat} (h : w.ownsRow base e z v n xs) (hb : w.heap[b]? = some (.cells ds T fr)) (hne : e ≠ T) : v.ownBlock ≠ some b := by
  intro hv
  rcases h.2 with ⟨rfl, _⟩ | ⟨g, cap, cur, rfl, _, hh, _⟩
  · simp [Value.ownBlock] at hv
  · have e1 : g = b := by simpa [Value.ownBlock] using hv
    subst e1
    rw [hh] at hb
    simp at hb
    exact hne hb.2.1
theorem set1_heap {w : World} {g i : Nat} {T : TypeId} {cs : Array Value} {fr : Nat × Nat} (v : Value) (h : w.heap[g]? = some (.cells cs T fr)) : (w.setCell ⟨g, i, none⟩ v).heap[g]? = some (.cells (cs.setIfInBounds i v) T fr) := by
  have hlt : g < w.heap.size := (Array.getElem?_eq_some_iff.1 h).1
  have hv : w.heap[g] = .cells cs T fr := (Array.getElem?_eq_some_iff.1 h).2
  unfold World.setCell
  rw [Array.getElem?_eq_getElem (by simpa using hlt), Array.getElem_modify]
  simp [hv]
theorem cell_at {w : World} {b i : Nat} {cs : Array Value} {T : TypeId} {fr : Nat × Nat} {v : Value} (h : w.heap[b]? = some (.cells cs T fr)) (hv : cs[i]? = some v) : w.cell? ⟨b, i, none⟩ = some v := by rw [cell_of_row w b i cs T fr h]; exact hv
theorem results_ct {P : Program} {fn : Func} {p u : Tmp} {ty : TypeId} (h : fn.results = #[.cell p ty, .tmp u]) (tmps : Array Value) (w : World) (g : Nat) (t : TypeId) (cs : Array Value) (fr : Nat × Nat) (d : TypeDesc)
    (hp : tmps.getD p undef = .pointer (some ⟨g, 0, none⟩)) (hg : w.heap[g]? = some (.cells cs t fr))
    (hu : P.underlying ty = some d) (hd : (match d with | .struct _ | .array _ _ => true | _ => false) = true) (hi : (P.info? ty).map (·.size) = some cs.size) :
    (results fn tmps).run P w = .ok (.tuple #[.agg cs, tmps.getD u undef]) w := by
  have hp' : tmps[p]?.getD undef = .pointer (some ⟨g, 0, none⟩) := by simpa using hp
  simp [results, h, hp', asAddr, run_loadVar_row w g t ty cs fr d hg hu hd hi]
/-- How things are told in cells. -/
structure Lay (α : Type) where
  cs : α → List Value
  z : Nat
  pos : 0 < z
  len : ∀ a, (cs a).length = z
  one : ∀ a, ∀ u ∈ cs a, u.oneCell' = true
def Lay.fl {α : Type} (y : Lay α) (L : List α) : List Value := L.flatMap y.cs
theorem Lay.fl_len {α : Type} (y : Lay α) (L : List α) : (y.fl L).length = L.length * y.z := by
  induction L with
  | nil => simp [Lay.fl]
  | cons r l ih => unfold Lay.fl at *; rw [List.flatMap_cons, List.length_append, ih, y.len, List.length_cons, Nat.succ_mul]; omega
theorem Lay.fl_app {α : Type} (y : Lay α) (L M : List α) : y.fl (L ++ M) = y.fl L ++ y.fl M := by simp [Lay.fl]
theorem Lay.fl_one {α : Type} (y : Lay α) (a : α) : y.fl [a] = y.cs a := by simp [Lay.fl]
theorem Lay.fl_nil {α : Type} (y : Lay α) : y.fl [] = [] := by simp [Lay.fl]
theorem Lay.fl_cons {α : Type} (y : Lay α) (a : α) (L : List α) : y.fl (a :: L) = y.cs a ++ y.fl L := by simp [Lay.fl]
theorem Lay.fl_cell {α : Type} (y : Lay α) (L : List α) : ∀ u ∈ y.fl L, u.oneCell' = true := by
  intro u hu
  obtain ⟨a, _, ha⟩ := List.mem_flatMap.mp hu
  exact y.one a u ha
theorem Lay.fl_get {α : Type} (y : Lay α) {L : List α} {i t : Nat} {r : α} (h : L[i]? = some r) (ht : t < y.z) : (y.fl L)[i * y.z + t]? = (y.cs r)[t]? := by
  induction L generalizing i with
  | nil => simp at h
  | cons x l ih =>
    rw [y.fl_cons]
    cases i with
    | zero => simp at h; subst h; rw [List.getElem?_append_left (by rw [y.len]; omega)]; simp
    | succ i =>
      simp at h
      have e : (i + 1) * y.z + t = y.z + (i * y.z + t) := by rw [Nat.succ_mul]; omega
      rw [e, List.getElem?_append_right (by rw [y.len]; omega), y.len, Nat.add_sub_cancel_left]
      exact ih h
theorem Lay.fl_take {α : Type} (y : Lay α) (L : List α) (k : Nat) : (y.fl L).take (k * y.z) = y.fl (L.take k) := by
  induction L generalizing k with
  | nil => simp [Lay.fl]
  | cons x l ih =>
    cases k with
    | zero => simp [Lay.fl]
    | succ k =>
      rw [y.fl_cons, List.take_succ_cons, y.fl_cons, ← ih k, List.take_append, y.len]
      congr 1
      · rw [List.take_of_length_le]; rw [y.len, Nat.succ_mul]; omega
      · congr 1; rw [Nat.succ_mul]; omega
/-- Cells written over, one behind the other. -/
def setL (xs : List Value) (j : Nat) : List Value → List Value
  | [] => xs
  | v :: vs => setL (xs.set j v) (j + 1) vs
theorem setL_app (p xs vs : List Value) (k : Nat) : setL (p ++ xs) (p.length + k) vs = p ++ setL xs k vs := by
  induction vs generalizing xs k with
  | nil => rfl
  | cons v vs ih =>
    unfold setL
    rw [List.set_append_right _ _ (by omega), Nat.add_sub_cancel_left, Nat.add_assoc, ih]
theorem setL_front (a b vs : List Value) (h : a.length = vs.length) : setL (a ++ b) 0 vs = vs ++ b := by
  induction vs generalizing a with
  | nil => rw [List.length_nil] at h; rw [List.eq_nil_of_length_eq_zero h]; rfl
  | cons v vs ih =>
    cases a with
    | nil => simp at h
    | cons x a =>
      unfold setL
      have h2 := setL_app [v] (a ++ b) vs 0
      simp at h2
      simp
      rw [h2, ih a (by simpa using h)]
theorem Lay.fl_set {α : Type} (y : Lay α) {L : List α} {i : Nat} (hi : i < L.length) (a : α) : setL (y.fl L) (i * y.z) (y.cs a) = y.fl (L.set i a) := by
  induction L generalizing i with
  | nil => simp at hi
  | cons x l ih =>
    cases i with
    | zero =>
      rw [Nat.zero_mul, y.fl_cons, List.set_cons_zero, y.fl_cons]
      exact setL_front _ _ _ (by rw [y.len, y.len])
    | succ i =>
      rw [y.fl_cons, List.set_cons_succ, y.fl_cons, ← ih (by simpa using hi)]
      have e : (i + 1) * y.z = (y.cs x).length + i * y.z := by rw [y.len, Nat.succ_mul]; omega
      rw [e]
      exact setL_app _ _ _ _
/-- So in memory. -/
def setC (w : World) (g j : Nat) : List Value → World
  | [] => w
  | v :: vs => setC (w.setCell ⟨g, j, none⟩ v) g (j + 1) vs
theorem own_set {w : World} {base g n c j : Nat} {e : TypeId} {size : Nat} {xs : List Value} (vs : List Value) (h : w.ownsRow base e size (.slice (some ⟨g, 0, none⟩) n c) n xs) :
    (setC w g j vs).ownsRow base e size (.slice (some ⟨g, 0, none⟩) n c) n (setL xs j vs) := by
  induction vs generalizing w xs j with
  | nil => exact h
  | cons v vs ih => exact ih (h.stored j v).1
theorem But.setC {S : Nat → Prop} {a w : World} {g j : Nat} (vs : List Value) (h : But S a w) (hp : g < a.heap.size → S g) : But S a (setC w g j vs) := by
  induction vs generalizing w j with
  | nil => exact h
  | cons v vs ih => exact ih (h.setCell ⟨g, j, none⟩ hp v)
/-- Things in the call's own row. -/
def Own {α : Type} (y : Lay α) (e : TypeId) (w : World) (base : Nat) (v : Value) (L : List α) : Prop := w.ownsRow base e y.z v L.length (y.fl L)
theorem Own.cell {α : Type} {y : Lay α} {e : TypeId} {w : World} {base g n c : Nat} {L : List α} (h : Own y e w base (.slice (some ⟨g, 0, none⟩) n c) L) {i : Nat} {a : α} (hi : L[i]? = some a) (t : Nat) {u : Value} (hu : (y.cs a)[t]? = some u) :
    w.cell? ⟨g, i * y.z + t, none⟩ = some u := by
  have ht : t < y.z := by rw [← y.len a]; exact get_lt hu
  have := World.ownsRow.cells h (g := g) rfl (i * y.z + t) u (by rw [y.fl_get hi ht]; exact hu)
  have ha : (⟨g, 0, none⟩ : Addr).add (i * y.z + t) = ⟨g, i * y.z + t, none⟩ := by unfold Addr.add; split <;> simp_all
  rw [ha] at this; exact this
theorem Own.frozen {α : Type} {y : Lay α} {e : TypeId} {w : World} {base g n c : Nat} {L : List α} (h : Own y e w base (.slice (some ⟨g, 0, none⟩) n c) L) (k : Nat) : w.frozen? ⟨g, k, none⟩ = false := by
  rcases h.2 with ⟨h', _⟩ | ⟨g', cap', cur, h', _, hg, _⟩
  · cases h'
  · cases h'; exact frozen_of_row w g k cur e hg
theorem Own.set {α : Type} {y : Lay α} {e : TypeId} {w : World} {base g n c : Nat} {L : List α} (h : Own y e w base (.slice (some ⟨g, 0, none⟩) n c) L) (hn : L.length = n) {i : Nat} (hi : i < L.length) (a : α) :
    Own y e (setC w g (i * y.z) (y.cs a)) base (.slice (some ⟨g, 0, none⟩) n c) (L.set i a) := by
  subst hn
  unfold Own
  rw [List.length_set, ← y.fl_set hi]
  exact own_set _ h
theorem Own.below {α : Type} {y : Lay α} {e : TypeId} {w w' : World} {base : Nat} {v : Value} {L : List α} (h : Own y e w base v L) (hb : Below w.heap.size w w') : Own y e w' base v L := own_below h hb
theorem Own.but {α : Type} {y : Lay α} {e : TypeId} {S : Nat → Prop} {w w' : World} {base : Nat} {v : Value} {L : List α} (h : Own y e w base v L) (hb : But S w w') (hv : ∀ g, v.ownBlock = some g → ¬ S g) : Own y e w' base v L := own_but h hb hv
theorem Own.nil {α : Type} (y : Lay α) (e : TypeId) (w : World) (base : Nat) : Own y e w base (.slice none 0 0) [] := World.ownsRow_nil _ _ _ _
theorem Own.frm {α : Type} {y : Lay α} {e : TypeId} {w : World} {base : Nat} {v : Value} {L : List α} (h : Own y e w base v L) (hn : 0 < L.length) : ∃ g c, v = .slice (some ⟨g, 0, none⟩) L.length c ∧ base ≤ g ∧ g < w.heap.size ∧ L.length ≤ c := own_some h hn
theorem Own.cut {α : Type} {y : Lay α} {e : TypeId} {w : World} {base g n c k : Nat} {L : List α} (h : Own y e w base (.slice (some ⟨g, 0, none⟩) n c) L) (hn : L.length = n) (hk : k ≤ n) : Own y e w base (.slice (some ⟨g, 0, none⟩) k c) (L.take k) := by
  subst hn
  unfold Own
  rw [List.length_take, Nat.min_eq_left hk, ← y.fl_take]
  exact own_cut h hk
theorem Own.lt {α : Type} {y : Lay α} {e : TypeId} {w : World} {base : Nat} {v : Value} {L : List α} (h : Own y e w base v L) : ∀ g, v.ownBlock = some g → base ≤ g ∧ g < w.heap.size := World.ownsRow.lt h
theorem Own.mono {α : Type} {y : Lay α} {e : TypeId} {w : World} {base base' : Nat} {v : Value} {L : List α} (h : Own y e w base v L) (hb : base' ≤ base) : Own y e w base' v L := own_mono h hb
theorem add_at (b off j : Nat) : (⟨b, off, none⟩ : Addr).add j = ⟨b, off + j, none⟩ := by unfold Addr.add; split <;> simp_all
/-- Things that came in, or lie in another's row. -/
structure TRow {α : Type} (y : Lay α) (w : World) (a : Option Addr) (n : Nat) (L : List α) : Prop where
  len : L.length = n
  cells : n = 0 ∨ ∃ b off, a = some ⟨b, off, none⟩ ∧ ∀ i x, L[i]? = some x → ∀ t u, (y.cs x)[t]? = some u → w.cell? ⟨b, off + i * y.z + t, none⟩ = some u
theorem TRow.nil {α : Type} (y : Lay α) (w : World) (a : Option Addr) : TRow y w a 0 [] := ⟨rfl, .inl rfl⟩
theorem TRow.below {α : Type} {y : Lay α} {w w' : World} {a : Option Addr} {n : Nat} {L : List α} (h : TRow y w a n L) (hb : Below w.heap.size w w') : TRow y w' a n L := by
  refine ⟨h.len, h.cells.imp id ?_⟩
  rintro ⟨b, off, ha, hc⟩
  refine ⟨b, off, ha, fun i r hr t u hu => ?_⟩
  have c0 := hc i r hr t u hu
  have hlt : b < w.heap.size := World.block_lt_of_cell? w _ c0
  exact (hb.cell (p := ⟨b, off + i * y.z + t, none⟩) hlt).trans c0
theorem TRow.at {α : Type} {y : Lay α} {w : World} {a : Option Addr} {n : Nat} {L : List α} (h : TRow y w a n L) (hn : 0 < n) : ∃ b off, a = some ⟨b, off, none⟩ ∧ b < w.heap.size ∧ ∀ i x, L[i]? = some x → ∀ t u, (y.cs x)[t]? = some u → w.cell? ⟨b, off + i * y.z + t, none⟩ = some u := by
  rcases h.cells with h0 | ⟨b, off, ha, hc⟩
  · omega
  · refine ⟨b, off, ha, ?_, hc⟩
    have hl : 0 < L.length := by rw [h.len]; exact hn
    have h0 : L[0]? = some L[0] := List.getElem?_eq_getElem hl
    have hz : 0 < (y.cs L[0]).length := by rw [y.len]; exact y.pos
    exact World.block_lt_of_cell? w _ (hc 0 _ h0 0 _ (List.getElem?_eq_getElem hz))
theorem Own.row {α : Type} {y : Lay α} {e : TypeId} {w : World} {base n c : Nat} {a : Option Addr} {L : List α} (h : Own y e w base (.slice a n c) L) (hn : L.length = n) : TRow y w a n L := by
  refine ⟨hn, ?_⟩
  rcases Nat.eq_zero_or_pos n with h0 | h0
  · exact .inl h0
  · obtain ⟨g, c', hv, _⟩ := h.frm (by omega)
    cases hv
    refine .inr ⟨g, 0, rfl, fun i x hx t u hu => ?_⟩
    rw [Nat.zero_add]
    exact h.cell hx t hu
theorem TRow.cut {α : Type} {y : Lay α} {w : World} {a : Option Addr} {n : Nat} {L : List α} (h : TRow y w a n L) (k : Nat) (hk : k ≤ n) : TRow y w a k (L.take k) := by
  refine ⟨by rw [List.length_take, h.len]; omega, ?_⟩
  rcases h.cells with h0 | ⟨b, off, ha, hc⟩
  · exact .inl (by omega)
  · refine .inr ⟨b, off, ha, fun i x hx => hc i x ?_⟩
    rw [List.getElem?_take] at hx
    split at hx
    · exact hx
    · cases hx
theorem TRow.news {α : Type} {y : Lay α} {w : World} {ad : Addr} {n : Nat} {L : List α} (h : TRow y w (some ad) n L) : ∀ j u, (y.fl L)[j]? = some u → w.cell? (ad.add j) = some u := by
  intro j u hj
  have hlt := get_lt hj
  rw [y.fl_len] at hlt
  have hz := y.pos
  have hi : j / y.z < L.length := Nat.div_lt_of_lt_mul (by rw [Nat.mul_comm]; exact hlt)
  have hd : j = j / y.z * y.z + j % y.z := by have := Nat.div_add_mod j y.z; rw [Nat.mul_comm]; omega
  have hm : j % y.z < y.z := Nat.mod_lt _ hz
  have hg : L[j / y.z]? = some L[j / y.z] := List.getElem?_eq_getElem hi
  rcases h.cells with h0 | ⟨b, off, ha, hc⟩
  · exact absurd hi (by rw [h.len, h0]; exact Nat.not_lt_zero _)
  · cases ha
    rw [hd, y.fl_get hg hm] at hj
    have := hc _ _ hg _ _ hj
    have e : (⟨b, off, none⟩ : Addr).add j = ⟨b, off + j / y.z * y.z + j % y.z, none⟩ := by
      have e2 : off + j / y.z * y.z + j % y.z = off + j := by omega
      rw [e2]
      exact add_at _ _ _
    rw [e]; exact this
theorem made_fl {α : Type} (y : Lay α) (x : α) (n : Nat) : (madeCells (y.cs x).toArray (n * y.z)).toList = y.fl (List.replicate n x) := by
  have hz := y.pos
  apply List.ext_getElem?
  intro j
  by_cases hj : j < n * y.z
  · have hi : j / y.z < n := Nat.div_lt_of_lt_mul (by rw [Nat.mul_comm]; exact hj)
    have hm : j % y.z < y.z := Nat.mod_lt _ hz
    have hd : j = j / y.z * y.z + j % y.z := by have := Nat.div_add_mod j y.z; rw [Nat.mul_comm]; omega
    have hg : (List.replicate n x)[j / y.z]? = some x := by rw [List.getElem?_replicate, if_pos hi]
    have h1 := y.fl_get hg hm
    rw [← hd] at h1
    rw [h1]
    have hm2 : j % y.z < (y.cs x).length := by rw [y.len]; exact hm
    simp [madeCells, hj, y.len]
    rw [List.getElem?_eq_getElem hm2]; rfl
  · rw [List.getElem?_eq_none (by rw [Array.length_toList, size_madeCells]; omega), List.getElem?_eq_none (by rw [y.fl_len, List.length_replicate]; omega)]
theorem getElem_append_replicate {α : Type} (D : List α) (k : Nat) (z : α) (hk : D.length < k) : (D ++ List.replicate (k - D.length) z)[D.length]? = some z := by
  rw [List.getElem?_append_right (Nat.le_refl _), Nat.sub_self, List.getElem?_replicate, if_pos (by omega)]
theorem set_append_replicate {α : Type} (D : List α) (k : Nat) (z x : α) (hk : D.length < k) : (D ++ List.replicate (k - D.length) z).set D.length x = (D ++ [x]) ++ List.replicate (k - (D ++ [x]).length) z := by
  rw [List.set_append_right _ _ (Nat.le_refl _), Nat.sub_self]
  obtain ⟨m, hm⟩ : ∃ m, k - D.length = m + 1 := ⟨k - D.length - 1, by omega⟩
  have hm2 : k - (D ++ [x]).length = m := by simp; omega
  rw [hm, hm2, List.replicate_succ, List.set_cons_zero]
  simp
end Go.Proofs.Ytnengkdddckjaaa
