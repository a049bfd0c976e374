/-
  MergeKept: rows written over, records put behind their records.
-/
import Derived.Test.YtdlpffbeladgaabKpA
namespace Go.Proofs.Ytdlpffbeladgaab
open Go.RowKit
/-- Rows as long as others. -/
def Shp (Gs Gs' : List (Int × List Rc)) : Prop := Gs'.map (fun G => G.2.length) = Gs.map (fun G => G.2.length)
theorem Shp.refl (Gs : List (Int × List Rc)) : Shp Gs Gs := rfl
theorem Shp.len {Gs Gs' : List (Int × List Rc)} (h : Shp Gs Gs') : Gs'.length = Gs.length := by
  have := congrArg List.length h
  simpa using this
theorem Shp.at {Gs Gs' : List (Int × List Rc)} (h : Shp Gs Gs') {i : Nat} {G G' : Int × List Rc} (hG : Gs[i]? = some G) (hG' : Gs'[i]? = some G') : G'.2.length = G.2.length := by
  have h9 := congrArg (fun l => l[i]?) h
  simp only [List.getElem?_map, hG, hG', Option.map_some] at h9
  exact Option.some.inj h9
theorem Shp.set {Gs Gs' : List (Int × List Rc)} (h : Shp Gs Gs') {i : Nat} {G' : Int × List Rc} (hG' : Gs'[i]? = some G') (g : Int) {R : List Rc} (hR : R.length = G'.2.length) : Shp Gs (Gs'.set i (g, R)) := by
  unfold Shp at *
  rw [List.map_set, ← h]
  apply List.ext_getElem?
  intro j
  rw [List.getElem?_set]
  by_cases hj : i = j
  · subst hj
    rw [if_pos rfl, if_pos (by rw [List.length_map]; exact get_lt hG'), List.getElem?_map, hG']
    simp [hR]
  · rw [if_neg hj]
theorem Shp.all {Gs Gs' : List (Int × List Rc)} (h : Shp Gs Gs') {B : Nat} (hB : ∀ G ∈ Gs, G.2.length ≤ B) : ∀ G ∈ Gs', G.2.length ≤ B := by
  intro G hG
  have : G.2.length ∈ Gs'.map (fun G => G.2.length) := List.mem_map.2 ⟨G, hG, rfl⟩
  rw [h] at this
  obtain ⟨G0, h0, e0⟩ := List.mem_map.1 this
  rw [← e0]
  exact hB G0 h0
def mark (i k : Nat) : Rc := ⟨1000 + (i : Int), (k : Int), 0, 0, 0⟩
def fill (i k : Nat) : Rc := ⟨-1 - (i : Int), (k : Int), 0, 0, 0⟩
def marks (i n : Nat) : List Rc := (List.range n).map (mark i)
theorem marks_snoc (i n : Nat) : marks i (n + 1) = marks i n ++ [mark i n] := by unfold marks; rw [List.range_succ, List.map_append]; rfl
theorem marks_len (i n : Nat) : (marks i n).length = n := by simp [marks]
theorem marks_get {i n k : Nat} (hk : k < n) : (marks i n)[k]? = some (mark i k) := by simp [marks, hk]
/-- Rows that are written over up to a place. -/
structure Fil (Gs Gs' : List (Int × List Rc)) (i k : Nat) : Prop where
  shp : Shp Gs Gs'
  done : ∀ (j q : Nat) (G' : Int × List Rc), Gs'[j]? = some G' → q < G'.2.length → (j < i ∨ (j = i ∧ q < k)) → G'.2[q]? = some (fill j q)
theorem Fil.refl (Gs : List (Int × List Rc)) : Fil Gs Gs 0 0 := ⟨rfl, fun j q G' _ _ h => by omega⟩
theorem Fil.step {Gs Gs' : List (Int × List Rc)} {i k : Nat} (h : Fil Gs Gs' i k) {G' : Int × List Rc} (hG : Gs'[i]? = some G') (hk : k < G'.2.length) : Fil Gs (Gs'.set i (G'.1, G'.2.set k (fill i k))) i (k + 1) := by
  refine ⟨h.shp.set hG _ (by simp), fun j q X hX hq hjq => ?_⟩
  by_cases hj : j = i
  · subst hj
    rw [List.getElem?_set_self (get_lt hG)] at hX
    cases hX
    dsimp only at hq ⊢
    rw [List.length_set] at hq
    by_cases e : q = k
    · subst e
      rw [List.getElem?_set_self hq]
    · rw [List.getElem?_set_ne (fun e' => e e'.symm)]
      exact h.done j q G' hG hq (.inr ⟨rfl, by omega⟩)
  · rw [List.getElem?_set_ne (fun e => hj e.symm)] at hX
    exact h.done j q X hX hq (by omega)
theorem Fil.next {Gs Gs' : List (Int × List Rc)} {i k : Nat} (h : Fil Gs Gs' i k) (hk : ∀ G', Gs'[i]? = some G' → G'.2.length ≤ k) : Fil Gs Gs' (i + 1) 0 := by
  refine ⟨h.shp, fun j q X hX hq hjq => ?_⟩
  by_cases hj : j = i
  · subst hj
    have := hk X hX
    exact h.done j q X hX hq (.inr ⟨rfl, by omega⟩)
  · exact h.done j q X hX hq (by omega)
/-- What is needed to read and write a record of a list. -/
theorem Own.look5 {w : World} {lo : Nat} {s : Sl} {R : List Rc} (h : Own layR 42 w lo s.v R) {k : Nat} {r : Rc} (hr : R[k]? = some r) :
    ∃ g cr, s.a = some ⟨g, 0, none⟩ ∧ s.n = R.length ∧ s.n ≤ s.c ∧ lo ≤ g ∧ g < w.heap.size ∧ w.heap[g]? = some (.cells cr 42 (0, 0)) ∧ w.cell? ⟨g, k * 5, none⟩ = some (.int .i64 r.stamp) ∧ w.cell? ⟨g, k * 5 + 1, none⟩ = some (.int .i64 r.kind) ∧ w.cell? ⟨g, k * 5 + 2, none⟩ = some (.int .u64 r.obj) ∧ w.cell? ⟨g, k * 5 + 3, none⟩ = some (.int .u64 r.arg) ∧ w.cell? ⟨g, k * 5 + 4, none⟩ = some (.int .i64 r.stack) := by
  have hl := get_lt hr
  rcases h.2 with ⟨e, h0⟩ | ⟨g, cap, cur, e, hg, hh, hc, _⟩
  · omega
  · injection e with e1 e2 e3
    have h' : Own layR 42 w lo (.slice (some ⟨g, 0, none⟩) s.n s.c) R := by
      have h9 : Own layR 42 w lo (.slice s.a s.n s.c) R := h
      rw [e1] at h9
      exact h9
    exact ⟨g, cur, e1, e2, by rw [e2, e3]; exact hc, hg, get_lt' hh, hh, h'.cell hr 0 rfl, h'.cell hr 1 rfl, h'.cell hr 2 rfl, h'.cell hr 3 rfl, h'.cell hr 4 rfl⟩
theorem Rowz.look {w : World} {lo n c : Nat} {a : Option Addr} {rws : List Rw} {Gs : List (Int × List Rc)} (h : Rowz w lo (.slice a n c) rws Gs) (hn : rws.length = n) {i : Nat} {rw : Rw} (hrw : rws[i]? = some rw) :
    ∃ b, a = some ⟨b, 0, none⟩ ∧ lo ≤ b ∧ b < w.heap.size ∧ w.cell? ⟨b, i * 2, none⟩ = some (.int .i64 rw.g) ∧ w.cell? ⟨b, i * 2 + 1, none⟩ = some (.slice rw.s.a rw.s.n rw.s.c) ∧ n ≤ c := by
  obtain ⟨b, c', hv, h1, h2, h3⟩ := h.own.frm (by have := get_lt hrw; omega)
  injection hv with e1 e2 e3
  subst e1
  exact ⟨b, rfl, h1, h2, h.own.cell hrw 0 rfl, h.own.cell hrw 1 rfl, by rw [e3, e2]; exact h3⟩
theorem Rowz.butB {S : Nat → Prop} {w w' : World} {base : Nat} {v : Value} {rws : List Rw} {Gs : List (Int × List Rc)} (h : Rowz w base v rws Gs) (hb : But S w w') (hS : ∀ k, base ≤ k → k < w.heap.size → ¬ S k) : Rowz w' base v rws Gs :=
  ⟨h.own.but hb (fun g hg => hS g (h.own.lt g hg).1 (h.own.lt g hg).2), h.len, fun k rw G h1 h2 => ⟨(h.each k rw G h1 h2).1, (h.each k rw G h1 h2).2.but hb (fun g hg => hS g ((h.each k rw G h1 h2).2.lt g hg).1 ((h.each k rw G h1 h2).2.lt g hg).2)⟩, h.one⟩
/-- A record is written. -/
theorem Rowz.set5 {w : World} {lo : Nat} {v : Value} {rws : List Rw} {Gs : List (Int × List Rc)} (h : Rowz w lo v rws Gs) {i k g : Nat} {rw : Rw} {G : Int × List Rc} (hrw : rws[i]? = some rw) (hG : Gs[i]? = some G) (hg : rw.s.a = some ⟨g, 0, none⟩) (hk : k < G.2.length) (r : Rc) :
    Rowz (((((w.setCell ⟨g, k * 5, none⟩ (.int .i64 r.stamp)).setCell ⟨g, k * 5 + 1, none⟩ (.int .i64 r.kind)).setCell ⟨g, k * 5 + 2, none⟩ (.int .u64 r.obj)).setCell ⟨g, k * 5 + 3, none⟩ (.int .u64 r.arg)).setCell ⟨g, k * 5 + 4, none⟩ (.int .i64 r.stack)) lo v rws (Gs.set i (G.1, G.2.set k r)) := by
  have ho := (h.each i rw G hrw hG).2
  obtain ⟨_, _, e, _, _⟩ := own_form ho
  injection e with _ e2 _
  have ho' : Own layR 42 w lo (.slice (some ⟨g, 0, none⟩) rw.s.n rw.s.c) G.2 := by
    have h9 : Own layR 42 w lo (.slice rw.s.a rw.s.n rw.s.c) G.2 := ho
    rw [hg] at h9
    exact h9
  have hv : rw.s.v = .slice (some ⟨g, 0, none⟩) rw.s.n rw.s.c := by unfold Sl.v; rw [hg]
  refine h.put (g := g) hrw hG (by rw [hv]; rfl) ?_ ?_
  · exact (((((But.refl (fun q => q = g) w).setCell ⟨g, k * 5, none⟩ (fun _ => rfl) _).setCell ⟨g, k * 5 + 1, none⟩ (fun _ => rfl) _).setCell ⟨g, k * 5 + 2, none⟩ (fun _ => rfl) _).setCell ⟨g, k * 5 + 3, none⟩ (fun _ => rfl) _).setCell ⟨g, k * 5 + 4, none⟩ (fun _ => rfl) _
  · rw [hv]
    exact ho'.set e2.symm hk r
/-- A record's object is written. -/
theorem Rowz.set2 {w : World} {lo : Nat} {v : Value} {rws : List Rw} {Gs : List (Int × List Rc)} (h : Rowz w lo v rws Gs) {i k g : Nat} {rw : Rw} {G : Int × List Rc} {r : Rc} (hrw : rws[i]? = some rw) (hG : Gs[i]? = some G) (hg : rw.s.a = some ⟨g, 0, none⟩) (hr : G.2[k]? = some r) (o : Int) :
    Rowz (w.setCell ⟨g, k * 5 + 2, none⟩ (.int .u64 o)) lo v rws (Gs.set i (G.1, G.2.set k ⟨r.stamp, r.kind, o, r.arg, r.stack⟩)) := by
  have ho := (h.each i rw G hrw hG).2
  obtain ⟨_, _, e, _, _⟩ := own_form ho
  injection e with _ e2 _
  have ho' : Own layR 42 w lo (.slice (some ⟨g, 0, none⟩) rw.s.n rw.s.c) G.2 := by
    have h9 : Own layR 42 w lo (.slice rw.s.a rw.s.n rw.s.c) G.2 := ho
    rw [hg] at h9
    exact h9
  have hv : rw.s.v = .slice (some ⟨g, 0, none⟩) rw.s.n rw.s.c := by unfold Sl.v; rw [hg]
  refine h.put (g := g) hrw hG (by rw [hv]; rfl) ((But.refl (fun q => q = g) w).setCell ⟨g, k * 5 + 2, none⟩ (fun _ => rfl) _) ?_
  rw [hv]
  exact ho'.setU e2.symm (t := 2) (u := .int .u64 o) hr (by decide) rfl
/-- Rows, and lists that hold their records and seventy behind them. -/
structure Mor (w : World) (sA sB sD : Nat) (va vm : Value) (rws : List Rw) (Gs : List (Int × List Rc)) (ms : List Sl) : Prop where
  a : Rowz w sA va rws Gs
  lt : ∀ (k : Nat) (rw : Rw) (g : Nat), rws[k]? = some rw → rw.s.v.ownBlock = some g → g < sB
  vlt : ∀ g, va.ownBlock = some g → g < sB
  own : Own laySl 38 w sD vm ms
  sz : sB ≤ sD
  each : ∀ (j : Nat) (s : Sl), ms[j]? = some s → ∃ G rw g, rws[j]? = some rw ∧ Gs[j]? = some G ∧ s.a = some ⟨g, 0, none⟩ ∧ (rw.s.v.ownBlock = some g ∨ sD ≤ g) ∧ Own layR 42 w sA s.v (G.2 ++ marks j 70)
theorem Mor.below {w w' : World} {sA sB sD : Nat} {va vm : Value} {rws : List Rw} {Gs : List (Int × List Rc)} {ms : List Sl} (h : Mor w sA sB sD va vm rws Gs ms) (hb : Below w.heap.size w w') : Mor w' sA sB sD va vm rws Gs ms := by
  refine ⟨h.a.below hb, h.lt, h.vlt, h.own.below hb, h.sz, fun j s hs => ?_⟩
  obtain ⟨G, rw, g, e1, e2, e3, e4, e5⟩ := h.each j s hs
  exact ⟨G, rw, g, e1, e2, e3, e4, e5.below hb⟩
theorem own_cells {α : Type} {y : Lay α} {e : TypeId} {w : World} {base g n c : Nat} {L : List α} (h : Own y e w base (.slice (some ⟨g, 0, none⟩) n c) L) : ∃ cur, w.heap[g]? = some (.cells cur e (0, 0)) := by
  rcases h.2 with ⟨e, _⟩ | ⟨g', cap, cur, e, _, hh, _⟩
  · cases e
  · cases e
    exact ⟨cur, hh⟩
/-- Seventy behind one of the rows' records. -/
theorem Mor.add {w w' : World} {sA sB sD : Nat} {va vm : Value} {rws : List Rw} {Gs : List (Int × List Rc)} {ms : List Sl} (h : Mor w sA sB sD va vm rws Gs ms) {i : Nat} {rw : Rw} {G : Int × List Rc} (hi : ms.length ≤ i) (hrw : rws[i]? = some rw) (hG : Gs[i]? = some G) {q : Nat} (hq : rw.s.v.ownBlock = some q)
    (hk : Own layR 42 w' sA rw.s.v G.2) (hg : w.grownBy w' rw.s.v.ownBlock) : Mor w' sA sB sD va vm rws Gs ms := by
  have hb : But (fun k => k = q) w w' := But.of_grown hg (fun k e => by rw [hq] at e; exact (Option.some.inj e).symm)
  have hqB := h.lt i rw q hrw hq
  refine ⟨?_, h.lt, h.vlt, h.own.but hb (fun g e e9 => ?_), h.sz, fun j s hs => ?_⟩
  · have h9 := h.a.put hrw hG hq hb hk
    have e : Gs.set i (G.1, G.2) = Gs := by
      apply List.ext_getElem?
      intro j
      rw [List.getElem?_set]
      by_cases hj : i = j
      · subst hj
        rw [if_pos rfl, if_pos (get_lt hG), hG]
      · rw [if_neg hj]
    rw [e] at h9
    exact h9
  · have := (h.own.lt g e).1
    have hsz := h.sz
    have e8 : g = q := e9
    omega
  · obtain ⟨G', rw', g, e1, e2, e3, e4, e5⟩ := h.each j s hs
    refine ⟨G', rw', g, e1, e2, e3, e4, e5.but hb (fun g' e e9 => ?_)⟩
    have eg : g' = g := by
      unfold Sl.v at e
      rw [e3] at e
      simp [Value.ownBlock] at e
      exact e.symm
    have e8 : g' = q := e9
    rcases e4 with e4 | e4
    · have := h.a.one j i rw' rw q e1 hrw (by rw [e4, ← eg, e8]) hq
      have := get_lt hs
      omega
    · have hsz := h.sz
      omega
theorem Mor.snoc {w w' : World} {sA sB sD : Nat} {va vm vm' : Value} {rws : List Rw} {Gs : List (Int × List Rc)} {ms : List Sl} (h : Mor w sA sB sD va vm rws Gs ms) {s : Sl} {g : Nat} {rw : Rw} {G : Int × List Rc} (hrw : rws[ms.length]? = some rw) (hG : Gs[ms.length]? = some G)
    (hs : s.a = some ⟨g, 0, none⟩) (hd : rw.s.v.ownBlock = some g ∨ sD ≤ g) (ho : Own layR 42 w sA s.v (G.2 ++ marks ms.length 70)) (hv : Own laySl 38 w' sD vm' (ms ++ [s])) (hg : w.grownBy w' vm.ownBlock) : Mor w' sA sB sD va vm' rws Gs (ms ++ [s]) := by
  have hb : But (fun k => vm.ownBlock = some k) w w' := But.of_grown hg (fun k e => e)
  have hsz := h.sz
  have hR : ∀ (s : Sl) (R : List Rc), Own layR 42 w sA s.v R → Own layR 42 w' sA s.v R := fun s R ho => ho.but hb (fun g' e e9 => by
    rcases ho.2 with ⟨e0, _⟩ | ⟨g0, cap, cur, e0, _, hh, _⟩
    · rw [e0] at e; cases e
    · have e1 : g0 = g' := by rw [e0] at e; simpa [Value.ownBlock] using e
      subst e1
      exact own_ne_cells h.own hh (by decide) e9)
  refine ⟨⟨h.a.own.but hb (fun g e e9 => ?_), h.a.len, fun k rw G h1 h2 => ⟨(h.a.each k rw G h1 h2).1, hR _ _ (h.a.each k rw G h1 h2).2⟩, h.a.one⟩, h.lt, h.vlt, hv, h.sz, fun j x hx => ?_⟩
  · have h1 := h.vlt g e
    have h2 := (h.own.lt g e9).1
    omega
  · by_cases hj : j < ms.length
    · rw [List.getElem?_append_left hj] at hx
      obtain ⟨G', rw', g', e1, e2, e3, e4, e5⟩ := h.each j x hx
      exact ⟨G', rw', g', e1, e2, e3, e4, hR _ _ e5⟩
    · have hj' := get_lt hx
      rw [List.length_append, List.length_singleton] at hj'
      have ej : j = ms.length := by omega
      subst ej
      rw [List.getElem?_append_right (Nat.le_refl _), Nat.sub_self] at hx
      simp at hx
      subst hx
      exact ⟨G, rw, g, hrw, hG, hs, hd, hR _ _ ho⟩
theorem But.set5R {S : Nat → Prop} {a w : World} {g : Nat} (h : But S a w) (hS : g < a.heap.size → S g) (i : Nat) (v0 v1 v2 v3 v4 : Value) : But S a (((((w.setCell ⟨g, i, none⟩ v0).setCell ⟨g, i + 1, none⟩ v1).setCell ⟨g, i + 2, none⟩ v2).setCell ⟨g, i + 3, none⟩ v3).setCell ⟨g, i + 4, none⟩ v4) :=
  ((((h.setCell ⟨g, i, none⟩ hS v0).setCell ⟨g, i + 1, none⟩ hS v1).setCell ⟨g, i + 2, none⟩ hS v2).setCell ⟨g, i + 3, none⟩ hS v3).setCell ⟨g, i + 4, none⟩ hS v4
theorem Try.infoL : (Try.prog.info? 38).map (fun i => (i.zero, i.size, i.bytes)) = some (some (.slice none 0 0), 1, 24) := by kernel_rfl
theorem lit_one : Gors [1] [((⟨1, 4, 0, 0, ⟨none, 0, 0⟩⟩ : Vt), (0 : Int))] ∧ rowsOf [1] [((⟨1, 4, 0, 0, ⟨none, 0, 0⟩⟩ : Vt), (0 : Int))] = [((1 : Int), [(⟨0, 4, 0, 0, 0⟩ : Rc)])] := by
  refine ⟨⟨List.pairwise_singleton _ _, fun g => ?_⟩, ?_⟩
  · simp [eq_comm]
  · simp [rowsOf, recG, rcOf]
end Go.Proofs.Ytdlpffbeladgaab
