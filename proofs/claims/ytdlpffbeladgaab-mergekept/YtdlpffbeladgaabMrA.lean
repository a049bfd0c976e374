/-
  Merge.
-/
import Derived.Test.YtdlpffbeladgaabMgP
import Derived.Test.YtdlpffbeladgaabMtM
import Derived.Test.YtdlpffbeladgaabRgI
namespace Go.Proofs.Ytdlpffbeladgaab
open Go.RowKit Go.Maps Go.Shelf
attribute [local go_sem] Oper.semAt_some
theorem results_ttt {P : Program} {fn : Func} {s t u : Tmp} (h : fn.results = #[.tmp s, .tmp t, .tmp u]) (tmps : Array Value) (w : World) (v1 v2 v3 : Value) (h1 : tmps.getD s undef = v1) (h2 : tmps.getD t undef = v2) (h3 : tmps.getD u undef = v3) : (results fn tmps).run P w = .ok (.tuple #[v1, v2, v3]) w := by
  have h1' : tmps[s]?.getD undef = v1 := by simpa using h1
  have h2' : tmps[t]?.getD undef = v2 := by simpa using h2
  have h3' : tmps[u]?.getD undef = v3 := by simpa using h3
  simp [results, h, h1', h2', h3']
set_option maxRecDepth 100000 in
set_option maxHeartbeats 4000000 in
theorem merge_bad (w : World) (a : Option Addr) (n c : Nat) (rws : List Rw) (Gs : List (Int × List Rc)) (hr : Rdz w a n rws Gs) (hn : (n : Int) ≤ 9000000000000000000) (hm : ∀ G ∈ Gs, G.2.length * 40 ≤ 140737488355328) (hf : rfault (-1) 0 Gs ≠ 0) :
    Calls Try.prog 9 #[.slice a n c] w fun r w' => r = .returned (.tuple #[.slice none 0 0, .slice none 0 0, .int .i64 (rfault (-1) 0 Gs)]) ∧ Below w.heap.size w w' := by
  have NB := new_bad w a n c rws Gs hr hn hm hf
  generalize rfault (-1) 0 Gs = t at NB hf
  have hb : (t == 0) = false := by simp [hf]
  have hb2 : (t != 0) = true := by simp [hf]
  clear hr hm hn hf
  refine (callsIn_wide (n := 4)).1 ?_
  refine callsIn_of_wp_marks Try.func9 rfl trivial ?_ rfl
  simp only [Try.ntmps9, List.size_toArray, List.length_cons, List.length_nil, Nat.reduceAdd, Nat.reduceSub, Array.replicate_succ, Array.replicate_zero, List.push_toArray, List.append_toArray, List.nil_append, List.cons_append]
  gi_wp2_with fail
  refine ⟨trivial, CallsIn.mono (callsIn_wide.2 NB) ?_⟩
  rintro r w1 ⟨rfl, b1⟩
  clear NB
  gi_wp2_with fail
  exact ⟨_, results_ttt Try.results9 _ _ _ _ _ rfl rfl rfl, rfl, b1⟩
/-- What Merge answers of rows that may be put together. -/
def evV (gs : List Int) (o : Nat × Rc) : Vt := ⟨gs.getD o.1 0, o.2.kind, o.2.obj, o.2.arg, ⟨none, 0, 0⟩⟩
def Mrgd (w w' : World) (Gs : List (Int × List Rc)) (r : Ending) : Prop :=
  Below w.heap.size w w' ∧ ∃ (O : List (Nat × Rc)) (Ls : List (List Rc)) (at_ f : Int), Run (Gs.map Prod.snd) O Ls at_ ∧ Flt Ls at_ f ∧ f ≠ 0 ∧
    ((f ≠ 90 ∧ r = .returned (.tuple #[.slice none 0 0, .slice none 0 0, .int .i64 f])) ∨
     (f = 90 ∧ ∃ v1 v2, r = .returned (.tuple #[v1, v2, .int .i64 0]) ∧ Own layV 30 w' w.heap.size v1 (O.map (evV (Gs.map Prod.fst))) ∧ Own layN 3 w' w.heap.size v2 (O.map fun o => o.2.stack)))
theorem upd_of {B : Nat → Bool} {i j : Nat} (h : upd B i j = true) (hne : j ≠ i) : B j = true := by rw [upd_ne B hne] at h; exact h
/-- What lies in memory while the two lists are made. -/
structure R4 (w0 w : World) (base : Nat) (b2 b5 b6 b7 b8 b9 : Bool) (v22 v25 v7 v8 : Value) : Prop where
  below : Below w0.heap.size w0 w
  m1 : b2 = true → Own layV 30 w base v22 []
  m2 : b5 = true → Own layN 3 w base v25 []
  a1 : b6 = true → ∃ b x, v7 = .pointer (some ⟨b, 0, none⟩) ∧ w0.heap.size ≤ b ∧ w.heap[b]? = some (.cells #[x] 22 (0, 0)) ∧ (b8 = true → x = v22)
  a2 : b7 = true → ∃ b x, v8 = .pointer (some ⟨b, 0, none⟩) ∧ w0.heap.size ≤ b ∧ w.heap[b]? = some (.cells #[x] 23 (0, 0)) ∧ (b9 = true → x = v25)
  o8 : b8 = true → b2 = true ∧ b6 = true
  o9 : b9 = true → b5 = true ∧ b7 = true
theorem R4.on {w0 w w' : World} {base : Nat} {b2 b5 b6 b7 b8 b9 : Bool} {v22 v25 v7 v8 : Value} (h : R4 w0 w base b2 b5 b6 b7 b8 b9 v22 v25 v7 v8) (hb : Below w.heap.size w w') : R4 w0 w' base b2 b5 b6 b7 b8 b9 v22 v25 v7 v8 := by
  refine ⟨Below.on h.below hb, fun e => (h.m1 e).below hb, fun e => (h.m2 e).below hb, fun e => ?_, fun e => ?_, h.o8, h.o9⟩
  · obtain ⟨b, x, h1, h2, h3, h4⟩ := h.a1 e
    exact ⟨b, x, h1, h2, (hb.block b (get_lt' h3)).trans h3, h4⟩
  · obtain ⟨b, x, h1, h2, h3, h4⟩ := h.a2 e
    exact ⟨b, x, h1, h2, (hb.block b (get_lt' h3)).trans h3, h4⟩
def fr4 (a : Option Addr) (n c p : Nat) (v7 v8 v20 v21 v22 v23 v24 v25 : Value) : Act :=
  { tmps := #[.slice a n c, undef, .slice none 0 0, .slice none 0 0, .int .i64 0, .pointer (some ⟨p, 0, none⟩), .int .i64 0, v7, v8, undef, undef, undef,
      .tuple #[.pointer (some ⟨p, 0, none⟩), .int .i64 0], .slice a n c, .tuple #[.pointer (some ⟨p, 0, none⟩), .int .i64 0], .pointer (some ⟨p, 0, none⟩), .int .i64 0, .int .i64 0,
      .bool false, undef, v20, v21, v22, v23, v24, v25, undef, undef, undef, undef, undef, undef, undef, undef, undef, undef, undef, undef, undef, undef, undef, undef, undef, undef, undef, undef, undef, undef], defers := [] }
def Inv4 (a : Option Addr) (n c p : Nat) (T : Nat) (w0 : World) (base : Nat) (B : Nat → Bool) (ac : Act) (w : World) : Prop :=
  ∃ v7 v8 v20 v21 v22 v23 v24 v25, ac = fr4 a n c p v7 v8 v20 v21 v22 v23 v24 v25 ∧ (B 0 = true → v20 = .pointer (some ⟨p, 0, none⟩)) ∧ (B 1 = true → v21 = .int .i64 (T : Int)) ∧ (B 3 = true → v23 = .pointer (some ⟨p, 0, none⟩)) ∧ (B 4 = true → v24 = .int .i64 (T : Int)) ∧ R4 w0 w base (B 2) (B 5) (B 6) (B 7) (B 8) (B 9) v22 v25 v7 v8
/-- What lies in memory between two rounds: the merger, and the two lists under way. -/
structure Mid (w X : World) (p : Nat) (rv : Value) (ph : Nat) (gs : List Int) (b1 b2 B1 B2 : Nat) (s : MSt) (O : List (Nat × Rc)) (x1 x2 : Value) : Prop where
  mgr : Mgr X w.heap.size p rv ph gs s
  t1 : X.heap[b1]? = some (.cells #[x1] 22 (0, 0))
  t2 : X.heap[b2]? = some (.cells #[x2] 23 (0, 0))
  l1 : Own layV 30 X w.heap.size x1 (O.map (evV gs))
  l2 : Own layN 3 X w.heap.size x2 (O.map fun o => o.2.stack)
  c1 : X.heap[B1]? = some (.cells #[.pointer (some ⟨p, 0, none⟩)] 56 (0, 0))
  c2 : X.heap[B2]? = some (.cells #[.pointer (some ⟨ph, 0, none⟩)] 69 (0, 0))
  below : Below w.heap.size w X
  g1 : w.heap.size ≤ b1
  g2 : w.heap.size ≤ b2
theorem Mid.but {w X X' : World} {p ph : Nat} {rv : Value} {gs : List Int} {b1 b2 B1 B2 : Nat} {s : MSt} {O : List (Nat × Rc)} {x1 x2 : Value} {S : Nat → Prop} (h : Mid w X p rv ph gs b1 b2 B1 B2 s O x1 x2) (hB : But S X X')
    (hS : ∀ q, S q → w.heap.size ≤ q ∧ ∀ cur T, X.heap[q]? = some (.cells cur T (0, 0)) → T ≠ 74 ∧ T ≠ 40 ∧ T ≠ 88 ∧ T ≠ 91 ∧ T ≠ 42 ∧ T ≠ 22 ∧ T ≠ 23 ∧ T ≠ 30 ∧ T ≠ 3 ∧ T ≠ 56 ∧ T ≠ 69) : Mid w X' p rv ph gs b1 b2 B1 B2 s O x1 x2 := by
  have no : ∀ q cur T, X.heap[q]? = some (.cells cur T (0, 0)) → (T = 74 ∨ T = 40 ∨ T = 88 ∨ T = 91 ∨ T = 42 ∨ T = 22 ∨ T = 23 ∨ T = 30 ∨ T = 3 ∨ T = 56 ∨ T = 69) → ¬ S q := by
    intro q cur T hq hT hs
    obtain ⟨n1, n2, n3, n4, n5, n6, n7, n8, n9, n10, n11⟩ := (hS q hs).2 cur T hq
    rcases hT with e | e | e | e | e | e | e | e | e | e | e
    · exact n1 e
    · exact n2 e
    · exact n3 e
    · exact n4 e
    · exact n5 e
    · exact n6 e
    · exact n7 e
    · exact n8 e
    · exact n9 e
    · exact n10 e
    · exact n11 e
  refine ⟨h.mgr.but hB (fun q hm => ?_) (fun b cur _ hb => no b cur _ hb (by simp)), (hB.block b1 (get_lt' h.t1) (no b1 _ _ h.t1 (by simp))).trans h.t1, (hB.block b2 (get_lt' h.t2) (no b2 _ _ h.t2 (by simp))).trans h.t2, h.l1.but hB (fun g hg => ?_), h.l2.but hB (fun g hg => ?_),
    (hB.block B1 (get_lt' h.c1) (no B1 _ _ h.c1 (by simp))).trans h.c1, (hB.block B2 (get_lt' h.c2) (no B2 _ _ h.c2 (by simp))).trans h.c2, h.below.trans (hB.below h.below.size (fun k hk => (hS k hk).1)), h.g1, h.g2⟩
  · obtain ⟨cur, T, e1, e2⟩ := h.mgr.ty hm
    exact no q cur T e1 (by rcases e2 with e | e | e | e <;> simp [e])
  · obtain ⟨cur, hc⟩ := own_ty h.l1 hg
    exact no g cur _ hc (by simp)
  · obtain ⟨cur, hc⟩ := own_ty h.l2 hg
    exact no g cur _ hc (by simp)
theorem Mid.on {w X X' : World} {p ph : Nat} {rv : Value} {gs : List Int} {b1 b2 B1 B2 : Nat} {s : MSt} {O : List (Nat × Rc)} {x1 x2 : Value} (h : Mid w X p rv ph gs b1 b2 B1 B2 s O x1 x2) (hB : Below X.heap.size X X') : Mid w X' p rv ph gs b1 b2 B1 B2 s O x1 x2 :=
  h.but (S := fun _ => False) (But.of_below hB) (fun _ e => e.elim)
theorem Mid.put {w X : World} {p ph : Nat} {rv : Value} {gs : List Int} {b1 b2 B1 B2 : Nat} {s : MSt} {O : List (Nat × Rc)} {x1 x2 : Value} (h : Mid w X p rv ph gs b1 b2 B1 B2 s O x1 x2) {q : Nat} {o : Obj} (ho : X.heap[q]? = some o) (hn : ∀ cur T, o ≠ .cells cur T (0, 0)) (hq : w.heap.size ≤ q) (o' : Obj) : Mid w (X.putObj q o') p rv ph gs b1 b2 B1 B2 s O x1 x2 :=
  h.but (but_put X q o') (fun k hk => by
    have e : k = q := hk
    subst e
    exact ⟨hq, fun cur T e => absurd (Option.some.inj (ho.symm.trans e)) (hn cur T)⟩)
theorem Mid.take {w X X' : World} {p ph : Nat} {rv : Value} {gs : List Int} {b1 b2 B1 B2 : Nat} {s s2 : MSt} {O : List (Nat × Rc)} {x1 x2 : Value} {x : Int × Rc} (h : Mid w X p rv ph gs b1 b2 B1 B2 s O x1 x2) (tk : Take w.heap.size p rv ph gs s x X X' s2) : Mid w X' p rv ph gs b1 b2 B1 B2 s2 O x1 x2 := by
  have hB := tk.but
  have no : ∀ q cur T, X.heap[q]? = some (.cells cur T (0, 0)) → (T ≠ 74 ∧ T ≠ 40 ∧ T ≠ 88 ∧ T ≠ 91) → ¬ Mine p rv ph s.hv q := fun q cur T hq hT => h.mgr.not_ty hq (fun cur' T' e => by cases e; exact hT)
  refine ⟨tk.mgr, (hB.block b1 (get_lt' h.t1) (no b1 _ _ h.t1 (by decide))).trans h.t1, (hB.block b2 (get_lt' h.t2) (no b2 _ _ h.t2 (by decide))).trans h.t2, h.l1.but hB (fun g hg => ?_), h.l2.but hB (fun g hg => ?_),
    (hB.block B1 (get_lt' h.c1) (no B1 _ _ h.c1 (by decide))).trans h.c1, (hB.block B2 (get_lt' h.c2) (no B2 _ _ h.c2 (by decide))).trans h.c2, h.below.trans (hB.below h.below.size (fun k hk => ?_)), h.g1, h.g2⟩
  · obtain ⟨cur, hc⟩ := own_ty h.l1 hg
    exact no g cur _ hc (by decide)
  · obtain ⟨cur, hc⟩ := own_ty h.l2 hg
    exact no g cur _ hc (by decide)
  · exact h.mgr.mineGe hk
/-- The blocks that a round writes. -/
def S8 (b1 b2 : Nat) (y1 y2 : Value) (q : Nat) : Prop := q = b1 ∨ q = b2 ∨ y1.ownBlock = some q ∨ y2.ownBlock = some q
/-- What lies in memory while a round's two appends are under way. -/
structure R8 (U X : World) (base b1 b2 : Nat) (y1 y2 : Value) (L1 : List Vt) (L2 : List Int) (e : Vt) (st : Int) (b0 b4 b5 b6 b9 b10 b11 b12 : Bool) (v34 v35 v39 v40 : Value) : Prop where
  but : But (S8 b1 b2 y1 y2) U X
  t1 : X.heap[b1]? = some (.cells #[if b11 = true then v35 else y1] 22 (0, 0))
  t2 : X.heap[b2]? = some (.cells #[if b12 = true then v40 else y2] 23 (0, 0))
  l1 : Own layV 30 X base (if b5 = true then v35 else y1) (if b5 = true then L1 ++ [e] else L1)
  l2 : Own layN 3 X base (if b10 = true then v40 else y2) (if b10 = true then L2 ++ [st] else L2)
  q1 : b4 = true → ∃ bs, v34 = .slice (some ⟨bs, 0, none⟩) 1 1 ∧ U.heap.size ≤ bs ∧ X.heap[bs]? = some (.cells (layV.cs e).toArray 30 (0, 0))
  q2 : b9 = true → ∃ bs, v39 = .slice (some ⟨bs, 0, none⟩) 1 1 ∧ U.heap.size ≤ bs ∧ X.heap[bs]? = some (.cells (layN.cs st).toArray 3 (0, 0))
  o10 : b10 = true → b5 = true ∧ b9 = true
  o11 : b11 = true → b10 = true ∧ b0 = true ∧ b5 = true
  o12 : b12 = true → b11 = true ∧ b6 = true ∧ b10 = true
  o5 : b5 = true → b4 = true
theorem R8.on {U X X' : World} {base b1 b2 : Nat} {y1 y2 : Value} {L1 : List Vt} {L2 : List Int} {e : Vt} {st : Int} {b0 b4 b5 b6 b9 b10 b11 b12 : Bool} {v34 v35 v39 v40 : Value} (h : R8 U X base b1 b2 y1 y2 L1 L2 e st b0 b4 b5 b6 b9 b10 b11 b12 v34 v35 v39 v40) (hb : Below X.heap.size X X') : R8 U X' base b1 b2 y1 y2 L1 L2 e st b0 b4 b5 b6 b9 b10 b11 b12 v34 v35 v39 v40 := by
  refine ⟨h.but.on hb, (hb.block _ (get_lt' h.t1)).trans h.t1, (hb.block _ (get_lt' h.t2)).trans h.t2, h.l1.below hb, h.l2.below hb, fun e => ?_, fun e => ?_, h.o10, h.o11, h.o12, h.o5⟩
  · obtain ⟨bs, q1, q2, q3⟩ := h.q1 e
    exact ⟨bs, q1, q2, (hb.block _ (get_lt' q3)).trans q3⟩
  · obtain ⟨bs, q1, q2, q3⟩ := h.q2 e
    exact ⟨bs, q1, q2, (hb.block _ (get_lt' q3)).trans q3⟩
def fr8 (a : Option Addr) (n c p b1 b2 T : Nat) (x1 x2 fv : Value) (g : Int) (rb : Nat) (r : Rc) (v30 v31 v32 v33 v34 v35 v36 v37 v38 v39 v40 : Value) : Act :=
  { tmps := #[.slice a n c, undef, .slice none 0 0, .slice none 0 0, .int .i64 0, .pointer (some ⟨p, 0, none⟩), .int .i64 0, .pointer (some ⟨b1, 0, none⟩), .pointer (some ⟨b2, 0, none⟩), .int .i64 g, .pointer (some ⟨rb, 0, none⟩), undef,
      .tuple #[.pointer (some ⟨p, 0, none⟩), .int .i64 0], .slice a n c, .tuple #[.pointer (some ⟨p, 0, none⟩), .int .i64 0], .pointer (some ⟨p, 0, none⟩), .int .i64 0, .int .i64 0,
      .bool false, undef, .pointer (some ⟨p, 0, none⟩), .int .i64 (T : Int), x1, .pointer (some ⟨p, 0, none⟩), .int .i64 (T : Int), x2, .pointer (some ⟨p, 0, none⟩), fv, .int .i64 g, .agg #[.int .i64 r.stamp, .int .i64 r.kind, .int .u64 r.obj, .int .u64 r.arg, .int .i64 r.stack],
      v30, v31, v32, v33, v34, v35, v36, v37, v38, v39, v40, undef, undef, undef, undef, undef, undef, undef], defers := [] }
def Inv8 (F : Value → Value → Value → Value → Value → Value → Value → Value → Value → Value → Value → Act) (U : World) (base b1 b2 : Nat) (y1 y2 : Value) (L1 : List Vt) (L2 : List Int) (g : Int) (rb : Nat) (r : Rc) (B : Nat → Bool) (ac : Act) (X : World) : Prop :=
  ∃ v30 v31 v32 v33 v34 v35 v36 v37 v38 v39 v40, ac = F v30 v31 v32 v33 v34 v35 v36 v37 v38 v39 v40 ∧ (B 0 = true → v30 = y1) ∧ (B 1 = true → v31 = .int .i64 g) ∧ (B 2 = true → v32 = .agg #[.int .i64 r.stamp, .int .i64 r.kind, .int .u64 r.obj, .int .u64 r.arg, .int .i64 r.stack]) ∧ (B 3 = true → v33 = .agg #[.int .i64 g, .int .i64 r.kind, .int .u64 r.obj, .int .u64 r.arg, .slice none 0 0]) ∧ (B 6 = true → v36 = y2) ∧ (B 7 = true → v37 = .pointer (some ⟨rb, 4, none⟩)) ∧ (B 8 = true → v38 = .int .i64 r.stack) ∧
    R8 U X base b1 b2 y1 y2 L1 L2 ⟨g, r.kind, r.obj, r.arg, ⟨none, 0, 0⟩⟩ r.stack (B 0) (B 4) (B 5) (B 6) (B 9) (B 10) (B 11) (B 12) v34 v35 v39 v40
/-- Behind a round. -/
theorem Mid.grow {w U X : World} {p ph : Nat} {rv : Value} {gs : List Int} {b1 b2 B1 B2 : Nat} {s : MSt} {O : List (Nat × Rc)} {x1 x2 y1 y2 : Value} {o : Nat × Rc} (h : Mid w U p rv ph gs b1 b2 B1 B2 s O x1 x2) (hB : But (S8 b1 b2 x1 x2) U X)
    (h1 : X.heap[b1]? = some (.cells #[y1] 22 (0, 0))) (h2 : X.heap[b2]? = some (.cells #[y2] 23 (0, 0))) (h3 : Own layV 30 X w.heap.size y1 (O.map (evV gs) ++ [evV gs o])) (h4 : Own layN 3 X w.heap.size y2 ((O.map fun o => o.2.stack) ++ [o.2.stack])) : Mid w X p rv ph gs b1 b2 B1 B2 s (O ++ [o]) y1 y2 := by
  have ty : ∀ q, S8 b1 b2 x1 x2 q → w.heap.size ≤ q ∧ ∃ cur T, U.heap[q]? = some (.cells cur T (0, 0)) ∧ (T = 22 ∨ T = 23 ∨ T = 30 ∨ T = 3) := by
    rintro q (rfl | rfl | e | e)
    · exact ⟨h.g1, _, _, h.t1, .inl rfl⟩
    · exact ⟨h.g2, _, _, h.t2, .inr (.inl rfl)⟩
    · obtain ⟨cur, hc⟩ := own_ty h.l1 e
      exact ⟨(h.l1.lt q e).1, cur, _, hc, .inr (.inr (.inl rfl))⟩
    · obtain ⟨cur, hc⟩ := own_ty h.l2 e
      exact ⟨(h.l2.lt q e).1, cur, _, hc, .inr (.inr (.inr rfl))⟩
  have no : ∀ q cur T, U.heap[q]? = some (.cells cur T (0, 0)) → T ≠ 22 → T ≠ 23 → T ≠ 30 → T ≠ 3 → ¬ S8 b1 b2 x1 x2 q := by
    intro q cur T hq n1 n2 n3 n4 hs
    obtain ⟨_, cur', T', e1, e2⟩ := ty q hs
    rw [hq] at e1
    injection e1 with e1
    injection e1 with _ e1
    subst e1
    rcases e2 with e | e | e | e
    · exact n1 e
    · exact n2 e
    · exact n3 e
    · exact n4 e
  refine ⟨h.mgr.but hB (fun q hm => ?_) (fun b cur _ hb => no b cur _ hb (by decide) (by decide) (by decide) (by decide)), h1, h2, by rw [List.map_append]; exact h3, by rw [List.map_append]; exact h4,
    (hB.block B1 (get_lt' h.c1) (no B1 _ _ h.c1 (by decide) (by decide) (by decide) (by decide))).trans h.c1, (hB.block B2 (get_lt' h.c2) (no B2 _ _ h.c2 (by decide) (by decide) (by decide) (by decide))).trans h.c2, h.below.trans (hB.below h.below.size (fun k hk => (ty k hk).1)), h.g1, h.g2⟩
  obtain ⟨cur, T, e1, e2⟩ := h.mgr.ty hm
  rcases e2 with e | e | e | e <;> subst e <;> exact no q cur _ e1 (by decide) (by decide) (by decide) (by decide)
set_option maxRecDepth 100000 in
set_option maxHeartbeats 4000000 in
theorem merge_ok (w : World) (a : Option Addr) (n c : Nat) (rws : List Rw) (Gs : List (Int × List Rc)) (hr : Rdz w a n rws Gs) (h0 : a = none → n = 0 ∧ c = 0) (hm : ∀ G ∈ Gs, G.2.length * 40 ≤ 140737488355328) (hok : RowsOk Gs) :
    Calls Try.prog 9 #[.slice a n c] w fun r w' => Mrgd w w' Gs r := by
  have NK := new_ok w a n c rws Gs hr h0 hm hok
  have HOK : Hid _ := hide hok
  have HL0 : Hid ((Gs.map Prod.snd).length = (Gs.map Prod.fst).length) := hide (by simp)
  clear hr h0 hm hok
  refine (callsIn_wide (n := 4)).1 ?_
  refine callsIn_of_wp_marks Try.func9 rfl trivial ?_ rfl
  simp only [Try.ntmps9, List.size_toArray, List.length_cons, List.length_nil, Nat.reduceAdd, Nat.reduceSub, Array.replicate_succ, Array.replicate_zero, List.push_toArray, List.append_toArray, List.nil_append, List.cons_append]
  gi_wp2_with fail
  refine ⟨trivial, CallsIn.mono (callsIn_wide.2 NK) ?_⟩
  rintro r w1 ⟨p, rv, ph, hv, rfl, M1, b1⟩
  clear NK
  have HM1 : Hid _ := hide M1
  have HB1 : Hid _ := hide b1
  clear M1 b1
  gi_wp2_with fail
  obtain ⟨i0, hi0, hz0, hz1, hz2⟩ := info_parts Try.infoV
  obtain ⟨i1, hi1, hy0, hy1, hy2⟩ := info_parts Try.infoN
  have HT : Hid (tot (Gs.map Prod.snd) ≤ 1048576) := hide HOK.out.tot
  obtain ⟨T, hT⟩ : ∃ T, T = tot (Gs.map Prod.snd) := ⟨_, rfl⟩
  rw [← hT] at HT
  have HTe : Hid _ := hide hT
  clear hT
  refine wpIn_wide.2 (wp_region_inv (Inv4 a n c p T w1 w.heap.size) (by kernel_rfl) (by kernel_rfl) ?_ ?_ ?_)
  · exact ⟨undef, undef, undef, undef, undef, undef, undef, undef, rfl, by simp, by simp, by simp, by simp, ⟨(Below.refl _ _).drew, by simp, by simp, by simp, by simp, by simp, by simp⟩⟩
  · intro B ac W i o ho hBi hed hI K' hK
    have hi : i < 10 := (Array.getElem?_eq_some_iff.1 ho).1
    obtain ⟨v7, v8, v20, v21, v22, v23, v24, v25, rfl, h0, h1, h3, h4, R⟩ := hI
    have hsz : w.heap.size ≤ W.heap.size := Nat.le_trans HB1.out.size R.below.size
    have HR : Hid _ := hide R
    have HMW : Hid (Mgr W w.heap.size p rv ph (Gs.map Prod.fst) ⟨Gs.map Prod.snd, 0, hv, Gs.length⟩) := hide (HM1.out.below R.below)
    clear R
    obtain rfl | rfl | rfl | rfl | rfl | rfl | rfl | rfl | rfl | rfl : i = 0 ∨ i = 1 ∨ i = 2 ∨ i = 3 ∨ i = 4 ∨ i = 5 ∨ i = 6 ∨ i = 7 ∨ i = 8 ∨ i = 9 := by omega
    · obtain rfl : _ = o := Option.some.inj ho
      clear ho hed
      have HBi : Hid _ := hide hBi
      have HK : Hid _ := hide hK
      have H0 : Hid _ := hide h0
      have H1 : Hid _ := hide h1
      have H3 : Hid _ := hide h3
      have H4 : Hid _ := hide h4
      clear hBi hK h0 h1 h3 h4
      unfold fr4
      go_simp
      exact HK.out.out _ _ ⟨v7, v8, _, v21, v22, v23, v24, v25, rfl, fun _ => rfl, fun h => H1.out (upd_of h (by decide)), fun h => H3.out (upd_of h (by decide)), fun h => H4.out (upd_of h (by decide)), HR.out⟩
    · obtain rfl : _ = o := Option.some.inj ho
      have e9 : v20 = .pointer (some ⟨p, 0, none⟩) := h0 (hed ⟨0, .data⟩ (by simp) rfl)
      subst e9
      clear ho hed
      have HBi : Hid _ := hide hBi
      have HK : Hid _ := hide hK
      have H0 : Hid _ := hide h0
      have H1 : Hid _ := hide h1
      have H3 : Hid _ := hide h3
      have H4 : Hid _ := hide h4
      clear hBi hK h0 h1 h3 h4
      unfold fr4
      go_simp
      refine (left_any HMW.out).mono ?_
      rintro e W' ⟨rfl, rfl⟩
      exact HK.out.out _ _ ⟨v7, v8, _, _, v22, v23, v24, v25, rfl, fun h => H0.out (upd_of h (by decide)), fun _ => by rw [HTe.out], fun h => H3.out (upd_of h (by decide)), fun h => H4.out (upd_of h (by decide)), HR.out⟩
    · obtain rfl : _ = o := Option.some.inj ho
      have e9 : v21 = .int .i64 (T : Int) := h1 (hed ⟨1, .data⟩ (by simp) rfl)
      subst e9
      obtain ⟨w2, hmk, o2, g2⟩ := run_make_own (P := Try.prog) W w.heap.size 22 30 i0 _ 5 Try.underlying22 hi0 hz0 hz1 .i64 .i64 T (by rw [hz2]; have := HT.out; omega) (by unfold maxLen; have := HT.out; omega) hsz
      have HO2 : Hid (Own layV 30 w2 w.heap.size (.slice (some ⟨W.heap.size, 0, none⟩) 0 T) []) := hide o2
      have HB2 : Hid (Below W.heap.size W w2) := hide ((Below.refl _ _).grown g2 (Nat.le_refl _) (fun k hk => by cases hk))
      clear ho hed o2 g2
      have HBi : Hid _ := hide hBi
      have HK : Hid _ := hide hK
      have H0 : Hid _ := hide h0
      have H1 : Hid _ := hide h1
      have H3 : Hid _ := hide h3
      have H4 : Hid _ := hide h4
      clear hBi hK h0 h1 h3 h4
      unfold fr4
      go_simp
      have R2 := HR.out.on HB2.out
      exact HK.out.out _ _ ⟨v7, v8, v20, _, _, v23, v24, v25, rfl, fun h => H0.out (upd_of h (by decide)), fun h => H1.out (upd_of h (by decide)), fun h => H3.out (upd_of h (by decide)), fun h => H4.out (upd_of h (by decide)), ⟨R2.below, fun _ => HO2.out, R2.m2, fun e => by obtain ⟨b, x, q1, q2, q3, q4⟩ := R2.a1 e; exact ⟨b, x, q1, q2, q3, fun e8 => absurd (HR.out.o8 e8).1 (by rw [HBi.out]; decide)⟩, R2.a2, fun e => absurd (HR.out.o8 e).1 (by rw [HBi.out]; decide), R2.o9⟩⟩
    · obtain rfl : _ = o := Option.some.inj ho
      clear ho hed
      have HBi : Hid _ := hide hBi
      have HK : Hid _ := hide hK
      have H0 : Hid _ := hide h0
      have H1 : Hid _ := hide h1
      have H3 : Hid _ := hide h3
      have H4 : Hid _ := hide h4
      clear hBi hK h0 h1 h3 h4
      unfold fr4
      go_simp
      exact HK.out.out _ _ ⟨v7, v8, v20, v21, v22, _, v24, v25, rfl, fun h => H0.out (upd_of h (by decide)), fun h => H1.out (upd_of h (by decide)), fun _ => rfl, fun h => H4.out (upd_of h (by decide)), HR.out⟩
    · obtain rfl : _ = o := Option.some.inj ho
      have e9 : v23 = .pointer (some ⟨p, 0, none⟩) := h3 (hed ⟨3, .data⟩ (by simp) rfl)
      subst e9
      clear ho hed
      have HBi : Hid _ := hide hBi
      have HK : Hid _ := hide hK
      have H0 : Hid _ := hide h0
      have H1 : Hid _ := hide h1
      have H3 : Hid _ := hide h3
      have H4 : Hid _ := hide h4
      clear hBi hK h0 h1 h3 h4
      unfold fr4
      go_simp
      refine (left_any HMW.out).mono ?_
      rintro e W' ⟨rfl, rfl⟩
      exact HK.out.out _ _ ⟨v7, v8, v20, v21, v22, _, _, v25, rfl, fun h => H0.out (upd_of h (by decide)), fun h => H1.out (upd_of h (by decide)), fun h => H3.out (upd_of h (by decide)), fun _ => by rw [HTe.out], HR.out⟩
    · obtain rfl : _ = o := Option.some.inj ho
      have e9 : v24 = .int .i64 (T : Int) := h4 (hed ⟨4, .data⟩ (by simp) rfl)
      subst e9
      obtain ⟨w2, hmk, o2, g2⟩ := run_make_own (P := Try.prog) W w.heap.size 23 3 i1 _ 1 Try.underlying23 hi1 hy0 hy1 .i64 .i64 T (by rw [hy2]; have := HT.out; omega) (by unfold maxLen; have := HT.out; omega) hsz
      have HO2 : Hid (Own layN 3 w2 w.heap.size (.slice (some ⟨W.heap.size, 0, none⟩) 0 T) []) := hide o2
      have HB2 : Hid (Below W.heap.size W w2) := hide ((Below.refl _ _).grown g2 (Nat.le_refl _) (fun k hk => by cases hk))
      clear ho hed o2 g2
      have HBi : Hid _ := hide hBi
      have HK : Hid _ := hide hK
      have H0 : Hid _ := hide h0
      have H1 : Hid _ := hide h1
      have H3 : Hid _ := hide h3
      have H4 : Hid _ := hide h4
      clear hBi hK h0 h1 h3 h4
      unfold fr4
      go_simp
      have R2 := HR.out.on HB2.out
      exact HK.out.out _ _ ⟨v7, v8, v20, v21, v22, v23, _, _, rfl, fun h => H0.out (upd_of h (by decide)), fun h => H1.out (upd_of h (by decide)), fun h => H3.out (upd_of h (by decide)), fun h => H4.out (upd_of h (by decide)), ⟨R2.below, R2.m1, fun _ => HO2.out, R2.a1, fun e => by obtain ⟨b, x, q1, q2, q3, q4⟩ := R2.a2 e; exact ⟨b, x, q1, q2, q3, fun e8 => absurd (HR.out.o9 e8).1 (by rw [HBi.out]; decide)⟩, R2.o8, fun e => absurd (HR.out.o9 e).1 (by rw [HBi.out]; decide)⟩⟩
    · obtain rfl : _ = o := Option.some.inj ho
      clear ho hed
      have HBi : Hid _ := hide hBi
      have HK : Hid _ := hide hK
      have H0 : Hid _ := hide h0
      have H1 : Hid _ := hide h1
      have H3 : Hid _ := hide h3
      have H4 : Hid _ := hide h4
      clear hBi hK h0 h1 h3 h4
      unfold fr4
      go_simp
      have R2 := HR.out.on (below_alloc1 W (.cells #[.slice none 0 0] 22))
      exact HK.out.out _ _ ⟨_, v8, v20, v21, v22, v23, v24, v25, rfl, fun h => H0.out (upd_of h (by decide)), fun h => H1.out (upd_of h (by decide)), fun h => H3.out (upd_of h (by decide)), fun h => H4.out (upd_of h (by decide)), ⟨R2.below, R2.m1, R2.m2, fun _ => ⟨W.heap.size, .slice none 0 0, rfl, HR.out.below.size, heap_new _ _, fun e => absurd (HR.out.o8 e).2 (by rw [HBi.out]; decide)⟩, R2.a2, fun e => absurd (HR.out.o8 e).2 (by rw [HBi.out]; decide), R2.o9⟩⟩
    · obtain rfl : _ = o := Option.some.inj ho
      clear ho hed
      have HBi : Hid _ := hide hBi
      have HK : Hid _ := hide hK
      have H0 : Hid _ := hide h0
      have H1 : Hid _ := hide h1
      have H3 : Hid _ := hide h3
      have H4 : Hid _ := hide h4
      clear hBi hK h0 h1 h3 h4
      unfold fr4
      go_simp
      have R2 := HR.out.on (below_alloc1 W (.cells #[.slice none 0 0] 23))
      exact HK.out.out _ _ ⟨v7, _, v20, v21, v22, v23, v24, v25, rfl, fun h => H0.out (upd_of h (by decide)), fun h => H1.out (upd_of h (by decide)), fun h => H3.out (upd_of h (by decide)), fun h => H4.out (upd_of h (by decide)), ⟨R2.below, R2.m1, R2.m2, R2.a1, fun _ => ⟨W.heap.size, .slice none 0 0, rfl, HR.out.below.size, heap_new _ _, fun e => absurd (HR.out.o9 e).2 (by rw [HBi.out]; decide)⟩, R2.o8, fun e => absurd (HR.out.o9 e).2 (by rw [HBi.out]; decide)⟩⟩
    · obtain rfl : _ = o := Option.some.inj ho
      have e6 := hed ⟨6, .data⟩ (by simp) rfl
      have e2 := hed ⟨2, .data⟩ (by simp) rfl
      obtain ⟨b, x, rfl, hb0, hbh, -⟩ := HR.out.a1 e6
      have c1 : W.cell? ⟨b, 0, none⟩ = some x := cell_at hbh rfl
      have f1 := frz hbh 0
      obtain ⟨va, vc, hv9, -, -⟩ := own_form (HR.out.m1 e2)
      rw [List.length_nil] at hv9
      subst hv9
      have HE6 : Hid _ := hide e6
      have HE2 : Hid _ := hide e2
      have HBB : Hid _ := hide hb0
      have HBH : Hid _ := hide hbh
      clear ho hed e6 e2 hb0 hbh
      have HBi : Hid _ := hide hBi
      have HK : Hid _ := hide hK
      have H0 : Hid _ := hide h0
      have H1 : Hid _ := hide h1
      have H3 : Hid _ := hide h3
      have H4 : Hid _ := hide h4
      clear hBi hK h0 h1 h3 h4
      unfold fr4
      go_simp
      have sb := but_setC W ⟨b, 0, none⟩ (.slice va 0 vc)
      exact HK.out.out _ _ ⟨_, v8, v20, v21, _, v23, v24, v25, rfl, fun h => H0.out (upd_of h (by decide)), fun h => H1.out (upd_of h (by decide)), fun h => H3.out (upd_of h (by decide)), fun h => H4.out (upd_of h (by decide)), ⟨HR.out.below.setCell HBB.out _, fun e => (HR.out.m1 e).but sb (fun g hg e9 => own_ne_cells (HR.out.m1 e) HBH.out (by decide) (by rw [hg, e9])), fun e => (HR.out.m2 e).but sb (fun g hg e9 => own_ne_cells (HR.out.m2 e) HBH.out (by decide) (by rw [hg, e9])), fun _ => ⟨b, _, rfl, HBB.out, set1_heap (i := 0) _ HBH.out, fun _ => rfl⟩, fun e => by obtain ⟨b', x', q1, q2, q3, q4⟩ := HR.out.a2 e; exact ⟨b', x', q1, q2, (sb.block b' (get_lt' q3) (fun e9 => by have e8 : b' = b := e9; rw [e8, HBH.out] at q3; cases q3)).trans q3, q4⟩, fun _ => ⟨HE2.out, HE6.out⟩, HR.out.o9⟩⟩
    · obtain rfl : _ = o := Option.some.inj ho
      have e6 := hed ⟨7, .data⟩ (by simp) rfl
      have e2 := hed ⟨5, .data⟩ (by simp) rfl
      obtain ⟨b, x, rfl, hb0, hbh, -⟩ := HR.out.a2 e6
      have c1 : W.cell? ⟨b, 0, none⟩ = some x := cell_at hbh rfl
      have f1 := frz hbh 0
      obtain ⟨va, vc, hv9, -, -⟩ := own_form (HR.out.m2 e2)
      rw [List.length_nil] at hv9
      subst hv9
      have HE6 : Hid _ := hide e6
      have HE2 : Hid _ := hide e2
      have HBB : Hid _ := hide hb0
      have HBH : Hid _ := hide hbh
      clear ho hed e6 e2 hb0 hbh
      have HBi : Hid _ := hide hBi
      have HK : Hid _ := hide hK
      have H0 : Hid _ := hide h0
      have H1 : Hid _ := hide h1
      have H3 : Hid _ := hide h3
      have H4 : Hid _ := hide h4
      clear hBi hK h0 h1 h3 h4
      unfold fr4
      go_simp
      have sb := but_setC W ⟨b, 0, none⟩ (.slice va 0 vc)
      exact HK.out.out _ _ ⟨v7, _, v20, v21, v22, v23, v24, _, rfl, fun h => H0.out (upd_of h (by decide)), fun h => H1.out (upd_of h (by decide)), fun h => H3.out (upd_of h (by decide)), fun h => H4.out (upd_of h (by decide)), ⟨HR.out.below.setCell HBB.out _, fun e => (HR.out.m1 e).but sb (fun g hg e9 => own_ne_cells (HR.out.m1 e) HBH.out (by decide) (by rw [hg, e9])), fun e => (HR.out.m2 e).but sb (fun g hg e9 => own_ne_cells (HR.out.m2 e) HBH.out (by decide) (by rw [hg, e9])), fun e => by obtain ⟨b', x', q1, q2, q3, q4⟩ := HR.out.a1 e; exact ⟨b', x', q1, q2, (sb.block b' (get_lt' q3) (fun e9 => by have e8 : b' = b := e9; rw [e8, HBH.out] at q3; cases q3)).trans q3, q4⟩, fun _ => ⟨b, _, rfl, HBB.out, set1_heap (i := 0) _ HBH.out, fun _ => rfl⟩, HR.out.o8, fun _ => ⟨HE2.out, HE6.out⟩⟩⟩
  · intro B ac W hall hI
    obtain ⟨v7, v8, v20, v21, v22, v23, v24, v25, rfl, h0, h1, h3, h4, R⟩ := hI
    have e0 := h0 (hall 0 (by decide))
    have e1 := h1 (hall 1 (by decide))
    have e3 := h3 (hall 3 (by decide))
    have e4 := h4 (hall 4 (by decide))
    obtain ⟨b1, x1, e7, hb1, t1, ex1⟩ := R.a1 (hall 6 (by decide))
    obtain ⟨b2, x2, e8, hb2, t2, ex2⟩ := R.a2 (hall 7 (by decide))
    have e9 := ex1 (hall 8 (by decide))
    have e10 := ex2 (hall 9 (by decide))
    have O1 := R.m1 (hall 2 (by decide))
    have O2 := R.m2 (hall 5 (by decide))
    subst e0 e1 e3 e4 e7 e8 e9 e10
    have HBW : Hid _ := hide R.below
    have HMW : Hid _ := hide (HM1.out.below R.below)
    have HT1 : Hid _ := hide t1
    have HT2 : Hid _ := hide t2
    have HO1 : Hid _ := hide O1
    have HO2 : Hid _ := hide O2
    have HG1 : Hid _ := hide hb1
    have HG2 : Hid _ := hide hb2
    have IT := inturn_any HMW.out
    clear h0 h1 h3 h4 R ex1 ex2 hall t1 t2 O1 O2 hb1 hb2
    unfold fr4
    gi_wp2_with fail
    refine ⟨trivial, CallsIn.mono (callsIn_wide.2 IT) ?_⟩
    rintro r w4 ⟨rfl, hw4⟩
    clear IT
    have HB4 : Hid (Below W.heap.size W w4) := hide (by rw [hw4]; exact below_alloc2 _ _ _)
    have HS4 : Hid (w4.heap.size = W.heap.size + 2) := hide (by rw [hw4]; simp)
    have HX1 : Hid (w4.heap[W.heap.size]? = some (.cells #[.pointer (some ⟨p, 0, none⟩)] 56 (0, 0))) := hide (by rw [hw4]; exact heap_old (heap_new _ _))
    have HX2 : Hid (w4.heap[W.heap.size + 1]? = some (.cells #[.pointer (some ⟨ph, 0, none⟩)] 69 (0, 0))) := hide (by rw [hw4]; exact heap_new2 _ _ _)
    have HWw : Hid (w.heap.size ≤ W.heap.size) := hide (Nat.le_trans HB1.out.size HBW.out.size)
    have HBw : Hid (Below w.heap.size w w4) := hide ((HB1.out.trans (HBW.out.mono HB1.out.size)).trans (HB4.out.mono HWw.out))
    have HMid : Hid (Mid w w4 p rv ph (Gs.map Prod.fst) b1 b2 W.heap.size (W.heap.size + 1) ⟨Gs.map Prod.snd, 0, hv, Gs.length⟩ [] x1 x2) := hide
      ⟨HMW.out.below HB4.out, (HB4.out.block _ (get_lt' HT1.out)).trans HT1.out, (HB4.out.block _ (get_lt' HT2.out)).trans HT2.out, HO1.out.below HB4.out, HO2.out.below HB4.out, HX1.out, HX2.out, HBw.out, Nat.le_trans HB1.out.size HG1.out, Nat.le_trans HB1.out.size HG2.out⟩
    clear hw4
    gi_wp2_with fail
    refine range_turn (n := 4) (by omega) (gf := 31) (lb := #[.pointer (some ⟨W.heap.size, 0, none⟩), .pointer (some ⟨W.heap.size + 1, 0, none⟩)]) rfl (enters_of Try.func31 (by kernel_rfl) rfl) (σ := MSt) (ε := Int × Rc)
      (fun x => #[.int .i64 x.1, .agg #[.int .i64 x.2.stamp, .int .i64 x.2.kind, .int .u64 x.2.obj, .int .u64 x.2.arg, .int .i64 x.2.stack]]) (fun _ => rfl) (fun s' X => (∃ O y1 y2, Run (Gs.map Prod.snd) O s'.Ls s'.at_ ∧ Mid w X p rv ph (Gs.map Prod.fst) b1 b2 W.heap.size (W.heap.size + 1) s' O y1 y2) ∧ w4.heap.size ≤ X.heap.size) (fun _ => False) (fun s' => ∃ f, Flt s'.Ls s'.at_ f ∧ f ≠ 0) ⟨Gs.map Prod.snd, 0, hv, Gs.length⟩ (fun s' x X X2 s2 => Take w.heap.size p rv ph (Gs.map Prod.fst) s' x X X2 s2) ?hI ?hIx ?hIb ?hTk ?h0 ?hseq
      (fun x X a1 X3 => X3 = X.alloc (.cells #[.int .i64 x.2.stamp, .int .i64 x.2.kind, .int .u64 x.2.obj, .int .u64 x.2.arg, .int .i64 x.2.stack] 42) ∧ a1 = fr8 a n c p b1 b2 T x1 x2 (.func (.func 31) #[] #[.pointer (some ⟨W.heap.size, 0, none⟩), .pointer (some ⟨W.heap.size + 1, 0, none⟩)]) x.1 X.heap.size x.2 undef undef undef undef undef undef undef undef undef undef undef) ?hA ?hassign ?hbody ?hdone ?hstop
    case hI =>
      rintro s' X o o' ⟨⟨O, y1, y2, h1, h2⟩, h3⟩ hl
      exact ⟨⟨O, y1, y2, h1, h2.put hl (fun _ _ e => by cases e) (by have := HS4.out; have := HWw.out; omega) o'⟩, by simpa using h3⟩
    case hIx => rintro X o o' h9; exact h9.elim
    case hIb =>
      rintro s' X X' ⟨⟨O, y1, y2, h1, h2⟩, h3⟩ hb
      exact ⟨⟨O, y1, y2, h1, h2.on hb⟩, Nat.le_trans h3 hb.size⟩
    case hTk =>
      rintro s' x X X2 s2 ⟨⟨O, y1, y2, h1, h2⟩, h3⟩ tk
      exact ⟨fun o ho => (tk.but.block _ (get_lt' ho) (h2.mgr.not_loop ho)).trans ho, fun ho => (tk.but.block _ (get_lt' ho) (h2.mgr.not_def ho)).trans ho⟩
    case h0 => exact ⟨⟨[], x1, x2, Run.nil, HMid.out⟩, Nat.le_refl _⟩
    case hseq =>
      intro l J Jx X hJI hJb hY hJ0
      refine turn_in 3 l W.heap.size (W.heap.size + 1) w.heap.size p ph rv (Gs.map Prod.fst) J Jx (fun s' X1 hj => ?_) hJb (fun s' x X1 X2 s2 hj tk => hY s' x X1 X2 s2 hj tk) X _ hJ0 (by omega)
      obtain ⟨⟨O, y1, y2, h1, h2⟩, h3⟩ := hJI s' X1 hj
      refine ⟨h2.mgr, cell_at h2.c1 rfl, cell_at h2.c2 rfl, fun s9 M9 => ⟨M9.not_ty h2.c1 (fun cur T e => by cases e; decide), M9.not_ty h2.c2 (fun cur T e => by cases e; decide)⟩, ?_⟩
      exact h2.below.size
    case hA =>
      rintro x X a1 X3 ⟨rfl, _⟩
      exact below_alloc1 _ _
    case hassign =>
      intro l s' x s2 X X2 K hI tk hK
      unfold fr8 at hK
      gi_wp2
    case hbody =>
      intro l s' x s2 X X2 a1 X3 o o' hI tk hA hlt hl hd
      obtain ⟨⟨O, y1, y2, hrun, hmid⟩, hsz⟩ := hI
      obtain ⟨rfl, rfl⟩ := hA
      have hne : ¬ X2.heap.size = w4.heap.size + 1 := fun e => by
        rw [← e, World.alloc_heap_new] at hl
        cases hl
      have m2 := (hmid.take tk).on (below_alloc1 X2 (.cells #[.int .i64 x.2.stamp, .int .i64 x.2.kind, .int .u64 x.2.obj, .int .u64 x.2.arg, .int .i64 x.2.stack] 42))
      have mU := m2.put hl (fun _ _ e => by cases e) (by have := HS4.out; have := HWw.out; omega) (.loop o')
      obtain ⟨U, hU⟩ : ∃ U, U = (X2.alloc (.cells #[.int .i64 x.2.stamp, .int .i64 x.2.kind, .int .u64 x.2.obj, .int .u64 x.2.arg, .int .i64 x.2.stack] 42)).putObj (w4.heap.size + 1) (.loop o') := ⟨_, rfl⟩
      rw [← hU] at mU ⊢
      have rU : U.heap[X2.heap.size]? = some (.cells #[.int .i64 x.2.stamp, .int .i64 x.2.kind, .int .u64 x.2.obj, .int .u64 x.2.arg, .int .i64 x.2.stack] 42 (0, 0)) := by
        rw [hU]; exact (World.putObj_heap_other hne).trans (heap_new _ _)
      have HL : Hid (U.heap[w4.heap.size + 1]? = some (.loop o')) := hide (by rw [hU]; exact World.putObj_heap_same (get_lt' hl))
      have HD : Hid (U.heap[w4.heap.size]? = some (.deferred (some []))) := hide (by rw [hU]; exact (World.putObj_heap_other (by omega)).trans hd)
      have HUs : Hid (w4.heap.size ≤ U.heap.size) := hide (by have := get_lt' HD.out; omega)
      have HUw : Hid (w.heap.size ≤ U.heap.size) := hide mU.below.size
      have HOl : Hid (O.length ≤ 1048576) := hide (by have h8 := hrun.tot; have h9 := HT.out; rw [HTe.out] at h9; omega)
      have HY1 : Hid (∀ q, y1.ownBlock = some q → q < U.heap.size) := hide (fun q hq => (mU.l1.lt q hq).2)
      have HY2 : Hid (∀ q, y2.ownBlock = some q → q < U.heap.size) := hide (fun q hq => (mU.l2.lt q hq).2)
      have noS : ∀ q ob, U.heap[q]? = some ob → (∀ cur T, ob = .cells cur T (0, 0) → T ≠ 22 ∧ T ≠ 23 ∧ T ≠ 30 ∧ T ≠ 3) → ¬ S8 b1 b2 y1 y2 q := by
        rintro q ob hq hn (rfl | rfl | e | e)
        · rw [mU.t1] at hq; exact (hn _ _ (Option.some.inj hq).symm).1 rfl
        · rw [mU.t2] at hq; exact (hn _ _ (Option.some.inj hq).symm).2.1 rfl
        · obtain ⟨cur, hc⟩ := own_ty mU.l1 e
          rw [hc] at hq; exact (hn _ _ (Option.some.inj hq).symm).2.2.1 rfl
        · obtain ⟨cur, hc⟩ := own_ty mU.l2 e
          rw [hc] at hq; exact (hn _ _ (Option.some.inj hq).symm).2.2.2 rfl
      have HC : Hid (∀ Z, But (S8 b1 b2 y1 y2) U Z → Z.cell? ⟨X2.heap.size, 0, none⟩ = some (.int .i64 x.2.stamp) ∧ Z.cell? ⟨X2.heap.size, 1, none⟩ = some (.int .i64 x.2.kind) ∧ Z.cell? ⟨X2.heap.size, 2, none⟩ = some (.int .u64 x.2.obj) ∧ Z.cell? ⟨X2.heap.size, 3, none⟩ = some (.int .u64 x.2.arg) ∧ Z.cell? ⟨X2.heap.size, 4, none⟩ = some (.int .i64 x.2.stack)) := hide (fun Z hZ => by
        have r9 := (hZ.block _ (get_lt' rU) (noS _ _ rU (fun cur T e => by cases e; decide))).trans rU
        exact ⟨cell_at r9 rfl, cell_at r9 rfl, cell_at r9 rfl, cell_at r9 rfl, cell_at r9 rfl⟩)
      have HN : Hid _ := hide noS
      have HRun : Hid _ := hide hrun
      have HMU : Hid _ := hide mU
      have HPk : Hid _ := hide tk.pick
      clear hU rU noS hne hlt hl hd tk m2 mU hmid hrun hsz
      gi_wp2_with fail
      refine wpIn_region_inv (Inv8 (fr8 a n c p b1 b2 T x1 x2 (.func (.func 31) #[] #[.pointer (some ⟨W.heap.size, 0, none⟩), .pointer (some ⟨W.heap.size + 1, 0, none⟩)]) x.1 X2.heap.size x.2) U w.heap.size b1 b2 y1 y2 (O.map (evV (Gs.map Prod.fst))) (O.map fun o => o.2.stack) x.1 X2.heap.size x.2) ?hL (by kernel_rfl) (by kernel_rfl) (by kernel_rfl) ?hi0 ?hst ?hdn
      case hL => (rintro ⟨_, _, h9⟩; rcases (h9 : (_ ∨ _) ∧ _) with ⟨⟨e, _⟩ | ⟨e, _⟩, _⟩ <;> cases e)
      case hi0 =>
        refine ⟨undef, undef, undef, undef, undef, undef, undef, undef, undef, undef, undef, rfl, by simp, by simp, by simp, by simp, by simp, by simp, by simp, ⟨(But.refl _ _).drew, HMU.out.t1, HMU.out.t2, HMU.out.l1.below (Below.refl _ _).drew, HMU.out.l2.below (Below.refl _ _).drew, by simp, by simp, by simp, by simp, by simp, by simp⟩⟩
      case hst =>
        intro B ac Z i o9 ho hBi hed hI K' hK
        have hi : i < 13 := (Array.getElem?_eq_some_iff.1 ho).1
        obtain ⟨v30, v31, v32, v33, v34, v35, v36, v37, v38, v39, v40, rfl, h0, h1, h2, h3, h6, h7, h8, R⟩ := hI
        have HR : Hid _ := hide R
        clear R
        obtain rfl | rfl | rfl | rfl | rfl | rfl | rfl | rfl | rfl | rfl | rfl | rfl | rfl : i = 0 ∨ i = 1 ∨ i = 2 ∨ i = 3 ∨ i = 4 ∨ i = 5 ∨ i = 6 ∨ i = 7 ∨ i = 8 ∨ i = 9 ∨ i = 10 ∨ i = 11 ∨ i = 12 := by omega
        · obtain rfl : _ = o9 := Option.some.inj ho
          have hb11 : B 11 = false := by
            cases e : B 11 with
            | false => rfl
            | true => exact absurd (HR.out.o11 e).2.1 (by rw [hBi]; decide)
          have t1 := HR.out.t1
          rw [if_neg (by rw [hb11]; decide)] at t1
          have c1 : Z.cell? ⟨b1, 0, none⟩ = some y1 := cell_at t1 rfl
          have HE : Hid _ := hide hb11
          clear t1 hb11
          have HBi : Hid _ := hide hBi
          have HK : Hid _ := hide hK
          have H0 : Hid _ := hide h0
          have H1 : Hid _ := hide h1
          have H2 : Hid _ := hide h2
          have H3 : Hid _ := hide h3
          have H6 : Hid _ := hide h6
          have H7 : Hid _ := hide h7
          have H8 : Hid _ := hide h8
          clear hBi hK h0 h1 h2 h3 h6 h7 h8 ho hed
          unfold fr8
          go_simp
          have R := HR.out
          exact HK.out.out _ _ ⟨_, v31, v32, v33, v34, v35, v36, v37, v38, v39, v40, rfl, fun _ => rfl, fun h => H1.out (upd_of h (by decide)), fun h => H2.out (upd_of h (by decide)), fun h => H3.out (upd_of h (by decide)), fun h => H6.out (upd_of h (by decide)), fun h => H7.out (upd_of h (by decide)), fun h => H8.out (upd_of h (by decide)), ⟨R.but, R.t1, R.t2, R.l1, R.l2, R.q1, R.q2, R.o10, fun e => absurd (show B 11 = true from e) (by rw [HE.out]; decide), R.o12, R.o5⟩⟩
        · obtain rfl : _ = o9 := Option.some.inj ho
          have HBi : Hid _ := hide hBi
          have HK : Hid _ := hide hK
          have H0 : Hid _ := hide h0
          have H1 : Hid _ := hide h1
          have H2 : Hid _ := hide h2
          have H3 : Hid _ := hide h3
          have H6 : Hid _ := hide h6
          have H7 : Hid _ := hide h7
          have H8 : Hid _ := hide h8
          clear hBi hK h0 h1 h2 h3 h6 h7 h8 ho hed
          unfold fr8
          go_simp
          exact HK.out.out _ _ ⟨v30, _, v32, v33, v34, v35, v36, v37, v38, v39, v40, rfl, fun h => H0.out (upd_of h (by decide)), fun _ => rfl, fun h => H2.out (upd_of h (by decide)), fun h => H3.out (upd_of h (by decide)), fun h => H6.out (upd_of h (by decide)), fun h => H7.out (upd_of h (by decide)), fun h => H8.out (upd_of h (by decide)), HR.out⟩
        · obtain rfl : _ = o9 := Option.some.inj ho
          obtain ⟨d0, d1, d2, d3, d4⟩ := HC.out Z HR.out.but
          have HBi : Hid _ := hide hBi
          have HK : Hid _ := hide hK
          have H0 : Hid _ := hide h0
          have H1 : Hid _ := hide h1
          have H2 : Hid _ := hide h2
          have H3 : Hid _ := hide h3
          have H6 : Hid _ := hide h6
          have H7 : Hid _ := hide h7
          have H8 : Hid _ := hide h8
          clear hBi hK h0 h1 h2 h3 h6 h7 h8 ho hed
          unfold fr8
          go_simp
          exact HK.out.out _ _ ⟨v30, v31, _, v33, v34, v35, v36, v37, v38, v39, v40, rfl, fun h => H0.out (upd_of h (by decide)), fun h => H1.out (upd_of h (by decide)), fun _ => rfl, fun h => H3.out (upd_of h (by decide)), fun h => H6.out (upd_of h (by decide)), fun h => H7.out (upd_of h (by decide)), fun h => H8.out (upd_of h (by decide)), HR.out⟩
        · obtain rfl : _ = o9 := Option.some.inj ho
          have e1 := h1 (hed ⟨1, .data⟩ (by simp) rfl)
          have e2 := h2 (hed ⟨2, .data⟩ (by simp) rfl)
          subst e1
          subst e2
          have HBi : Hid _ := hide hBi
          have HK : Hid _ := hide hK
          have H0 : Hid _ := hide h0
          have H1 : Hid _ := hide h1
          have H2 : Hid _ := hide h2
          have H3 : Hid _ := hide h3
          have H6 : Hid _ := hide h6
          have H7 : Hid _ := hide h7
          have H8 : Hid _ := hide h8
          clear hBi hK h0 h1 h2 h3 h6 h7 h8 ho hed
          unfold fr8
          go_simp
          refine (event_any x.1 x.2 _).mono ?_
          rintro e8 Z8 ⟨rfl, b8⟩
          exact HK.out.out _ _ ⟨v30, _, _, _, v34, v35, v36, v37, v38, v39, v40, rfl, fun h => H0.out (upd_of h (by decide)), fun h => H1.out (upd_of h (by decide)), fun h => H2.out (upd_of h (by decide)), fun _ => rfl, fun h => H6.out (upd_of h (by decide)), fun h => H7.out (upd_of h (by decide)), fun h => H8.out (upd_of h (by decide)), HR.out.on b8⟩
        · obtain rfl : _ = o9 := Option.some.inj ho
          have e3 := h3 (hed ⟨3, .data⟩ (by simp) rfl)
          subst e3
          have HBi : Hid _ := hide hBi
          have HK : Hid _ := hide hK
          have H0 : Hid _ := hide h0
          have H1 : Hid _ := hide h1
          have H2 : Hid _ := hide h2
          have H3 : Hid _ := hide h3
          have H6 : Hid _ := hide h6
          have H7 : Hid _ := hide h7
          have H8 : Hid _ := hide h8
          clear hBi hK h0 h1 h2 h3 h6 h7 h8 ho hed
          unfold fr8
          go_simp
          have R := HR.out.on (below_alloc1 Z (.cells #[.int .i64 x.1, .int .i64 x.2.kind, .int .u64 x.2.obj, .int .u64 x.2.arg, .slice none 0 0] 30))
          exact HK.out.out _ _ ⟨v30, v31, v32, _, _, v35, v36, v37, v38, v39, v40, rfl, fun h => H0.out (upd_of h (by decide)), fun h => H1.out (upd_of h (by decide)), fun h => H2.out (upd_of h (by decide)), fun h => H3.out (upd_of h (by decide)), fun h => H6.out (upd_of h (by decide)), fun h => H7.out (upd_of h (by decide)), fun h => H8.out (upd_of h (by decide)), ⟨R.but, R.t1, R.t2, R.l1, R.l2, fun _ => ⟨Z.heap.size, rfl, HR.out.but.size, heap_new _ _⟩, R.q2, R.o10, R.o11, R.o12, fun _ => rfl⟩⟩
        · obtain rfl : _ = o9 := Option.some.inj ho
          have e0 := h0 (hed ⟨0, .data⟩ (by simp) rfl)
          have hb4 := hed ⟨4, .data⟩ (by simp) rfl
          subst e0
          obtain ⟨bs, rfl, hbs, hbr⟩ := HR.out.q1 hb4
          have O1 := HR.out.l1
          rw [if_neg (by rw [hBi]; decide), if_neg (by rw [hBi]; decide)] at O1
          have HO1' : Hid _ := hide O1
          have HB4' : Hid _ := hide hb4
          have HBR : Hid _ := hide hbr
          have HBS : Hid _ := hide hbs
          have hg9 : ¬ B 10 = true := fun e => absurd (HR.out.o10 e).1 (by rw [hBi]; decide)
          have hg11 : ¬ B 11 = true := fun e => absurd (HR.out.o11 e).2.2 (by rw [hBi]; decide)
          have HG10 : Hid _ := hide hg9
          have HG11 : Hid _ := hide hg11
          clear hg9 hg11 O1 hb4
          refine step_append_lies Z rfl (.tmp 30) (.tmp 34) 22 rfl w.heap.size 30 i0 _ 5 56 Try.underlying22 hi0 hz0 hz1 hz2 rfl (by decide) v30 (O.map (evV (Gs.map Prod.fst))).length _ rfl HO1'.out ⟨bs, 0, none⟩ 1 1 (layV.cs ⟨x.1, x.2.kind, x.2.obj, x.2.arg, ⟨none, 0, 0⟩⟩) rfl rfl (World.news_of_block hbr) (layV.one _) (by decide) (by rw [List.length_map]; unfold maxLen; have := HOl.out; omega) (by rw [List.length_map]; have := HOl.out; omega) (Nat.le_trans HUw.out HR.out.but.size) _ rfl ?_
          intro g cap Z' own' gr' hb' hlt'
          have R := HR.out
          have bt : But (fun q => v30.ownBlock = some q) Z Z' := But.of_grown gr' (fun k hk => hk)
          obtain hty : ∀ q, v30.ownBlock = some q → ∃ cur, Z.heap[q]? = some (.cells cur 30 (0, 0)) := fun q hq => own_ty HO1'.out hq
          have no : ∀ q cur T, Z.heap[q]? = some (.cells cur T (0, 0)) → T ≠ 30 → ¬ v30.ownBlock = some q := fun q cur T hq hT hs => by
            obtain ⟨cur', hc⟩ := hty q hs
            rw [hq] at hc
            cases hc
            exact hT rfl
          have HBi : Hid _ := hide hBi
          have HK : Hid _ := hide hK
          have H0 : Hid _ := hide h0
          have H1 : Hid _ := hide h1
          have H2 : Hid _ := hide h2
          have H3 : Hid _ := hide h3
          have H6 : Hid _ := hide h6
          have H7 : Hid _ := hide h7
          have H8 : Hid _ := hide h8
          clear hBi hK h0 h1 h2 h3 h6 h7 h8
          refine HK.out.out _ _ ⟨_, v31, v32, v33, _, _, v36, v37, v38, v39, v40, rfl, fun h => H0.out (upd_of h (by decide)), fun h => H1.out (upd_of h (by decide)), fun h => H2.out (upd_of h (by decide)), fun h => H3.out (upd_of h (by decide)), fun h => H6.out (upd_of h (by decide)), fun h => H7.out (upd_of h (by decide)), fun h => H8.out (upd_of h (by decide)), ⟨R.but.trans bt (fun i _ e => .inr (.inr (.inl e))), ?_, (bt.block _ (get_lt' R.t2) (no _ _ _ R.t2 (by decide))).trans R.t2, ?_, R.l2.but bt (fun q hq hs => ?_), fun _ => ⟨bs, rfl, HBS.out, (bt.block _ (get_lt' HBR.out) (fun e => by have := HY1.out _ e; have := HBS.out; omega)).trans HBR.out⟩, fun e => ?_, fun e => absurd e HG10.out, fun e => absurd e HG11.out, R.o12, fun _ => HB4'.out⟩⟩
          · have q := R.t1
            rw [if_neg HG11.out] at q
            rw [if_neg (show ¬ upd B 5 11 = true from HG11.out)]
            exact (bt.block _ (get_lt' q) (no _ _ _ q (by decide))).trans q
          · rw [if_pos (upd_self B 5), if_pos (upd_self B 5)]
            unfold Own
            rw [List.length_append, layV.fl_app, layV.fl_one]
            exact own'
          · obtain ⟨cur, hc⟩ := own_ty R.l2 hq
            exact no q cur _ hc (by decide) hs
          · obtain ⟨bs2, q1, q2, q3⟩ := R.q2 e
            exact ⟨bs2, q1, q2, (bt.block _ (get_lt' q3) (no _ _ _ q3 (by decide))).trans q3⟩
        · obtain rfl : _ = o9 := Option.some.inj ho
          have hb12 : B 12 = false := by
            cases e : B 12 with
            | false => rfl
            | true => exact absurd (HR.out.o12 e).2.1 (by rw [hBi]; decide)
          have t2 := HR.out.t2
          rw [if_neg (by rw [hb12]; decide)] at t2
          have c1 : Z.cell? ⟨b2, 0, none⟩ = some y2 := cell_at t2 rfl
          have HE : Hid _ := hide hb12
          clear t2 hb12
          have HBi : Hid _ := hide hBi
          have HK : Hid _ := hide hK
          have H0 : Hid _ := hide h0
          have H1 : Hid _ := hide h1
          have H2 : Hid _ := hide h2
          have H3 : Hid _ := hide h3
          have H6 : Hid _ := hide h6
          have H7 : Hid _ := hide h7
          have H8 : Hid _ := hide h8
          clear hBi hK h0 h1 h2 h3 h6 h7 h8 ho hed
          unfold fr8
          go_simp
          have R := HR.out
          exact HK.out.out _ _ ⟨v30, v31, v32, v33, v34, v35, _, v37, v38, v39, v40, rfl, fun h => H0.out (upd_of h (by decide)), fun h => H1.out (upd_of h (by decide)), fun h => H2.out (upd_of h (by decide)), fun h => H3.out (upd_of h (by decide)), fun _ => rfl, fun h => H7.out (upd_of h (by decide)), fun h => H8.out (upd_of h (by decide)), ⟨R.but, R.t1, R.t2, R.l1, R.l2, R.q1, R.q2, R.o10, R.o11, fun e => absurd (show B 12 = true from e) (by rw [HE.out]; decide), R.o5⟩⟩
        · obtain rfl : _ = o9 := Option.some.inj ho
          have HBi : Hid _ := hide hBi
          have HK : Hid _ := hide hK
          have H0 : Hid _ := hide h0
          have H1 : Hid _ := hide h1
          have H2 : Hid _ := hide h2
          have H3 : Hid _ := hide h3
          have H6 : Hid _ := hide h6
          have H7 : Hid _ := hide h7
          have H8 : Hid _ := hide h8
          clear hBi hK h0 h1 h2 h3 h6 h7 h8 ho hed
          unfold fr8
          go_simp
          exact HK.out.out _ _ ⟨v30, v31, v32, v33, v34, v35, v36, _, v38, v39, v40, rfl, fun h => H0.out (upd_of h (by decide)), fun h => H1.out (upd_of h (by decide)), fun h => H2.out (upd_of h (by decide)), fun h => H3.out (upd_of h (by decide)), fun h => H6.out (upd_of h (by decide)), fun _ => rfl, fun h => H8.out (upd_of h (by decide)), HR.out⟩
        · obtain rfl : _ = o9 := Option.some.inj ho
          have e7 := h7 (hed ⟨7, .data⟩ (by simp) rfl)
          subst e7
          obtain ⟨d0, d1, d2, d3, d4⟩ := HC.out Z HR.out.but
          have HBi : Hid _ := hide hBi
          have HK : Hid _ := hide hK
          have H0 : Hid _ := hide h0
          have H1 : Hid _ := hide h1
          have H2 : Hid _ := hide h2
          have H3 : Hid _ := hide h3
          have H6 : Hid _ := hide h6
          have H7 : Hid _ := hide h7
          have H8 : Hid _ := hide h8
          clear hBi hK h0 h1 h2 h3 h6 h7 h8 ho hed
          unfold fr8
          go_simp
          exact HK.out.out _ _ ⟨v30, v31, v32, v33, v34, v35, v36, _, _, v39, v40, rfl, fun h => H0.out (upd_of h (by decide)), fun h => H1.out (upd_of h (by decide)), fun h => H2.out (upd_of h (by decide)), fun h => H3.out (upd_of h (by decide)), fun h => H6.out (upd_of h (by decide)), fun h => H7.out (upd_of h (by decide)), fun _ => rfl, HR.out⟩
        · obtain rfl : _ = o9 := Option.some.inj ho
          have e8 := h8 (hed ⟨8, .data⟩ (by simp) rfl)
          subst e8
          have hg10 : ¬ B 10 = true := fun e => absurd (HR.out.o10 e).2 (by rw [hBi]; decide)
          have HG10 : Hid _ := hide hg10
          clear hg10
          have HBi : Hid _ := hide hBi
          have HK : Hid _ := hide hK
          have H0 : Hid _ := hide h0
          have H1 : Hid _ := hide h1
          have H2 : Hid _ := hide h2
          have H3 : Hid _ := hide h3
          have H6 : Hid _ := hide h6
          have H7 : Hid _ := hide h7
          have H8 : Hid _ := hide h8
          clear hBi hK h0 h1 h2 h3 h6 h7 h8 ho hed
          unfold fr8
          go_simp
          have R := HR.out.on (below_alloc1 Z (.cells #[.int .i64 x.2.stack] 3))
          exact HK.out.out _ _ ⟨v30, v31, v32, v33, v34, v35, v36, v37, _, _, v40, rfl, fun h => H0.out (upd_of h (by decide)), fun h => H1.out (upd_of h (by decide)), fun h => H2.out (upd_of h (by decide)), fun h => H3.out (upd_of h (by decide)), fun h => H6.out (upd_of h (by decide)), fun h => H7.out (upd_of h (by decide)), fun h => H8.out (upd_of h (by decide)), ⟨R.but, R.t1, R.t2, R.l1, R.l2, R.q1, fun _ => ⟨Z.heap.size, rfl, HR.out.but.size, heap_new _ _⟩, fun e => absurd (show B 10 = true from e) HG10.out, R.o11, R.o12, R.o5⟩⟩
        · obtain rfl : _ = o9 := Option.some.inj ho
          have e6 := h6 (hed ⟨6, .data⟩ (by simp) rfl)
          have hb9 := hed ⟨9, .data⟩ (by simp) rfl
          have hb5 := hed ⟨5, .chain⟩ (by simp) rfl
          subst e6
          obtain ⟨bs, rfl, hbs, hbr⟩ := HR.out.q2 hb9
          have O1 := HR.out.l2
          rw [if_neg (by rw [hBi]; decide), if_neg (by rw [hBi]; decide)] at O1
          have HO1' : Hid _ := hide O1
          have HB9' : Hid _ := hide hb9
          have HB5' : Hid _ := hide hb5
          have HBR : Hid _ := hide hbr
          have HBS : Hid _ := hide hbs
          have hg11 : ¬ B 11 = true := fun e => absurd (HR.out.o11 e).1 (by rw [hBi]; decide)
          have hg12 : ¬ B 12 = true := fun e => absurd (HR.out.o12 e).2.2 (by rw [hBi]; decide)
          have HG11 : Hid _ := hide hg11
          have HG12 : Hid _ := hide hg12
          clear hg11 hg12 O1 hb9 hb5
          refine step_append_lies Z rfl (.tmp 36) (.tmp 39) 23 rfl w.heap.size 3 i1 _ 1 8 Try.underlying23 hi1 hy0 hy1 hy2 rfl (by decide) v36 (O.map fun o : Nat × Rc => o.2.stack).length _ rfl HO1'.out ⟨bs, 0, none⟩ 1 1 (layN.cs x.2.stack) rfl rfl (World.news_of_block hbr) (layN.one _) (by decide) (by rw [List.length_map]; unfold maxLen; have := HOl.out; omega) (by rw [List.length_map]; have := HOl.out; omega) (Nat.le_trans HUw.out HR.out.but.size) _ rfl ?_
          intro g cap Z' own' gr' hb' hlt'
          have R := HR.out
          have bt : But (fun q => v36.ownBlock = some q) Z Z' := But.of_grown gr' (fun k hk => hk)
          obtain hty : ∀ q, v36.ownBlock = some q → ∃ cur, Z.heap[q]? = some (.cells cur 3 (0, 0)) := fun q hq => own_ty HO1'.out hq
          have no : ∀ q cur T, Z.heap[q]? = some (.cells cur T (0, 0)) → T ≠ 3 → ¬ v36.ownBlock = some q := fun q cur T hq hT hs => by
            obtain ⟨cur', hc⟩ := hty q hs
            rw [hq] at hc
            cases hc
            exact hT rfl
          have HBi : Hid _ := hide hBi
          have HK : Hid _ := hide hK
          have H0 : Hid _ := hide h0
          have H1 : Hid _ := hide h1
          have H2 : Hid _ := hide h2
          have H3 : Hid _ := hide h3
          have H6 : Hid _ := hide h6
          have H7 : Hid _ := hide h7
          have H8 : Hid _ := hide h8
          clear hBi hK h0 h1 h2 h3 h6 h7 h8
          refine HK.out.out _ _ ⟨v30, v31, v32, v33, v34, v35, _, v37, v38, _, _, rfl, fun h => H0.out (upd_of h (by decide)), fun h => H1.out (upd_of h (by decide)), fun h => H2.out (upd_of h (by decide)), fun h => H3.out (upd_of h (by decide)), fun h => H6.out (upd_of h (by decide)), fun h => H7.out (upd_of h (by decide)), fun h => H8.out (upd_of h (by decide)), ⟨R.but.trans bt (fun i _ e => .inr (.inr (.inr e))), (bt.block _ (get_lt' R.t1) (no _ _ _ R.t1 (by decide))).trans R.t1, ?_, R.l1.but bt (fun q hq hs => ?_), ?_, fun e => ?_, fun _ => ⟨bs, rfl, HBS.out, (bt.block _ (get_lt' HBR.out) (fun e => by have := HY2.out _ e; have := HBS.out; omega)).trans HBR.out⟩, fun _ => ⟨HB5'.out, HB9'.out⟩, fun e => absurd e HG11.out, fun e => absurd e HG12.out, R.o5⟩⟩
          · have q := R.t2
            rw [if_neg HG12.out] at q
            rw [if_neg (show ¬ upd B 10 12 = true from HG12.out)]
            exact (bt.block _ (get_lt' q) (no _ _ _ q (by decide))).trans q
          · obtain ⟨cur, hc⟩ := own_ty R.l1 hq
            exact no q cur _ hc (by decide) hs
          · rw [if_pos (upd_self B 10), if_pos (upd_self B 10)]
            unfold Own
            rw [List.length_append, layN.fl_app, layN.fl_one]
            exact own'
          · obtain ⟨bs2, q1, q2, q3⟩ := R.q1 e
            exact ⟨bs2, q1, q2, (bt.block _ (get_lt' q3) (no _ _ _ q3 (by decide))).trans q3⟩
        · obtain rfl : _ = o9 := Option.some.inj ho
          have b5 := hed ⟨5, .data⟩ (by simp) rfl
          have b10 := hed ⟨10, .chain⟩ (by simp) rfl
          have b0 := hed ⟨0, .phase⟩ (by simp) rfl
          have hg : ¬ B 12 = true := fun e => absurd (HR.out.o12 e).1 (by rw [hBi]; decide)
          have HE10 : Hid _ := hide b10
          have HE0 : Hid _ := hide b0
          have HE5 : Hid _ := hide b5
          have HG : Hid _ := hide hg
          have O1 := HR.out.l1
          rw [if_pos b5, if_pos b5] at O1
          obtain ⟨va, vc, hv9, -, -⟩ := own_form O1
          obtain ⟨vn, hvn⟩ : ∃ vn, vn = (O.map (evV (Gs.map Prod.fst)) ++ [(⟨x.1, x.2.kind, x.2.obj, x.2.arg, ⟨none, 0, 0⟩⟩ : Vt)]).length := ⟨_, rfl⟩
          rw [← hvn] at hv9
          subst hv9
          obtain ⟨y9, hy9⟩ : ∃ y9, Z.heap[b1]? = some (.cells #[y9] 22 (0, 0)) := ⟨_, HR.out.t1⟩
          have c1 : Z.cell? ⟨b1, 0, none⟩ = some y9 := cell_at hy9 rfl
          have f1 := frz hy9 0
          clear O1 hvn hy9 b5 b10 b0 hg
          have HBi : Hid _ := hide hBi
          have HK : Hid _ := hide hK
          have H0 : Hid _ := hide h0
          have H1 : Hid _ := hide h1
          have H2 : Hid _ := hide h2
          have H3 : Hid _ := hide h3
          have H6 : Hid _ := hide h6
          have H7 : Hid _ := hide h7
          have H8 : Hid _ := hide h8
          clear hBi hK h0 h1 h2 h3 h6 h7 h8 ho hed
          unfold fr8
          go_simp
          have R := HR.out
          have sb := but_setC Z ⟨b1, 0, none⟩ (.slice va vn vc)
          have nob : ∀ q cur T, Z.heap[q]? = some (.cells cur T (0, 0)) → T ≠ 22 → ¬ q = b1 := fun q cur T hq hT e => by
            have q9 := R.t1
            rw [e, q9] at hq
            cases hq
            exact hT rfl
          refine HK.out.out _ _ ⟨v30, v31, v32, v33, v34, _, v36, v37, v38, v39, v40, rfl, fun h => H0.out (upd_of h (by decide)), fun h => H1.out (upd_of h (by decide)), fun h => H2.out (upd_of h (by decide)), fun h => H3.out (upd_of h (by decide)), fun h => H6.out (upd_of h (by decide)), fun h => H7.out (upd_of h (by decide)), fun h => H8.out (upd_of h (by decide)), ⟨R.but.trans sb (fun i _ e => .inl e), ?_, (sb.block _ (get_lt' R.t2) (fun e9 => ?_)).trans R.t2, R.l1.but sb (fun q hq hs => ?_), R.l2.but sb (fun q hq hs => ?_), fun e => ?_, fun e => ?_, R.o10, fun _ => ⟨HE10.out, HE0.out, HE5.out⟩, fun e => absurd e HG.out, R.o5⟩⟩
          · have q := set1_heap (i := 0) (.slice va vn vc) R.t1
            rw [if_pos (upd_self B 11)]
            exact q
          · have e8 : b2 = b1 := e9
            have q1 := R.t1
            have q2 := R.t2
            rw [e8] at q2
            rw [q1] at q2
            injection q2 with q2
            injection q2 with _ q2
            exact absurd q2 (by decide)
          · obtain ⟨cur, hc⟩ := own_ty R.l1 hq
            exact nob q cur _ hc (by decide) hs
          · obtain ⟨cur, hc⟩ := own_ty R.l2 hq
            exact nob q cur _ hc (by decide) hs
          · obtain ⟨bs2, q1, q2, q3⟩ := R.q1 e
            exact ⟨bs2, q1, q2, (sb.block _ (get_lt' q3) (nob _ _ _ q3 (by decide))).trans q3⟩
          · obtain ⟨bs2, q1, q2, q3⟩ := R.q2 e
            exact ⟨bs2, q1, q2, (sb.block _ (get_lt' q3) (nob _ _ _ q3 (by decide))).trans q3⟩
        · obtain rfl : _ = o9 := Option.some.inj ho
          have b5 := hed ⟨10, .data⟩ (by simp) rfl
          have b10 := hed ⟨11, .chain⟩ (by simp) rfl
          have b0 := hed ⟨6, .phase⟩ (by simp) rfl
          have hg : True := trivial
          have HE11 : Hid _ := hide b10
          have HE6 : Hid _ := hide b0
          have HE5 : Hid _ := hide b5
          have O1 := HR.out.l2
          rw [if_pos b5, if_pos b5] at O1
          obtain ⟨va, vc, hv9, -, -⟩ := own_form O1
          obtain ⟨vn, hvn⟩ : ∃ vn, vn = ((O.map fun o => o.2.stack) ++ [x.2.stack]).length := ⟨_, rfl⟩
          rw [← hvn] at hv9
          subst hv9
          obtain ⟨y9, hy9⟩ : ∃ y9, Z.heap[b2]? = some (.cells #[y9] 23 (0, 0)) := ⟨_, HR.out.t2⟩
          have c1 : Z.cell? ⟨b2, 0, none⟩ = some y9 := cell_at hy9 rfl
          have f1 := frz hy9 0
          clear O1 hvn hy9 b5 b10 b0 hg
          have HBi : Hid _ := hide hBi
          have HK : Hid _ := hide hK
          have H0 : Hid _ := hide h0
          have H1 : Hid _ := hide h1
          have H2 : Hid _ := hide h2
          have H3 : Hid _ := hide h3
          have H6 : Hid _ := hide h6
          have H7 : Hid _ := hide h7
          have H8 : Hid _ := hide h8
          clear hBi hK h0 h1 h2 h3 h6 h7 h8 ho hed
          unfold fr8
          go_simp
          have R := HR.out
          have sb := but_setC Z ⟨b2, 0, none⟩ (.slice va vn vc)
          have nob : ∀ q cur T, Z.heap[q]? = some (.cells cur T (0, 0)) → T ≠ 23 → ¬ q = b2 := fun q cur T hq hT e => by
            have q9 := R.t2
            rw [e, q9] at hq
            cases hq
            exact hT rfl
          refine HK.out.out _ _ ⟨v30, v31, v32, v33, v34, v35, v36, v37, v38, v39, _, rfl, fun h => H0.out (upd_of h (by decide)), fun h => H1.out (upd_of h (by decide)), fun h => H2.out (upd_of h (by decide)), fun h => H3.out (upd_of h (by decide)), fun h => H6.out (upd_of h (by decide)), fun h => H7.out (upd_of h (by decide)), fun h => H8.out (upd_of h (by decide)), ⟨R.but.trans sb (fun i _ e => .inr (.inl e)), (sb.block _ (get_lt' R.t1) (fun e9 => ?_)).trans R.t1, ?_, R.l1.but sb (fun q hq hs => ?_), R.l2.but sb (fun q hq hs => ?_), fun e => ?_, fun e => ?_, R.o10, R.o11, fun _ => ⟨HE11.out, HE6.out, HE5.out⟩, R.o5⟩⟩
          · have e8 : b1 = b2 := e9
            have q1 := R.t1
            have q2 := R.t2
            rw [e8] at q1
            rw [q2] at q1
            injection q1 with q1
            injection q1 with _ q1
            exact absurd q1 (by decide)
          · have q := set1_heap (i := 0) (.slice va vn vc) R.t2
            rw [if_pos (upd_self B 12)]
            exact q
          · obtain ⟨cur, hc⟩ := own_ty R.l1 hq
            exact nob q cur _ hc (by decide) hs
          · obtain ⟨cur, hc⟩ := own_ty R.l2 hq
            exact nob q cur _ hc (by decide) hs
          · obtain ⟨bs2, q1, q2, q3⟩ := R.q1 e
            exact ⟨bs2, q1, q2, (sb.block _ (get_lt' q3) (nob _ _ _ q3 (by decide))).trans q3⟩
          · obtain ⟨bs2, q1, q2, q3⟩ := R.q2 e
            exact ⟨bs2, q1, q2, (sb.block _ (get_lt' q3) (nob _ _ _ q3 (by decide))).trans q3⟩
      case hdn =>
        intro B ac Z hall hI
        obtain ⟨v30, v31, v32, v33, v34, v35, v36, v37, v38, v39, v40, rfl, -, -, -, -, -, -, -, R⟩ := hI
        have t1 := R.t1
        have t2 := R.t2
        have l1 := R.l1
        have l2 := R.l2
        rw [if_pos (hall 11 (by decide))] at t1
        rw [if_pos (hall 12 (by decide))] at t2
        rw [if_pos (hall 5 (by decide)), if_pos (hall 5 (by decide))] at l1
        rw [if_pos (hall 10 (by decide)), if_pos (hall 10 (by decide))] at l2
        obtain ⟨k, tl, k1, k2, k3, k4, k5⟩ := HPk.out
        have eg : evV (Gs.map Prod.fst) (k, x.2) = ⟨x.1, x.2.kind, x.2.obj, x.2.arg, ⟨none, 0, 0⟩⟩ := by
          unfold evV
          rw [List.getD_eq_getElem?_getD, k1]; rfl
        refine ⟨.inl ⟨rfl, ⟨O ++ [(k, x.2)], v35, v40, ?_, HMU.out.grow R.but t1 t2 (by rw [eg]; exact l1) l2⟩, Nat.le_trans HUs.out R.but.size⟩, (R.but.block _ (get_lt' HD.out) (HN.out _ _ HD.out (fun _ _ e => by cases e))).trans HD.out, (R.but.block _ (get_lt' HL.out) (HN.out _ _ HL.out (fun _ _ e => by cases e))).trans HL.out⟩
        rw [k4, k5]
        exact Run.snoc HRun.out k2 k3
    case hdone =>
      rintro s' X ⟨f, hf, hf0⟩ ⟨⟨O, y1, y2, hrun, hmid⟩, hsz⟩ hd
      have FA := fault_any hmid.mgr
      have HRun : Hid _ := hide hrun
      have HMd : Hid _ := hide hmid
      have HF : Hid _ := hide hf
      have HF0 : Hid _ := hide hf0
      have HSz : Hid _ := hide hsz
      have HD : Hid _ := hide hd
      clear hrun hmid hf hf0 hsz hd
      gi_wp2_with fail
      refine ⟨trivial, CallsIn.mono (callsIn_wide.2 FA) ?_⟩
      rintro r X5 ⟨f5, rfl, hf5, b5⟩
      clear FA
      obtain rfl := HF.out.uniq hf5
      have HM5 : Hid _ := hide (HMd.out.on b5)
      have HD5 : Hid _ := hide ((b5.block _ (get_lt' HD.out)).trans HD.out)
      have z5 : w4.heap.size ≤ X5.heap.size := Nat.le_trans HSz.out b5.size
      have HZ5 : Hid _ := hide z5
      have HwS : Hid (w.heap.size ≤ w4.heap.size) := hide (by have := HS4.out; have := HWw.out; omega)
      clear hf5 b5 z5
      by_cases h90 : f = 90
      · subst h90
        have c1 : X5.cell? ⟨b1, 0, none⟩ = some y1 := cell_at HM5.out.t1 rfl
        have c2 : X5.cell? ⟨b2, 0, none⟩ = some y2 := cell_at HM5.out.t2 rfl
        gi_wp2_with fail
        refine wpIn_wide.2 ?_
        go_quiet (fail)
        obtain ⟨X6, hX6⟩ : ∃ X6, X6 = X5.drewN nq := ⟨_, rfl⟩
        have b6 : Below X5.heap.size X5 X6 := by rw [hX6]; exact below_drewN (Below.refl _ _) _
        rw [← hX6]
        have HM6 : Hid _ := hide (HM5.out.on b6)
        have HD6 : Hid _ := hide ((b6.block _ (get_lt' HD5.out)).trans HD5.out)
        clear hX6 b6
        gi_wp2_with fail
        refine ⟨by simp, .inl ⟨_, _, rfl, run_takeDeferred HD6.out, ?_⟩⟩
        have m7 := HM6.out.put HD6.out (fun _ _ e => by cases e) HwS.out (.deferred none)
        refine ⟨_, results_ttt Try.results9 _ _ _ _ _ rfl rfl rfl, m7.below, O, s'.Ls, s'.at_, 90, HRun.out, HF.out, HF0.out, .inr ⟨rfl, y1, y2, rfl, m7.l1, m7.l2⟩⟩
      · have hb9 : (f != 90) = true := by simp [h90]
        have hb8 : (f == 90) = false := by simp [h90]
        have H90 : Hid _ := hide h90
        clear h90
        gi_wp2_with fail
        refine ⟨by simp, .inl ⟨_, _, rfl, run_takeDeferred HD5.out, ?_⟩⟩
        refine ⟨_, results_ttt Try.results9 _ _ _ _ _ rfl rfl rfl, HM5.out.below.trans ((but_put X5 _ _).below HM5.out.below.size (fun k hk => by have e : k = w4.heap.size := hk; have := HwS.out; omega)), O, s'.Ls, s'.at_, f, HRun.out, HF.out, HF0.out, .inl ⟨H90.out, rfl⟩⟩
    case hstop =>
      intro X h9
      exact h9.elim
end Go.Proofs.Ytdlpffbeladgaab
