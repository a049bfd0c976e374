/-
  Records, events, rows: how they lie. The rows of a trace, as mathematics.
-/
import Derived.Test.YtdlpffbeladgaabHpW
namespace Go.Proofs.Ytdlpffbeladgaab
open Go.RowKit
structure Rc where
  stamp : Int
  kind : Int
  obj : Int
  arg : Int
  stack : Int
structure Sl where
  a : Option Addr
  n : Nat
  c : Nat
/-- A number's value. -/
def numV : Value → Nat
  | .int _ q => q.toNat
  | _ => 0
def Sl.v (s : Sl) : Value := .slice s.a s.n s.c
/-- An event; its stack is where it lies. -/
structure Vt where
  g : Int
  kind : Int
  obj : Int
  arg : Int
  s : Sl
structure Rw where
  g : Int
  s : Sl
instance : Inhabited Rc := ⟨⟨0, 0, 0, 0, 0⟩⟩
instance : Inhabited Sl := ⟨⟨none, 0, 0⟩⟩
instance : Inhabited Vt := ⟨⟨0, 0, 0, 0, default⟩⟩
instance : Inhabited Rw := ⟨⟨0, default⟩⟩
def layN : Lay Int := ⟨fun a => [.int .i64 a], 1, by decide, fun _ => rfl, by intro a u hu; simp at hu; rcases hu with rfl; rfl⟩
def laySl : Lay Sl := ⟨fun s => [.slice s.a s.n s.c], 1, by decide, fun _ => rfl, by intro a u hu; simp at hu; rcases hu with rfl; rfl⟩
def layR : Lay Rc := ⟨fun a => [.int .i64 a.stamp, .int .i64 a.kind, .int .u64 a.obj, .int .u64 a.arg, .int .i64 a.stack], 5, by decide, fun _ => rfl, by intro a u hu; simp at hu; rcases hu with rfl | rfl | rfl | rfl | rfl <;> rfl⟩
def layV : Lay Vt := ⟨fun a => [.int .i64 a.g, .int .i64 a.kind, .int .u64 a.obj, .int .u64 a.arg, .slice a.s.a a.s.n a.s.c], 5, by decide, fun _ => rfl, by intro a u hu; simp at hu; rcases hu with rfl | rfl | rfl | rfl | rfl <;> rfl⟩
def layW : Lay Rw := ⟨fun a => [.int .i64 a.g, .slice a.s.a a.s.n a.s.c], 2, by decide, fun _ => rfl, by intro a u hu; simp at hu; rcases hu with rfl | rfl <;> rfl⟩
theorem Try.infoN : (Try.prog.info? 3).map (fun i => (i.zero, i.size, i.bytes)) = some (some (.int .i64 0), 1, 8) := by kernel_rfl
theorem Try.infoR : (Try.prog.info? 42).map (fun i => (i.zero, i.size, i.bytes)) = some (some (.agg #[.int .i64 0, .int .i64 0, .int .u64 0, .int .u64 0, .int .i64 0]), 5, 40) := by kernel_rfl
theorem Try.infoV : (Try.prog.info? 30).map (fun i => (i.zero, i.size, i.bytes)) = some (some (.agg #[.int .i64 0, .int .i64 0, .int .u64 0, .int .u64 0, .slice none 0 0]), 5, 56) := by kernel_rfl
theorem Try.infoW : (Try.prog.info? 40).map (fun i => (i.zero, i.size, i.bytes)) = some (some (.agg #[.int .i64 0, .slice none 0 0]), 2, 32) := by kernel_rfl
/-- The record of an event at a place, with its stack's number. -/
def rcOf (x : (Vt × Int) × Nat) : Rc := ⟨(x.2 : Int), x.1.1.kind, x.1.1.obj, x.1.1.arg, x.1.2⟩
/-- A goroutine's records. -/
def recG (g : Int) (L : List (Vt × Int)) : List Rc := ((L.zipIdx).filter fun x => decide (x.1.1.g = g)).map rcOf
theorem recG_nil (g : Int) : recG g [] = [] := rfl
theorem recG_snoc (g : Int) (L : List (Vt × Int)) (e : Vt × Int) : recG g (L ++ [e]) = recG g L ++ (if e.1.g = g then [rcOf (e, L.length)] else []) := by
  unfold recG
  rw [List.zipIdx_append, List.filter_append, List.map_append]
  congr 1
  simp only [List.zipIdx_cons, List.zipIdx_nil, Nat.zero_add, List.filter_cons, List.filter_nil]
  split
  · rename_i h
    rw [if_pos (by simpa using h)]; rfl
  · rename_i h
    rw [if_neg (by simpa using h)]; rfl
theorem recG_mine {g : Int} {L : List (Vt × Int)} {e : Vt × Int} (h : e.1.g = g) : recG g (L ++ [e]) = recG g L ++ [rcOf (e, L.length)] := by rw [recG_snoc, if_pos h]
theorem recG_other {g : Int} {L : List (Vt × Int)} {e : Vt × Int} (h : e.1.g ≠ g) : recG g (L ++ [e]) = recG g L := by rw [recG_snoc, if_neg h, List.append_nil]
theorem recG_len (g : Int) (L : List (Vt × Int)) : (recG g L).length ≤ L.length := by
  unfold recG
  rw [List.length_map]
  refine Nat.le_trans (List.length_filter_le _ _) ?_
  rw [List.length_zipIdx]; exact Nat.le_refl _
theorem recG_mem {g : Int} {L : List (Vt × Int)} {r : Rc} : r ∈ recG g L ↔ ∃ k e, L[k]? = some e ∧ e.1.g = g ∧ r = rcOf (e, k) := by
  unfold recG
  rw [List.mem_map]
  constructor
  · rintro ⟨⟨e, k⟩, h, rfl⟩
    rw [List.mem_filter] at h
    obtain ⟨h1, h2⟩ := h
    have := List.mem_zipIdx_iff_getElem?.1 h1
    exact ⟨k, e, this, by simpa using h2, rfl⟩
  · rintro ⟨k, e, h1, h2, rfl⟩
    exact ⟨(e, k), List.mem_filter.2 ⟨List.mem_zipIdx_iff_getElem?.2 h1, by simpa using h2⟩, rfl⟩
theorem recG_ne {g : Int} {L : List (Vt × Int)} : recG g L ≠ [] ↔ ∃ e ∈ L, e.1.g = g := by
  constructor
  · intro h
    obtain ⟨r, hr⟩ := List.exists_mem_of_ne_nil _ h
    obtain ⟨k, e, h1, h2, _⟩ := recG_mem.1 hr
    exact ⟨e, List.mem_of_getElem? h1, h2⟩
  · rintro ⟨e, he, hg⟩
    obtain ⟨k, hk⟩ := List.getElem?_of_mem he
    exact List.ne_nil_of_mem (recG_mem.2 ⟨k, e, hk, hg, rfl⟩)
/-- The goroutines of a trace, by rising number. -/
structure Gors (K : List Int) (L : List (Vt × Int)) : Prop where
  asc : K.Pairwise fun a b => a < b
  mem : ∀ g, g ∈ K ↔ ∃ e ∈ L, e.1.g = g
theorem asc_nodup {K : List Int} (h : K.Pairwise fun a b => a < b) : K.Nodup := h.imp (fun h e => by omega)
theorem asc_lt {K : List Int} (h : K.Pairwise fun a b => a < b) {i j : Nat} {a b : Int} (hi : K[i]? = some a) (hj : K[j]? = some b) (hij : i < j) : a < b := by
  have l1 := get_lt hi
  have l2 := get_lt hj
  rw [List.getElem?_eq_getElem l1] at hi
  rw [List.getElem?_eq_getElem l2] at hj
  have := List.pairwise_iff_getElem.1 h i j l1 l2 hij
  rw [Option.some.inj hi, Option.some.inj hj] at this
  exact this
theorem asc_inj {K : List Int} (h : K.Pairwise fun a b => a < b) {i j : Nat} {a : Int} (hi : K[i]? = some a) (hj : K[j]? = some a) : i = j := by
  rcases Nat.lt_trichotomy i j with h1 | h1 | h1
  · have := asc_lt h hi hj h1; omega
  · exact h1
  · have := asc_lt h hj hi h1; omega
theorem Gors.uniq {K K' : List Int} {L : List (Vt × Int)} (h : Gors K L) (h' : Gors K' L) : K = K' := by
  refine List.Perm.eq_of_pairwise (le := fun a b => a < b) (fun a b _ _ h1 h2 => by omega) h.asc h'.asc ?_
  exact (List.perm_ext_iff_of_nodup (asc_nodup h.asc) (asc_nodup h'.asc)).2 fun g => by rw [h.mem, h'.mem]
theorem nd_len : ∀ {K M : List Int}, K.Nodup → (∀ x ∈ K, x ∈ M) → K.length ≤ M.length
  | [], _, _, _ => Nat.zero_le _
  | k :: K, M, h, hs => by
    obtain ⟨h1, h2⟩ := List.nodup_cons.1 h
    have hk := hs k (List.mem_cons_self ..)
    have := nd_len (K := K) (M := M.erase k) h2 (fun x hx => (List.mem_erase_of_ne (fun e : x = k => h1 (by rw [← e]; exact hx))).2 (hs x (List.mem_cons_of_mem _ hx)))
    rw [List.length_erase_of_mem hk] at this
    have := List.length_pos_of_mem hk
    rw [List.length_cons]; omega
theorem Gors.len {K : List Int} {L : List (Vt × Int)} (h : Gors K L) : K.length ≤ L.length := by
  have := nd_len (M := L.map fun e => e.1.g) (asc_nodup h.asc) (fun g hg => by obtain ⟨e, he, rfl⟩ := (h.mem g).1 hg; exact List.mem_map.2 ⟨e, he, rfl⟩)
  simpa using this
/-- A trace's rows. -/
def rowsOf (K : List Int) (L : List (Vt × Int)) : List (Int × List Rc) := K.map fun g => (g, recG g L)
/-- Rows in memory of their own, none in another's. -/
structure Rowz (w : World) (base : Nat) (v : Value) (rws : List Rw) (Gs : List (Int × List Rc)) : Prop where
  own : Own layW 40 w base v rws
  len : rws.length = Gs.length
  each : ∀ (k : Nat) (rw : Rw) (G : Int × List Rc), rws[k]? = some rw → Gs[k]? = some G → rw.g = G.1 ∧ Own layR 42 w base rw.s.v G.2
  one : ∀ (i j : Nat) (p q : Rw) (b : Nat), rws[i]? = some p → rws[j]? = some q → p.s.v.ownBlock = some b → q.s.v.ownBlock = some b → i = j
theorem Rowz.below {w w' : World} {base : Nat} {v : Value} {rws : List Rw} {Gs : List (Int × List Rc)} (h : Rowz w base v rws Gs) (hb : Below w.heap.size w w') : Rowz w' base v rws Gs :=
  ⟨h.own.below hb, h.len, fun k rw G h1 h2 => ⟨(h.each k rw G h1 h2).1, (h.each k rw G h1 h2).2.below hb⟩, h.one⟩
/-- Rows that can be read. -/
structure Rdz (w : World) (a : Option Addr) (n : Nat) (rws : List Rw) (Gs : List (Int × List Rc)) : Prop where
  row : TRow layW w a n rws
  len : rws.length = Gs.length
  each : ∀ (k : Nat) (rw : Rw) (G : Int × List Rc), rws[k]? = some rw → Gs[k]? = some G → rw.g = G.1 ∧ TRow layR w rw.s.a rw.s.n G.2 ∧ (rw.s.a = none → rw.s.n = 0 ∧ rw.s.c = 0) ∧ rw.s.n ≤ rw.s.c
theorem Rdz.below {w w' : World} {a : Option Addr} {n : Nat} {rws : List Rw} {Gs : List (Int × List Rc)} (h : Rdz w a n rws Gs) (hb : Below w.heap.size w w') : Rdz w' a n rws Gs :=
  ⟨h.row.below hb, h.len, fun k rw G h1 h2 => ⟨(h.each k rw G h1 h2).1, (h.each k rw G h1 h2).2.1.below hb, (h.each k rw G h1 h2).2.2⟩⟩
theorem own_reads {α : Type} {y : Lay α} {e : TypeId} {w : World} {base : Nat} {s : Sl} {C : List α} (h : Own y e w base s.v C) : TRow y w s.a s.n C ∧ (s.a = none → s.n = 0 ∧ s.c = 0) ∧ s.n ≤ s.c := by
  obtain ⟨a, c, hv, h0, hc⟩ := own_form h
  injection hv with e1 e2 e3
  have h' : Own y e w base (.slice s.a s.n s.c) C := h
  refine ⟨h'.row e2.symm, fun e => ?_, by rw [e2, e3]; exact hc⟩
  rw [e2, e3]
  exact h0 (by rw [← e1]; exact e)
theorem Rowz.reads {w : World} {base n c : Nat} {a : Option Addr} {rws : List Rw} {Gs : List (Int × List Rc)} (h : Rowz w base (.slice a n c) rws Gs) (hn : rws.length = n) : Rdz w a n rws Gs :=
  ⟨h.own.row hn, h.len, fun k rw G h1 h2 => ⟨(h.each k rw G h1 h2).1, own_reads (h.each k rw G h1 h2).2⟩⟩
theorem Rowz.form {w : World} {base : Nat} {v : Value} {rws : List Rw} {Gs : List (Int × List Rc)} (h : Rowz w base v rws Gs) : ∃ a c, v = .slice a Gs.length c ∧ (a = none → Gs.length = 0 ∧ c = 0) := by
  obtain ⟨a, c, hv, h0, _⟩ := own_form h.own
  rw [h.len] at hv h0
  exact ⟨a, c, hv, h0⟩
end Go.Proofs.Ytdlpffbeladgaab
