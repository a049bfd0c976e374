/-
  Maps by keys of any make that number what they are asked for.
-/
import Derived.Test.YtnengkdddckjaaaHpW
import Derived.Maps.OwnSet
import Derived.Maps.OwnOps
import Derived.DeepKeys4
namespace Go.Proofs.Ytnengkdddckjaaa
open Go.RowKit Go.Maps
set_option linter.unusedVariables false
/-- What lies in a map, as it lies. -/
def heldR (v : Value) : Option (DataW Value × List MemPlace) := some (.held v, [])
/-- A sort of keys. -/
structure KY (κ : Type) where
  kt : TypeId
  law : Keyed Try.prog kt
  val : κ → Value
  key : κ → Lit
  ok : κ → Prop
  kof : ∀ k, ok k → keyOf Try.prog kt (val k) = some (key k)
  lit : ∀ k, WideAt.IsKeyLit (key k)
  vinj : ∀ a b, val a = val b → a = b
theorem KY.inj {κ : Type} (y : KY κ) {a b : κ} (ha : y.ok a) (hb : y.ok b) (h : y.key a = y.key b) : a = b :=
  y.vinj a b (y.law.inj (y.kof a ha) (by rw [h]; exact y.kof b hb))
/-- A map in block b with n keys: at k it holds f k. -/
def KM {κ : Type} (y : KY κ) (w : World) (b n : Nat) (f : κ → Option Int) : Prop :=
  ∃ D, w.ownsMap Try.prog y.kt heldR b n D ∧ Maps.size D = n ∧ (∀ k, y.ok k → D.atKey (y.key k) (.held (.int .i64 0)) = .held (.int .i64 ((f k).getD 0))) ∧ (∀ k, y.ok k → Maps.has D (y.key k) = (f k).isSome)
section
variable {κ : Type} {y : KY κ} {w w' : World} {b n : Nat} {f : κ → Option Int} {k : κ}
theorem KM.but {S : Nat → Prop} (h : KM y w b n f) (hb : But S w w') (hS : ¬ S b) : KM y w' b n f := by
  obtain ⟨D, h1, h2⟩ := h
  exact ⟨D, map_but h1 hb hS, h2⟩
theorem KM.below (h : KM y w b n f) (hb : Below w.heap.size w w') : KM y w' b n f := h.but (S := fun _ => False) (But.of_below hb) (fun e => e)
theorem KM.lt (h : KM y w b n f) : b < w.heap.size := by
  obtain ⟨D, ⟨es, cl, h1, _⟩, _⟩ := h
  exact (Array.getElem?_eq_some_iff.1 h1).1
theorem KM.cong {g : κ → Option Int} (h : KM y w b n f) (hg : ∀ k, g k = f k) : KM y w b n g := by
  obtain ⟨D, h1, h2, h3, h4⟩ := h
  exact ⟨D, h1, h2, fun k hk => by rw [hg, h3 k hk], fun k hk => by rw [hg, h4 k hk]⟩
theorem KM.made (y : KY κ) (w : World) : KM y (w.alloc (.map #[] 0)) w.heap.size 0 (fun _ => none) :=
  ⟨.map [], World.ownsMap_made w Try.prog y.kt heldR, rfl, fun k _ => by rw [Maps.atKey_of_not_has rfl]; rfl, fun k _ => rfl⟩
theorem KM.lookOk (h : KM y w b n f) {m e : TypeId} (ht : Try.prog.underlying m = some (.map y.kt e)) (hz : (zeroValue e).run Try.prog w = .ok (.int .i64 0) w) (hr : y.ok k) : (Instr.lookup m (.map (some b)) (y.val k) true).run Try.prog w = .ok (.tuple #[.int .i64 ((f k).getD 0), .bool (f k).isSome]) w := by
  obtain ⟨D, h1, h0, h2, h3⟩ := h
  obtain ⟨v, ps, hrun, hv⟩ := h1.look_ok y.law ht hz (zd := .held (.int .i64 0)) (zp := []) rfl (y.kof k hr)
  rw [h2 k hr] at hv
  simp [heldR] at hv
  rw [hrun, hv.1, h3 k hr]
theorem KM.len (h : KM y w b n f) {m e : TypeId} (ht : Try.prog.underlying m = some (.map y.kt e)) (ty : TypeId) : (Builtin.len_ #[m] ty #[.map (some b)]).run Try.prog w = .ok (.int .i64 (n : Int)) w := by
  obtain ⟨D, h1, h0, _⟩ := h
  have := h1.len ht ty
  rw [h0] at this
  exact this
theorem KM.put [DecidableEq κ] (h : KM y w b n f) {m e : TypeId} (ht : Try.prog.underlying m = some (.map y.kt e)) (hr : y.ok k) (hn : n < maxLen) (hf : f k = none) (v : Int) :
    ∃ w', (Instr.mapUpdate m (.map (some b)) (y.val k) (.int .i64 v)).run Try.prog w = .ok () w' ∧ KM y w' b (n + 1) (fun u => if u = k then some v else f u) ∧ But (fun q => q = b) w w' := by
  obtain ⟨D, h1, h0, h2, h3⟩ := h
  obtain ⟨w', hrun, r1, r2⟩ := h1.update (val := .int .i64 v) y.law ht hn (y.kof k hr) (d := .held (.int .i64 v)) (ps := []) (show heldR (.int .i64 v) = some (.held (.int .i64 v), []) from rfl)
  refine ⟨w', hrun, ⟨_, r1, ?_, fun u hu => ?_, fun u hu => ?_⟩, But.of_grown r2 (fun k e => (Option.some.inj e).symm)⟩
  · rw [Maps.size_put (h1.tidy y.law), h3 k hr, hf, h0]
    rfl
  · show _ = DataW.held (Value.int .i64 ((if u = k then some v else f u).getD 0))
    by_cases hy : u = k
    · subst hy; rw [Maps.atKey_put_same h1.isMap (y.lit _), if_pos rfl]; rfl
    · rw [Maps.atKey_put_other (fun c => hy (y.inj hu hr c)), if_neg hy, h2 u hu]
  · show _ = (if u = k then some v else f u).isSome
    by_cases hy : u = k
    · subst hy; rw [Maps.has_put_same h1.isMap (y.lit _), if_pos rfl]; rfl
    · rw [Maps.has_put_other (fun c => hy (y.inj hu hr c)), if_neg hy, h3 u hu]
end
/-- The number of a thing in a list: from 1 on; 0 if it is not in it. -/
def nmb {κ : Type} [DecidableEq κ] (L : List κ) (k : κ) : Option Int := if k ∈ L then some ((L.idxOf k : Nat) + 1 : Int) else none
theorem nmb_snoc {κ : Type} [DecidableEq κ] (L : List κ) (k u : κ) (hk : k ∉ L) : nmb (L ++ [k]) u = if u = k then some ((L.length : Nat) + 1 : Int) else nmb L u := by
  unfold nmb
  by_cases hu : u = k
  · subst hu
    rw [if_pos rfl, if_pos (by simp), List.idxOf_append, if_neg hk]
    simp
  · rw [if_neg hu]
    by_cases hm : u ∈ L
    · rw [if_pos hm, if_pos (by simp [hm]), List.idxOf_append, if_pos hm]
    · rw [if_neg hm, if_neg (by simp [hm, hu])]
/-- A map that numbers the things of L. -/
structure NM {κ : Type} [DecidableEq κ] (y : KY κ) (w : World) (b : Nat) (L : List κ) : Prop where
  nd : L.Nodup
  km : KM y w b L.length (nmb L)
section
variable {κ : Type} [DecidableEq κ] {y : KY κ} {w w' : World} {b : Nat} {L : List κ} {k : κ}
theorem NM.but {S : Nat → Prop} (h : NM y w b L) (hb : But S w w') (hS : ¬ S b) : NM y w' b L := ⟨h.nd, h.km.but hb hS⟩
theorem NM.below (h : NM y w b L) (hb : Below w.heap.size w w') : NM y w' b L := ⟨h.nd, h.km.below hb⟩
theorem NM.made (y : KY κ) (w : World) : NM y (w.alloc (.map #[] 0)) w.heap.size [] := ⟨List.nodup_nil, (KM.made y w).cong (fun _ => rfl)⟩
theorem NM.put (h : NM y w b L) {m e : TypeId} (ht : Try.prog.underlying m = some (.map y.kt e)) (hr : y.ok k) (hn : L.length < maxLen) (hk : k ∉ L) :
    ∃ w', (Instr.mapUpdate m (.map (some b)) (y.val k) (.int .i64 ((L.length : Int) + 1))).run Try.prog w = .ok () w' ∧ NM y w' b (L ++ [k]) ∧ But (fun q => q = b) w w' := by
  obtain ⟨w', h1, h2, h3⟩ := h.km.put ht hr hn (by unfold nmb; rw [if_neg hk]) ((L.length : Int) + 1)
  refine ⟨w', h1, ⟨?_, ?_⟩, h3⟩
  · rw [List.nodup_append]
    refine ⟨h.nd, by simp, fun a ha c hc => ?_⟩
    have : c = k := by simpa using hc
    rw [this]
    intro e
    exact hk (e ▸ ha)
  · rw [List.length_append]
    exact h2.cong (fun u => nmb_snoc L k u hk)
end
/-- What a list is after a thing was numbered. -/
def addN {κ : Type} [DecidableEq κ] (L : List κ) (k : κ) : List κ := if k ∈ L then L else L ++ [k]
theorem addN_mem {κ : Type} [DecidableEq κ] (L : List κ) (k : κ) : k ∈ addN L k := by
  unfold addN; split
  · assumption
  · simp
theorem addN_pre {κ : Type} [DecidableEq κ] (L : List κ) (k : κ) : L <+: addN L k := by
  unfold addN; split
  · exact List.prefix_refl _
  · exact List.prefix_append _ _
theorem addN_len {κ : Type} [DecidableEq κ] (L : List κ) (k : κ) : (addN L k).length ≤ L.length + 1 := by
  unfold addN; split
  · omega
  · simp
end Go.Proofs.Ytnengkdddckjaaa
