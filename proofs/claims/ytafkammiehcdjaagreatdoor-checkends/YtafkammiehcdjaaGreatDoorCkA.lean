/-
  A checker in memory.
-/
import Derived.Test.YtafkammiehcdjaaGreatDoorRsI
import Derived.Test.YtafkammiehcdjaaGreatDoorCsM
import Derived.Maps.OwnSet
import Derived.Maps.OwnOps
namespace Go.Proofs.YtafkammiehcdjaaGreatDoor
open Go.RowKit Go.Maps
/-- What lies in a map, as it lies. -/
def heldR (v : Value) : Option (DataW Value × List MemPlace) := some (.held v, [])
theorem lawI : Keyed Tryz.prog 3 := int_keyed Tryz.underlying3
theorem lawU : Keyed Tryz.prog 33 := int_keyed Tryz.underlying33
theorem keyI {g : Int} (h0 : -9223372036854775808 ≤ g) (h1 : g ≤ 9223372036854775807) : keyOf Tryz.prog 3 (.int .i64 g) = some (.int .i64 g) := keyOf_int_mk Tryz.underlying3 (WalkArith.wf_i64 (by omega))
theorem keyU {x : Int} (h0 : 0 ≤ x) (h1 : x ≤ 18446744073709551615) : keyOf Tryz.prog 33 (.int .u64 x) = some (.int .u64 x) := keyOf_int_mk Tryz.underlying33 (WalkArith.wf_u64 ⟨h0, h1⟩)
theorem litK (kk : IntKind) (g : Int) : WideAt.IsKeyLit (.int kk g) := by trivial
/-- A map by numbers: at x it holds f x. -/
def HM (w : World) (kt : TypeId) (kk : IntKind) (b n : Nat) (z : Value) (f : Int → Option Value) : Prop :=
  ∃ D, w.ownsMap Tryz.prog kt heldR b n D ∧ (∀ x, D.atKey (.int kk x) (.held z) = .held ((f x).getD z)) ∧ (∀ x, Maps.has D (.int kk x) = (f x).isSome)
section
variable {w w' : World} {kt : TypeId} {kk : IntKind} {b n : Nat} {z : Value} {f : Int → Option Value}
theorem HM.but {S : Nat → Prop} (h : HM w kt kk b n z f) (hb : But S w w') (hS : ¬ S b) : HM w' kt kk b n z f := by
  obtain ⟨D, h1, h2⟩ := h
  exact ⟨D, map_but h1 hb hS, h2⟩
theorem HM.below (h : HM w kt kk b n z f) (hb : Below w.heap.size w w') : HM w' kt kk b n z f := h.but (S := fun _ => False) (But.of_below hb) (fun e => e)
theorem HM.up {m : Nat} (h : HM w kt kk b n z f) (hm : n ≤ m) : HM w kt kk b m z f := by
  obtain ⟨D, ⟨es, cl, h1, h2, h3, h4⟩, h5⟩ := h
  exact ⟨D, ⟨es, cl, h1, h2, Nat.le_trans h3 hm, h4⟩, h5⟩
theorem HM.made (w : World) (kt : TypeId) (kk : IntKind) (z : Value) : HM (w.alloc (.map #[] 0)) kt kk w.heap.size 0 z (fun _ => none) :=
  ⟨.map [], World.ownsMap_made w Tryz.prog kt heldR, fun x => by rw [Maps.atKey_of_not_has rfl]; rfl, fun x => rfl⟩
theorem HM.look (h : HM w kt kk b n z f) (K : Keyed Tryz.prog kt) {t e : TypeId} (ht : Tryz.prog.underlying t = some (.map kt e)) (hz : (zeroValue e).run Tryz.prog w = .ok z w) {x : Int} (hk : keyOf Tryz.prog kt (.int kk x) = some (.int kk x)) : (Instr.lookup t (.map (some b)) (.int kk x) false).run Tryz.prog w = .ok ((f x).getD z) w := by
  obtain ⟨D, h1, h2, _⟩ := h
  obtain ⟨v, ps, hrun, hv⟩ := h1.lookup K ht hz (zd := .held z) (zp := []) rfl hk
  rw [h2 x] at hv
  simp [heldR] at hv
  rw [hrun, hv.1]
theorem HM.lookOk (h : HM w kt kk b n z f) (K : Keyed Tryz.prog kt) {t e : TypeId} (ht : Tryz.prog.underlying t = some (.map kt e)) (hz : (zeroValue e).run Tryz.prog w = .ok z w) {x : Int} (hk : keyOf Tryz.prog kt (.int kk x) = some (.int kk x)) : (Instr.lookup t (.map (some b)) (.int kk x) true).run Tryz.prog w = .ok (.tuple #[(f x).getD z, .bool (f x).isSome]) w := by
  obtain ⟨D, h1, h2, h3⟩ := h
  obtain ⟨v, ps, hrun, hv⟩ := h1.look_ok K ht hz (zd := .held z) (zp := []) rfl hk
  rw [h2 x] at hv
  simp [heldR] at hv
  rw [hrun, hv.1, h3 x]
theorem HM.put (h : HM w kt kk b n z f) (K : Keyed Tryz.prog kt) {t e : TypeId} (ht : Tryz.prog.underlying t = some (.map kt e)) (hn : n < maxLen) {x : Int} (hk : keyOf Tryz.prog kt (.int kk x) = some (.int kk x)) (v : Value) :
    ∃ w', (Instr.mapUpdate t (.map (some b)) (.int kk x) v).run Tryz.prog w = .ok () w' ∧ HM w' kt kk b (n + 1) z (setF f x (some v)) ∧ But (fun k => k = b) w w' := by
  obtain ⟨D, h1, h2, h3⟩ := h
  obtain ⟨w', hrun, r1, r2⟩ := h1.update (val := v) K ht hn hk (d := .held v) (ps := []) (show heldR v = some (.held v, []) from rfl)
  refine ⟨w', hrun, ⟨_, r1, fun y => ?_, fun y => ?_⟩, But.of_grown r2 (fun k e => (Option.some.inj e).symm)⟩
  · by_cases hy : y = x
    · subst hy; rw [Maps.atKey_put_same h1.isMap (litK _ _), setF_same]; rfl
    · rw [Maps.atKey_put_other (fun c => hy (by injection c)), setF_other f _ hy, h2]
  · by_cases hy : y = x
    · subst hy; rw [Maps.has_put_same h1.isMap (litK _ _), setF_same]; rfl
    · rw [Maps.has_put_other (fun c => hy (by injection c)), setF_other f _ hy, h3]
theorem HM.del (h : HM w kt kk b n z f) (K : Keyed Tryz.prog kt) {t e : TypeId} (ht : Tryz.prog.underlying t = some (.map kt e)) {x : Int} (hk : keyOf Tryz.prog kt (.int kk x) = some (.int kk x)) (ty : TypeId) :
    ∃ w', (Builtin.delete_ #[t, kt] ty #[.map (some b), .int kk x]).run Tryz.prog w = .ok (.tuple #[]) w' ∧ HM w' kt kk b n z (setF f x none) ∧ But (fun k => k = b) w w' := by
  obtain ⟨D, h1, h2, h3⟩ := h
  obtain ⟨w', hrun, r1, r2⟩ := h1.drop K ht hk ty
  refine ⟨w', hrun, ⟨_, r1, fun y => ?_, fun y => ?_⟩, But.of_grown r2.grown (fun k e => (Option.some.inj e).symm)⟩
  · by_cases hy : y = x
    · subst hy; rw [Maps.atKey_del_same, setF_same]; rfl
    · rw [Maps.atKey_del_other (fun c => hy (by injection c)), setF_other f _ hy, h2]
  · by_cases hy : y = x
    · subst hy; rw [Maps.has_del_same, setF_same]; rfl
    · rw [Maps.has_del_other (fun c => hy (by injection c)), setF_other f _ hy, h3]
theorem HM.len (h : HM w kt kk b n z f) {t e : TypeId} (ht : Tryz.prog.underlying t = some (.map kt e)) {x : Int} (hx : (f x).isSome = true) (ty : TypeId) : ∃ m : Nat, 0 < m ∧ (Builtin.len_ #[t] ty #[.map (some b)]).run Tryz.prog w = .ok (.int .i64 (m : Int)) w := by
  obtain ⟨D, h1, _, h3⟩ := h
  refine ⟨Maps.size D, ?_, h1.len ht ty⟩
  have h9 := h3 x
  rw [hx] at h9
  cases D with
  | map es =>
    cases es with
    | nil => simp [Maps.has] at h9
    | cons p r => simp [Maps.size]
  | _ => simp [Maps.has] at h9
end
end Go.Proofs.YtafkammiehcdjaaGreatDoor
