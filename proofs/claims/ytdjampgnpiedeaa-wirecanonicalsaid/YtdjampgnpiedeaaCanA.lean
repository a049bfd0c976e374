/-
  WireCanonical: the round over the words.
-/
import Derived.Test.YtdjampgnpiedeaaText
import Derived.Test.YtdjampgnpiedeaaCurY
import Derived.Test.YtdjampgnpiedeaaCurV
namespace Go.Proofs.Ytdjampgnpiedeaa
open Go.RowKit

/-- What the words read as, at their places. -/
theorem read_word (ws : List Wd) (k : Nat) (h : k < ws.length) (raw : List Int) (hok : ws[k].ok) (hs : ws[k].s = false) :
    rdAt (textOf ws ++ raw) ((textOf (ws.take k)).length : Nat) = (ws[k].x, ((textOf (ws.take k)).length : Int) + (enc ws[k].x.toNat).length, 0) := by
  have e : textOf ws = textOf (ws.take k) ++ (enc ws[k].x.toNat ++ textOf (ws.drop (k + 1))) := by
    have h1 : ws = ws.take k ++ (ws[k] :: ws.drop (k + 1)) := by rw [← List.drop_eq_getElem_cons h, List.take_append_drop]
    have h2 : ws[k].bytes = enc ws[k].x.toNat := by unfold Wd.bytes; rw [hs]; simp
    conv => lhs; rw [h1]
    simp only [textOf, List.map_append, List.map_cons, List.flatten_append, List.flatten_cons, h2]
  rw [e, List.append_assoc, List.append_assoc]
  have h3 := rdAt_enc (textOf (ws.take k)) (textOf (ws.drop (k + 1)) ++ raw) ws[k].x.toNat (by have := hok.1; have := hok.2.1; omega)
  rw [h3, Int.toNat_of_nonneg hok.1]
theorem read_word_signed (ws : List Wd) (k : Nat) (h : k < ws.length) (raw : List Int) (hok : ws[k].ok) (hs : ws[k].s = true) :
    rvAt (textOf ws ++ raw) ((textOf (ws.take k)).length : Nat) = (ws[k].n, ((textOf (ws.take k)).length : Int) + (enc (zig ws[k].n).toNat).length, 0) := by
  have hz := zig_bd ws[k].n hok.2.2.1 hok.2.2.2
  have e : textOf ws = textOf (ws.take k) ++ (enc (zig ws[k].n).toNat ++ textOf (ws.drop (k + 1))) := by
    have h1 : ws = ws.take k ++ (ws[k] :: ws.drop (k + 1)) := by rw [← List.drop_eq_getElem_cons h, List.take_append_drop]
    have h2 : ws[k].bytes = enc (zig ws[k].n).toNat := by unfold Wd.bytes; rw [hs]; simp
    conv => lhs; rw [h1]
    simp only [textOf, List.map_append, List.map_cons, List.flatten_append, List.flatten_cons, h2]
  unfold rvAt
  rw [e, List.append_assoc, List.append_assoc]
  have h3 := rdAt_enc (textOf (ws.take k)) (textOf (ws.drop (k + 1)) ++ raw) (zig ws[k].n).toNat (by omega)
  rw [h3, Int.toNat_of_nonneg hz.1, zag_zig]
end Go.Proofs.Ytdjampgnpiedeaa
