/-
  Split, whatever it answers: the program's and the document's.
-/
import Derived.Test.YtdlpffbeladgaabSpB
import Derived.Test.YtdlpffbeladgaabLwC
namespace Go.Proofs.Ytdlpffbeladgaab
open Go.RowKit
/-- What Split answers. -/
structure Spl (es : List Vt) (is : List Int) (err : Int) (Gs : List (Int × List Rc)) : Prop where
  eq : err = tfault es is.length
  rows : (err ≠ 0 ∧ Gs = []) ∨ (err = 0 ∧ ∃ K, Gors K (es.zip is) ∧ Gs = rowsOf K (es.zip is))
theorem Spl.uniq {es : List Vt} {is : List Int} {err err' : Int} {Gs Gs' : List (Int × List Rc)} (h : Spl es is err Gs) (h' : Spl es is err' Gs') : err = err' ∧ Gs = Gs' := by
  have e := h.eq.trans h'.eq.symm
  subst e
  refine ⟨rfl, ?_⟩
  rcases h.rows with ⟨h1, h2⟩ | ⟨h1, K, h2, h3⟩ <;> rcases h'.rows with ⟨g1, g2⟩ | ⟨g1, K', g2, g3⟩
  · rw [h2, g2]
  · exact absurd g1 h1
  · exact absurd h1 g1
  · rw [h3, g3, h2.uniq g2]
theorem Spl.len {es : List Vt} {is : List Int} {err : Int} {Gs : List (Int × List Rc)} (h : Spl es is err Gs) : Gs.length ≤ 1048576 ∧ ∀ G ∈ Gs, G.2.length ≤ 1048576 := by
  rcases h.rows with ⟨_, h2⟩ | ⟨h1, K, h2, h3⟩
  · rw [h2]; simp
  · have he := h.eq
    rw [h1] at he
    unfold tfault at he
    have hl : es.length ≤ 1048576 := by
      by_cases h9 : 1048576 < es.length
      · rw [if_pos h9] at he; omega
      · omega
    have hz : (es.zip is).length ≤ 1048576 := by rw [List.length_zip]; omega
    rw [h3]
    refine ⟨?_, fun G hG => ?_⟩
    · have := h2.len; unfold rowsOf; rw [List.length_map]; omega
    · obtain ⟨g, _, rfl⟩ := List.mem_map.1 hG
      have := recG_len g (es.zip is)
      dsimp only; omega
theorem noG_twn {e f : Vt} (h : Twn e f) : noG f = noG e := by unfold noG; rw [h.g]
theorem Twns.any {es fs : List Vt} (h : Twns es fs) : fs.any noG = es.any noG := by
  have : fs.map noG = es.map noG := by
    apply List.ext_getElem?
    intro i
    rw [List.getElem?_map, List.getElem?_map]
    by_cases hi : i < es.length
    · have hf : i < fs.length := by rw [h.len]; exact hi
      rw [List.getElem?_eq_getElem hi, List.getElem?_eq_getElem hf]
      simp [noG_twn (h.each i _ _ (List.getElem?_eq_getElem hi) (List.getElem?_eq_getElem hf))]
    · rw [List.getElem?_eq_none (by rw [h.len]; omega), List.getElem?_eq_none (by omega)]
  have e1 : ∀ l : List Vt, l.any noG = (l.map noG).any id := fun l => by simp [List.any_map]
  rw [e1, e1, this]
theorem Twns.tfault {es fs : List Vt} (h : Twns es fs) (m : Nat) : tfault fs m = tfault es m := by unfold Go.Proofs.Ytdlpffbeladgaab.tfault; rw [h.len, h.any]
theorem Twns.zip {es fs : List Vt} (h : Twns es fs) (is : List Int) : ∀ (k : Nat) (x : Vt × Int), (es.zip is)[k]? = some x → ∃ y, (fs.zip is)[k]? = some y ∧ Twn x.1 y.1 ∧ y.2 = x.2 := by
  intro k x hx
  have hl := get_lt hx
  rw [List.length_zip] at hl
  have hlz : k < (es.zip is).length := by rw [List.length_zip]; omega
  have hfz : k < (fs.zip is).length := by rw [List.length_zip, h.len]; omega
  rw [List.getElem?_eq_getElem hlz, List.getElem_zip] at hx
  refine ⟨(fs.zip is)[k], List.getElem?_eq_getElem hfz, ?_⟩
  rw [List.getElem_zip]
  rw [← Option.some.inj hx]
  exact ⟨h.each k _ _ (List.getElem?_eq_getElem (by omega)) (List.getElem?_eq_getElem (by rw [h.len]; omega)), rfl⟩
theorem Twns.recG {es fs : List Vt} (h : Twns es fs) (is : List Int) (g : Int) : recG g (fs.zip is) = recG g (es.zip is) := by
  have hz := h.zip is
  have hlen : (fs.zip is).length = (es.zip is).length := by rw [List.length_zip, List.length_zip, h.len]
  have key : ∀ n, Go.Proofs.Ytdlpffbeladgaab.recG g ((fs.zip is).take n) = Go.Proofs.Ytdlpffbeladgaab.recG g ((es.zip is).take n) := by
    intro n
    induction n with
    | zero => simp
    | succ n ih =>
      by_cases hn : n < (es.zip is).length
      · obtain ⟨y, hy, ht, h2⟩ := hz n _ (List.getElem?_eq_getElem hn)
        have hn' : n < (fs.zip is).length := by rw [hlen]; exact hn
        rw [List.getElem?_eq_getElem hn'] at hy
        rw [List.take_succ_eq_append_getElem hn, List.take_succ_eq_append_getElem hn', Option.some.inj hy, recG_snoc, recG_snoc, ih, ht.g, List.length_take, List.length_take, hlen]
        unfold rcOf
        rw [ht.kind, ht.obj, ht.arg, h2]
      · rw [List.take_of_length_le (by omega), List.take_of_length_le (by omega)] at ih
        rw [List.take_of_length_le (by omega), List.take_of_length_le (by omega)]
        exact ih
  have := key (es.zip is).length
  rw [List.take_of_length_le (Nat.le_refl _), List.take_of_length_le (by omega)] at this
  exact this
theorem Twns.gors {es fs : List Vt} (h : Twns es fs) {is : List Int} {K : List Int} (hk : Gors K (fs.zip is)) : Gors K (es.zip is) := by
  refine ⟨hk.asc, fun g => ?_⟩
  rw [hk.mem, ← recG_ne, ← recG_ne, h.recG]
theorem Spl.twn {es fs : List Vt} {is : List Int} {err : Int} {Gs : List (Int × List Rc)} (h : Spl fs is err Gs) (ht : Twns es fs) : Spl es is err Gs := by
  refine ⟨by rw [h.eq, ht.tfault], h.rows.imp id ?_⟩
  rintro ⟨h1, K, h2, h3⟩
  refine ⟨h1, K, ht.gors h2, ?_⟩
  rw [h3]
  unfold rowsOf
  exact List.map_congr_left (fun g _ => by rw [ht.recG])
theorem Rowz.empty (w : World) (base : Nat) : Rowz w base (.slice none 0 0) [] [] := ⟨Own.nil _ _ _ _, rfl, fun k rw G h => by simp at h, fun i j p q b h => by simp at h⟩
theorem tfault_ok {es : List Vt} {m : Nat} (h : tfault es m = 0) : es.length ≤ 1048576 ∧ m = es.length ∧ ∀ e ∈ es, 0 ≤ e.g ∧ e.g < 65536 := by
  unfold tfault at h
  by_cases h1 : 1048576 < es.length
  · rw [if_pos h1] at h; omega
  · rw [if_neg h1] at h
    by_cases h2 : m ≠ es.length
    · rw [if_pos h2] at h; omega
    · rw [if_neg h2] at h
      refine ⟨by omega, by omega, fun e he => ?_⟩
      by_cases h3 : es.any noG = true
      · rw [if_pos h3] at h; omega
      · have : ¬ noG e = true := fun h9 => h3 (List.any_eq_true.2 ⟨e, he, h9⟩)
        simp [noG] at this
        omega
theorem split_any (w : World) (a b : Option Addr) (n c m d : Nat) (es : List Vt) (is : List Int) (hr : TRow layV w a n es) (hi : TRow layN w b m is) (hn : (n : Int) ≤ 9000000000000000000) (hm : (m : Int) ≤ 9000000000000000000) :
    Calls Try.prog 6 #[.slice a n c, .slice b m d] w fun r w' => ∃ v rws err Gs, r = .returned (.tuple #[v, .int .i64 err]) ∧ Spl es is err Gs ∧ Rowz w' w.heap.size v rws Gs ∧ Below w.heap.size w w' := by
  by_cases h0 : tfault es m = 0
  · obtain ⟨h1, h2, h3⟩ := tfault_ok h0
    rw [hr.len] at h1 h2
    subst h2
    refine (split_ok w a b m c d es is hr hi h1 h3).mono ?_
    rintro r w' ⟨v, rws, K, rfl, hK, hz, hb⟩
    exact ⟨v, rws, 0, _, rfl, ⟨by rw [hi.len, h0], .inr ⟨rfl, K, hK, rfl⟩⟩, hz, hb⟩
  · refine (split_bad w a b n c m d es hr hn hm h0).mono ?_
    rintro r w' ⟨rfl, hb⟩
    exact ⟨_, [], _, [], rfl, ⟨by rw [hi.len], .inl ⟨h0, rfl⟩⟩, Rowz.empty _ _, hb⟩
end Go.Proofs.Ytdlpffbeladgaab
