/-
  Intern.
-/
import Derived.Test.YtbflkdbimgakpaaDoorTabB
namespace Go.Proofs.YtbflkdbimgakpaaDoor.E6
open Go.RowKit Go.Maps
def internV (L : List ByteArray) (s : ByteArray) : Value :=
  if isIn L s then .tuple #[.int .i64 (place L s : Int), .int .i64 0] else if roomy L.length (total L) s.size then .tuple #[.int .i64 (L.length : Int), .int .i64 0] else .tuple #[.int .i64 0, .int .i64 3]
def internL (L : List ByteArray) (s : ByteArray) : List ByteArray :=
  if isIn L s then L else if roomy L.length (total L) s.size then L ++ [s] else L
theorem put_any {w : World} {tb : Nat} {S : Nat → Prop} {L : List ByteArray} {v mv : Value} (h : Tab w tb S L v mv) (s : ByteArray) (hin : isIn L s = false) (hr : roomy L.length (total L) s.size = true) :
    Calls Tryd.prog 98 #[.pointer (some ⟨tb, 0, none⟩), .string s] w fun e w' => e = .returned (.int .i64 L.length) ∧ (∃ v' mv', Tab w' tb (fun k => S k ∨ (w.heap.size ≤ k ∧ k < w'.heap.size)) (L ++ [s]) v' mv') ∧ But S w w' := by
  have hr' := of_decide_eq_true hr
  rcases h.ids with ⟨rfl, _⟩ | ⟨mb, D, rfl, _⟩
  · exact put_nil h s hr'.1 (isIn_not.1 hin) (by omega) (by omega)
  · exact put_map h s hr'.1 (isIn_not.1 hin) (by omega) (by omega)
theorem intern_any {w : World} {tb : Nat} {S : Nat → Prop} {L : List ByteArray} {v mv : Value} (h : Tab w tb S L v mv) (s : ByteArray) (hs : s.size ≤ maxLen) :
    Calls Tryd.prog 71 #[.pointer (some ⟨tb, 0, none⟩), .string s] w fun e w' => e = .returned (internV L s) ∧ (∃ v' mv', Tab w' tb (fun k => S k ∨ (w.heap.size ≤ k ∧ k < w'.heap.size)) (internL L s) v' mv') ∧ But S w w' := by
  have c0 := h.cell0
  have c1 := h.cell1
  have c2 := h.cell2
  obtain ⟨a, c, rfl⟩ := own_form h.own
  have hsum : (total L : Int) ≤ 4194304 := by have := h.sum; omega
  have hz : (s.size : Int) ≤ 9223372036854775807 := by have := hs; unfold maxLen at this; omega
  obtain ⟨b, hb⟩ : ∃ b, isIn L s = b := ⟨_, rfl⟩
  have hlook : ∀ (ops : Array Oper) (rest : List Oper) (o : Oper) (A : Act) (Q : Exit → Act → World → Prop) (m x : Operand), o.guard = none → o.op = Op.lookup 95 m x true → A.eval m = mv → A.eval x = .string s →
      wpList Tryd.prog ops Q rest (A.put o.dst (.tuple #[.int .i64 (if isIn L s then (place L s : Int) else 0), .bool b])) w → wpList Tryd.prog ops Q (o :: rest) A w := by
    intro ops rest o A Q m x hg hop hm hx hK
    rcases h.ids with ⟨e, hL⟩ | ⟨mb, D, e, _, hmm, hi⟩
    · refine wpList_plain hg fun K' hK' => ?_
      have hl := Maps.look_nil (w := w) true law9 Tryd.underlying95 (zero3 w) (key9 hs)
      unfold Oper.wp
      simp [execOp, hop, hm, hx, e, hl, Result.andThen]
      refine hK' _ _ ?_
      have e0 : isIn L s = false := by rw [hL]; rfl
      rw [e0] at hK hb
      subst hb
      simpa using hK
    · refine wpList_lookup_own_ok_int w hg m x 95 hop 9 3 .i64 law9 Tryd.underlying95 Tryd.underlying3 (zero3 _) mb L.length D (hm.trans e) hmm _ _ hx (key9 hs) ?_
      intro c hat _
      rw [atKey_ids hi s hat, hi.has s, hb]
      rw [hb] at hK
      exact hK
  have HL : Hid _ := hide hlook
  have H : Hid (Tab w tb S L (.slice a L.length c) mv) := h
  clear hlook h
  have HB : Hid (isIn L s = b) := hb
  cases b
  · have eV : Hid (internV L s = if roomy L.length (total L) s.size then .tuple #[.int .i64 (L.length : Int), .int .i64 0] else .tuple #[.int .i64 0, .int .i64 3]) := hide (by unfold internV; rw [hb]; rfl)
    have eL : Hid (internL L s = if roomy L.length (total L) s.size then L ++ [s] else L) := hide (by unfold internL; rw [hb]; rfl)
    rw [hb] at HL
    clear hb
    have HR := room_any tb L.length c a (total L) s.size w c0 c2 hsum
    obtain ⟨r, hr⟩ : ∃ r, roomy L.length (total L) s.size = r := ⟨_, rfl⟩
    have Hr : Hid (roomy L.length (total L) s.size = r) := hr
    rw [hr] at HR
    have HR' : Hid _ := hide HR
    clear HR hr
    go_enter Tryd.func71, Tryd.ntmps71
    go_wp2_with (first | (at_lookup; refine HL.out _ _ _ _ _ _ _ rfl rfl rfl rfl ?_) | fail)
    refine HR'.out.mono ?_
    rintro e w' ⟨rfl, rfl⟩
    cases r
    · go_wp2
      go_ret2
      refine ⟨by rw [eV.out, Hr.out]; rfl, ⟨.slice a L.length c, mv, ?_⟩, But.refl _ _⟩
      rw [eL.out, Hr.out]
      exact H.out.mono fun k hk => .inl hk
    · go_wp2_with fail
      refine (clone_any s w' (by have := of_decide_eq_true Hr.out; omega)).mono ?_
      rintro e w1 ⟨rfl, hb1⟩
      have H1 : Hid (Tab w1 tb S L (.slice a L.length c) mv) := hide (H.out.kept (T := fun _ => False) (But.of_below hb1) (fun _ _ e => e))
      go_wp2_with fail
      refine (put_any H1.out s HB.out Hr.out).mono ?_
      rintro e w2 ⟨rfl, ⟨v', mv', ht⟩, hb2⟩
      have HT : Hid _ := hide ht
      clear ht
      go_wp2
      go_ret2
      refine ⟨by rw [eV.out, Hr.out]; rfl, ⟨v', mv', ?_⟩, (But.of_below (S := S) hb1).trans hb2 (fun _ _ e => e)⟩
      rw [eL.out, Hr.out]
      refine HT.out.mono fun k hk => hk.imp id fun e => ⟨Nat.le_trans hb1.size e.1, e.2⟩
  · have eV : Hid (internV L s = .tuple #[.int .i64 (place L s : Int), .int .i64 0]) := hide (by unfold internV; rw [hb]; rfl)
    have eL : Hid (internL L s = L) := hide (by unfold internL; rw [hb]; rfl)
    rw [hb] at HL
    clear hb
    go_enter Tryd.func71, Tryd.ntmps71
    go_wp2_with (first | (at_lookup; refine HL.out _ _ _ _ _ _ _ rfl rfl rfl rfl ?_) | go_in)
    go_ret2
    refine ⟨by rw [eV.out]; rfl, ⟨.slice a L.length c, mv, ?_⟩, But.refl _ _⟩
    rw [eL.out]
    exact H.out.mono fun k hk => .inl hk
end Go.Proofs.YtbflkdbimgakpaaDoor.E6
