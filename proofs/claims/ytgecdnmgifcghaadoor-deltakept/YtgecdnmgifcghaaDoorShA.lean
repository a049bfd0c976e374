/-
  Records of a row, put one behind the other.
-/
import Derived.Test.YtgecdnmgifcghaaDoorRowA
import Derived.Test.YtgecdnmgifcghaaDoorDelP
namespace Go.Proofs.YtgecdnmgifcghaaDoor
open Go.RowKit
theorem own_rec {w : World} {base g n c k : Nat} {L : List Rc} {r : Rc} (h : w.ownsRow base 32 5 (.slice (some ⟨g, 0, none⟩) n c) n (flat L)) (hk : L[k]? = some r) :
    w.cell? ⟨g, k * 5, none⟩ = some (.int .i64 r.stamp) ∧ w.cell? ⟨g, k * 5 + 1, none⟩ = some (.int .i64 r.kind) ∧ w.cell? ⟨g, k * 5 + 2, none⟩ = some (.int .u64 r.obj) ∧ w.cell? ⟨g, k * 5 + 3, none⟩ = some (.int .u64 r.arg) ∧ w.cell? ⟨g, k * 5 + 4, none⟩ = some (.int .i64 r.stack) := by
  have key : ∀ t, t < 5 → ∀ u, (rcs r)[t]? = some u → w.cell? ⟨g, k * 5 + t, none⟩ = some u := by
    intro t ht u hu
    have := h.cells (g := g) rfl (k * 5 + t) u (by rw [flat_get hk ht]; exact hu)
    have ha : (⟨g, 0, none⟩ : Addr).add (k * 5 + t) = ⟨g, k * 5 + t, none⟩ := by unfold Addr.add; split <;> simp_all
    rw [ha] at this; exact this
  exact ⟨key 0 (by omega) _ rfl, key 1 (by omega) _ rfl, key 2 (by omega) _ rfl, key 3 (by omega) _ rfl, key 4 (by omega) _ rfl⟩
theorem own_rowR {w : World} {base n : Nat} {v : Value} {xs : List Value} (h : w.ownsRow base 32 5 v n xs) (hn : 0 < n) : ∃ g c, v = .slice (some ⟨g, 0, none⟩) n c ∧ base ≤ g ∧ g < w.heap.size := by
  rcases h.2 with ⟨_, e⟩ | ⟨g, cap, cur, e, hb, hh, _⟩
  · omega
  · exact ⟨g, cap, e, hb, (Array.getElem?_eq_some_iff.1 hh).1⟩
theorem Ups.at : ∀ {L : List Rc} {a b : Int} {k : Nat} {r : Rc}, Ups a (L.drop k) b → L[k]? = some r → (a ≤ r.stamp ∧ r.stamp < 1048576 ∧ 1 ≤ r.kind ∧ r.kind ≤ 22 ∧ 0 ≤ r.stack ∧ r.stack ≤ 262144) ∧ r.ok ∧ Ups (r.stamp + 1) (L.drop (k + 1)) b := by
  intro L a b k r h hk
  have hlt : k < L.length := (List.getElem?_eq_some_iff.1 hk).1
  have he : L[k] = r := (List.getElem?_eq_some_iff.1 hk).2
  rw [List.drop_eq_getElem_cons hlt, he] at h
  obtain ⟨h1, h2, h3, h4, h5, h6, h7, h8⟩ := h
  exact ⟨⟨h1, h2, h3, h4, h5, h6⟩, h7, h8⟩
/-- Put of a record that may be: what it answers. -/
theorem put_n (S O K t k o a q : Int) (w : World) (hK : Kn w) (hw : 0 < w.heap.size) (h : putE ⟨S, O, K⟩ ⟨t, k, o, a, q⟩ = 0) (hr : (⟨t, k, o, a, q⟩ : Rc).ok) :
    Calls Tryd.prog 9 #[.agg #[.int .i64 S, .int .u64 O, .int .i64 K], .agg #[.int .i64 t, .int .i64 k, .int .u64 o, .int .u64 a, .int .i64 q]] w fun e w' =>
      ∃ g c, e = .returned (.tuple #[.slice (some ⟨g, 0, none⟩) (text ⟨S, O, K⟩ ⟨t, k, o, a, q⟩).length c, .agg #[.int .i64 (t + 1), .int .u64 o, .int .i64 q], .int .i64 0]) ∧ w.heap.size ≤ g ∧ w'.ownsRow w.heap.size 5 1 (.slice (some ⟨g, 0, none⟩) (text ⟨S, O, K⟩ ⟨t, k, o, a, q⟩).length c) (text ⟨S, O, K⟩ ⟨t, k, o, a, q⟩).length ((text ⟨S, O, K⟩ ⟨t, k, o, a, q⟩).map (Value.int .u8)) ∧ Below w.heap.size w w' := by
  have hl := text_len h hr
  refine (put_ok S O K t k o a q w hK hw h hr.a0 hr.a1).mono ?_
  rintro e w' ⟨v, n, rfl, rfl, hown, hb⟩
  obtain ⟨g, c, rfl, hg, _⟩ := own_some hown (by omega)
  exact ⟨g, c, rfl, hg, hown, hb⟩
/-! ### how long records are -/
theorem text_same (s : St) (k : Int) : (text s ⟨s.stamp, k, s.obj, 0, s.stack⟩).length = 2 := by
  unfold text fO fA fK xO xA xK
  simp [enc_small]
theorem diff_back (a : Int) : diff a (IntKind.u64.wrap (a - 1)) = 1 := by
  unfold diff
  have e : wrap64 (IntKind.u64.wrap (IntKind.u64.wrap (a - 1) - a)) = -1 := by simp only [wrapU]; unfold wrap64; omega
  rw [e]; decide
theorem wrap_up_ne (a : Int) : IntKind.u64.wrap (a + 1) ≠ a := by rw [wrapU]; omega
theorem wrap_down_ne (a : Int) : IntKind.u64.wrap (a - 1) ≠ a := by rw [wrapU]; omega
theorem text_on (s : St) (k : Int) : (text s ⟨s.stamp, k, IntKind.u64.wrap (s.obj + 1), 0, s.stack⟩).length = 3 := by
  have hne := wrap_up_ne s.obj
  have hd := diff_up s.obj
  unfold text xO xA xK
  simp [enc_small, hne, hd]
theorem text_back (s : St) (k : Int) : (text s ⟨s.stamp, k, IntKind.u64.wrap (s.obj - 1), 0, s.stack⟩).length = 3 := by
  have hne := wrap_down_ne s.obj
  have hd := diff_back s.obj
  unfold text xO xA xK
  simp [enc_small, hne, hd]
theorem text_more (s : St) (k a : Int) (h0 : 1 ≤ a) (h1 : a ≤ 127) : (text s ⟨s.stamp, k, s.obj, a, s.stack⟩).length = 3 := by
  have hne : a ≠ 0 := by omega
  have hl : (enc a.toNat).length = 1 := by rw [enc_small _ (by omega)]; rfl
  unfold text xO xA xK
  simp [enc_small, hne, hl]
end Go.Proofs.YtgecdnmgifcghaaDoor
