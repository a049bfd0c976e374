/-
  A region that draws its order, by what holds behind any set of its operations: one step a operation, not one a order.
-/
import Derived.Test.YtgecdnmgifcghaaDoorKepA
namespace Go.Proofs.YtgecdnmgifcghaaDoor
open Go.RowKit
/-- One more has come up. -/
def upd (B : Nat → Bool) (i : Nat) : Nat → Bool := fun j => if j = i then true else B j
theorem upd_self (B : Nat → Bool) (i : Nat) : upd B i i = true := by simp [upd]
theorem upd_ne (B : Nat → Bool) {i j : Nat} (h : j ≠ i) : upd B i j = B j := by simp [upd, h]
/-- Each operation waits for earlier ones alone. -/
def back (md : Region.Mode) (ops : Array Oper) : Bool := (List.range ops.size).all fun i => ((ops[i]?).map fun o => o.after.toList.all fun e => !Region.binds md e || decide (e.on < i)).getD true
theorem back_spec {md : Region.Mode} {ops : Array Oper} (h : back md ops = true) {i : Nat} {o : Oper} (ho : ops[i]? = some o) {e : Edge} (he : e ∈ o.after) (hb : Region.binds md e = true) : e.on < i := by
  have hl : i < ops.size := (Array.getElem?_eq_some_iff.1 ho).1
  have h1 := List.all_eq_true.1 h i (List.mem_range.2 hl)
  rw [ho] at h1
  have h2 := List.all_eq_true.1 h1 e (by simpa using he)
  rw [hb] at h2
  simpa using h2
theorem least_false (B : Nat → Bool) : ∀ n, (∃ i, i < n ∧ B i = false) → ∃ i, i < n ∧ B i = false ∧ ∀ j, j < i → B j = true
  | 0, ⟨i, h, _⟩ => by omega
  | n + 1, h => by
    by_cases h1 : ∃ i, i < n ∧ B i = false
    · obtain ⟨i, a, b, c⟩ := least_false B n h1
      exact ⟨i, by omega, b, c⟩
    · obtain ⟨i, a, b⟩ := h
      have e : i = n := by
        rcases Nat.lt_or_ge i n with h2 | h2
        · exact absurd ⟨i, h2, b⟩ h1
        · omega
      subst e
      refine ⟨i, by omega, b, fun j hj => ?_⟩
      cases hB : B j
      · exact absurd ⟨j, hj, hB⟩ h1
      · rfl
theorem getD_upd {listed : Array Bool} {i : Nat} (hi : i < listed.size) : (fun j => (listed.setIfInBounds i true).getD j false) = upd (fun j => listed.getD j false) i := by
  funext j
  unfold upd
  by_cases h : j = i
  · subst h; rw [if_pos rfl]; simp [hi]
  · rw [if_neg h]; simp [Ne.symm h]
theorem count_set : ∀ {l : List Bool} {i : Nat}, l[i]? = some false → (l.set i true).count false + 1 = l.count false
  | [], _, h => by simp at h
  | b :: l, 0, h => by simp at h; subst h; simp
  | b :: l, i + 1, h => by
    simp at h
    have := count_set h
    rw [List.set_cons_succ, List.count_cons, List.count_cons, ← this]
    omega
/-- Whatever order is picked: what holds behind any set of operations holds behind one more. -/
theorem wpAny_inv {P : Program} {md : Region.Mode} {ops : Array Oper} {Q : Exit → Act → World → Prop} (Inv : (Nat → Bool) → Act → World → Prop) (hb : back md ops = true)
    (hs : ∀ (B : Nat → Bool) (a : Act) (w : World) (i : Nat) (o : Oper), ops[i]? = some o → B i = false → (∀ e ∈ o.after, Region.binds md e = true → B e.on = true) → Inv B a w → ∀ K' : Act → World → Prop, Shut (∀ a w, Inv (upd B i) a w → K' a w) → if Region.wanted o (yielded ops a.tmps) = true then Oper.wp P o a w K' Q else K' (a.put o.dst undef) w)
    (hd : ∀ (B : Nat → Bool) (a : Act) (w : World), (∀ i, i < ops.size → B i = true) → Inv B a w → Q .normal a w) :
    ∀ (fuel : Nat) (listed : Array Bool) (a : Act) (w : World), listed.size = ops.size → listed.toList.count false ≤ fuel → Inv (fun j => listed.getD j false) a w → wpAny P md ops Q fuel listed a w := by
  have key : ∀ (listed : Array Bool), listed.size = ops.size → Region.ready md ops listed = [] → ∀ i, i < ops.size → listed.getD i false = true := by
    intro listed hl hr i hi
    cases hB : listed.getD i false with
    | true => rfl
    | false =>
      obtain ⟨k, h1, h2, h3⟩ := least_false (fun j => listed.getD j false) ops.size ⟨i, hi, hB⟩
      have : k ∈ Region.ready md ops listed := by
        refine mem_ready.2 ⟨?_, ops[k], by simp [h1], fun e he hbd => h3 _ (back_spec hb (by simp [h1]) he hbd)⟩
        have h9 : k < listed.size := by omega
        have : listed.getD k false = false := h2
        simp [h9] at this ⊢
        exact this
      rw [hr] at this
      cases this
  intro fuel
  induction fuel with
  | zero =>
    intro listed a w hl hc hI
    have all : ∀ i, i < ops.size → listed.getD i false = true := by
      intro i hi
      cases hB : listed.getD i false with
      | true => rfl
      | false =>
        have h9 : i < listed.size := by omega
        simp [h9] at hB
        have : false ∈ listed.toList := by rw [← hB]; simp
        have := List.count_pos_iff.2 this
        omega
    refine ⟨?_, hd _ _ _ all hI⟩
    refine List.eq_nil_iff_forall_not_mem.2 fun i hi => ?_
    obtain ⟨h1, o, h2, _⟩ := mem_ready.1 hi
    have h3 := (Array.getElem?_eq_some_iff.1 h2).1
    have h4 := all i h3
    have h9 : i < listed.size := by omega
    simp [h9] at h1 h4
    rw [h1] at h4; cases h4
  | succ fuel ih =>
    intro listed a w hl hc hI
    refine ⟨fun hr => hd _ _ _ (key listed hl hr) hI, fun i hi => ?_⟩
    obtain ⟨h1, o, h2, h3⟩ := mem_ready.1 hi
    have h4 := (Array.getElem?_eq_some_iff.1 h2).1
    have h9 : i < listed.size := by omega
    have hf : listed.getD i false = false := by simp [h9] at h1 ⊢; exact h1
    refine wpOp_step h2 (fun K' hK => hs (fun j => listed.getD j false) a w i o h2 hf h3 hI K' (fun a' w' h' => hK a' w' (ih _ a' w' (by simp [hl]) ?_ ?_)))
    · have hg : listed.toList[i]? = some false := by simp [h9] at hf ⊢; exact hf
      have := count_set hg
      rw [Array.toList_setIfInBounds]
      omega
    · rw [getD_upd h9]; exact h'
theorem count_none (n : Nat) : (Array.replicate n false).toList.count false ≤ n := by simp
/-- A region of a plain walk. -/
theorem wp_region_inv {P : Program} {id : Nat} {ops : Array Oper} {Q : Exit → Act → World → Prop} (Inv : (Nat → Bool) → Act → World → Prop) {a : Act} {w : World} (hm : P.follows .mixedOrders = true) (hb : back .any ops = true) (h0 : Inv (fun _ => false) a w.drew)
    (hs : ∀ (B : Nat → Bool) (a : Act) (w : World) (i : Nat) (o : Oper), ops[i]? = some o → B i = false → (∀ e ∈ o.after, Region.binds .any e = true → B e.on = true) → Inv B a w → ∀ K' : Act → World → Prop, Shut (∀ a w, Inv (upd B i) a w → K' a w) → if Region.wanted o (yielded ops a.tmps) = true then Oper.wp P o a w K' Q else K' (a.put o.dst undef) w)
    (hd : ∀ (B : Nat → Bool) (a : Act) (w : World), (∀ i, i < ops.size → B i = true) → Inv B a w → Q .normal a w) : (Code.region id ops true).wp P Q a w := by
  refine wp_region_any hm (wpAny_inv Inv hb hs hd _ _ _ _ (by simp) (count_none _) ?_)
  have e : (fun j => (Array.replicate ops.size false).getD j false) = fun _ => false := by
    funext j
    by_cases hj : j < ops.size <;> simp [hj]
  rw [e]; exact h0
theorem upd_of {B : Nat → Bool} {i j : Nat} (h : upd B i j = true) (hne : j ≠ i) : B j = true := by rw [upd_ne B hne] at h; exact h
end Go.Proofs.YtgecdnmgifcghaaDoor
