/-
  Entries by rising keys, as mathematics.
-/
namespace Go.Proofs.YtafkammiehcdjaaGreatDoor
abbrev Ent := Int × Int
def Ris (L : List Ent) : Prop := L.Pairwise (fun a b => a.1 < b.1)
/-- A key's value. -/
def look (k : Int) : List Ent → Option Int
  | [] => none
  | p :: L => if p.1 = k then some p.2 else look k L
/-- The first entry whose key is no lower. -/
def nxt (k : Int) : List Ent → Option Ent
  | [] => none
  | p :: L => if p.1 < k then nxt k L else some p
/-- A key is given a value. -/
def insE (k v : Int) : List Ent → List Ent
  | [] => [(k, v)]
  | p :: L => if p.1 < k then p :: insE k v L else if p.1 = k then (k, v) :: L else (k, v) :: p :: L
/-- A key is taken out. -/
def delE (k : Int) : List Ent → List Ent
  | [] => []
  | p :: L => if p.1 = k then L else p :: delE k L
theorem look_low {k : Int} {X : List Ent} (hX : ∀ e ∈ X, e.1 < k) (Y : List Ent) : look k (X ++ Y) = look k Y := by
  induction X with
  | nil => rfl
  | cons p X ih =>
    have h1 := hX p (by simp)
    show (if p.1 = k then some p.2 else look k (X ++ Y)) = _
    rw [if_neg (by omega), ih (fun e he => hX e (by simp [he]))]
theorem look_high {k : Int} {Y : List Ent} (hY : ∀ e ∈ Y, k < e.1) : look k Y = none := by
  induction Y with
  | nil => rfl
  | cons p X ih =>
    have h1 := hY p (by simp)
    unfold look
    rw [if_neg (by omega), ih (fun e he => hY e (by simp [he]))]
theorem look_head (k v : Int) (Y : List Ent) : look k ((k, v) :: Y) = some v := by unfold look; rw [if_pos rfl]
theorem nxt_low {k : Int} {X : List Ent} (hX : ∀ e ∈ X, e.1 < k) (Y : List Ent) : nxt k (X ++ Y) = nxt k Y := by
  induction X with
  | nil => rfl
  | cons p X ih =>
    have h1 := hX p (by simp)
    show (if p.1 < k then nxt k (X ++ Y) else some p) = _
    rw [if_pos h1, ih (fun e he => hX e (by simp [he]))]
theorem nxt_head {k : Int} {p : Ent} (h : k ≤ p.1) (Y : List Ent) : nxt k (p :: Y) = some p := by unfold nxt; rw [if_neg (by omega)]
theorem insE_low {k v : Int} {X : List Ent} (hX : ∀ e ∈ X, e.1 < k) (Y : List Ent) : insE k v (X ++ Y) = X ++ insE k v Y := by
  induction X with
  | nil => rfl
  | cons p X ih =>
    have h1 := hX p (by simp)
    show (if p.1 < k then p :: insE k v (X ++ Y) else _) = _
    rw [if_pos h1, ih (fun e he => hX e (by simp [he]))]
    rfl
theorem insE_high {k v : Int} {Y : List Ent} (hY : ∀ e ∈ Y, k < e.1) : insE k v Y = (k, v) :: Y := by
  cases Y with
  | nil => rfl
  | cons p X =>
    have h1 := hY p (by simp)
    unfold insE
    rw [if_neg (by omega), if_neg (by omega)]
theorem insE_head (k u v : Int) (Y : List Ent) : insE k v ((k, u) :: Y) = (k, v) :: Y := by
  unfold insE
  rw [if_neg (Int.lt_irrefl k), if_pos rfl]
theorem delE_low {k : Int} {X : List Ent} (hX : ∀ e ∈ X, e.1 < k) (Y : List Ent) : delE k (X ++ Y) = X ++ delE k Y := by
  induction X with
  | nil => rfl
  | cons p X ih =>
    have h1 := hX p (by simp)
    show (if p.1 = k then X ++ Y else p :: delE k (X ++ Y)) = _
    rw [if_neg (by omega), ih (fun e he => hX e (by simp [he]))]
    rfl
theorem delE_head (k u : Int) (Y : List Ent) : delE k ((k, u) :: Y) = Y := by unfold delE; rw [if_pos rfl]
theorem Ris.tail {p : Ent} {L : List Ent} (h : Ris (p :: L)) : Ris L := (List.pairwise_cons.1 h).2
theorem Ris.head {p : Ent} {L : List Ent} (h : Ris (p :: L)) : ∀ e ∈ L, p.1 < e.1 := (List.pairwise_cons.1 h).1
theorem insE_mem {k v : Int} {L : List Ent} : ∀ e ∈ insE k v L, e = (k, v) ∨ e ∈ L := by
  induction L with
  | nil => intro e he; simp [insE] at he; exact .inl he
  | cons p L ih =>
    intro e he
    unfold insE at he
    split at he
    · rcases List.mem_cons.1 he with rfl | he
      · exact .inr (by simp)
      · rcases ih e he with h | h
        · exact .inl h
        · exact .inr (by simp [h])
    · split at he
      · rcases List.mem_cons.1 he with rfl | he
        · exact .inl rfl
        · exact .inr (by simp [he])
      · rcases List.mem_cons.1 he with rfl | he
        · exact .inl rfl
        · exact .inr he
theorem Ris.ins {L : List Ent} (h : Ris L) (k v : Int) : Ris (insE k v L) := by
  induction L with
  | nil => exact List.pairwise_singleton _ _
  | cons p L ih =>
    unfold insE
    split
    · rename_i h1
      refine List.pairwise_cons.2 ⟨fun e he => ?_, ih h.tail⟩
      rcases insE_mem e he with rfl | he
      · exact h1
      · exact h.head e he
    · split
      · rename_i h2
        refine List.pairwise_cons.2 ⟨fun e he => ?_, h.tail⟩
        have := h.head e he
        show k < e.1
        omega
      · refine List.pairwise_cons.2 ⟨fun e he => ?_, h⟩
        show k < e.1
        rcases List.mem_cons.1 he with rfl | he
        · omega
        · have := h.head e he
          omega
theorem delE_sub (k : Int) (L : List Ent) : (delE k L).Sublist L := by
  induction L with
  | nil => exact List.Sublist.refl _
  | cons p L ih =>
    unfold delE
    split
    · exact List.sublist_cons_self _ _
    · exact ih.cons_cons _
theorem Ris.del {L : List Ent} (h : Ris L) (k : Int) : Ris (delE k L) := List.Pairwise.sublist (delE_sub k L) h
theorem look_insE (k v x : Int) (L : List Ent) : look x (insE k v L) = if x = k then some v else look x L := by
  induction L with
  | nil => show (if k = x then some v else none) = _; by_cases h : x = k <;> simp [h, look]; intro e; exact absurd e.symm h
  | cons p L ih =>
    unfold insE
    split
    · rename_i h1
      show (if p.1 = x then some p.2 else look x (insE k v L)) = _
      by_cases hx : x = k
      · subst hx
        rw [if_neg (by omega), ih, if_pos rfl, if_pos rfl]
      · rw [ih, if_neg hx, if_neg hx]; rfl
    · split
      · rename_i h2
        show (if k = x then some v else look x L) = if x = k then some v else if p.1 = x then some p.2 else look x L
        by_cases hx : x = k
        · subst hx; rw [if_pos rfl, if_pos rfl]
        · rw [if_neg (fun e => hx e.symm), if_neg hx, if_neg (by omega)]
      · show (if k = x then some v else look x (p :: L)) = _
        by_cases hx : x = k
        · subst hx; rw [if_pos rfl]
        · rw [if_neg (fun e => hx e.symm), if_neg hx]
theorem look_mem {x v : Int} {L : List Ent} (h : look x L = some v) : (x, v) ∈ L := by
  induction L with
  | nil => cases h
  | cons p L ih =>
    unfold look at h
    split at h
    · rename_i h1
      obtain ⟨a, b⟩ := p
      simp at h1 h
      subst h1; subst h
      simp
    · exact List.mem_cons_of_mem _ (ih h)
theorem look_of_mem {x v : Int} {L : List Ent} (hL : Ris L) (h : (x, v) ∈ L) : look x L = some v := by
  induction L with
  | nil => cases h
  | cons p L ih =>
    unfold look
    rcases List.mem_cons.1 h with rfl | h
    · rw [if_pos rfl]
    · have := hL.head _ h
      rw [if_neg (by show ¬ p.1 = x; have h9 : p.1 < x := this; omega)]
      exact ih hL.tail h
theorem look_delE {L : List Ent} (hL : Ris L) (k x : Int) : look x (delE k L) = if x = k then none else look x L := by
  induction L with
  | nil => show none = _; split <;> rfl
  | cons p L ih =>
    unfold delE
    split
    · rename_i h1
      by_cases hx : x = k
      · rw [if_pos hx]
        exact look_high (fun e he => by have := hL.head e he; omega)
      · rw [if_neg hx]
        show _ = if p.1 = x then some p.2 else look x L
        rw [if_neg (by omega)]
    · rename_i h1
      show (if p.1 = x then some p.2 else look x (delE k L)) = if x = k then none else if p.1 = x then some p.2 else look x L
      rw [ih hL.tail]
      by_cases hx : x = k
      · rw [if_neg (by omega), if_pos hx, if_pos hx]
      · rw [if_neg hx, if_neg hx]
/-- Two lists by rising keys that tell the same are one. -/
theorem ris_ext {L M : List Ent} (hL : Ris L) (hM : Ris M) (h : ∀ x, look x L = look x M) : L = M := by
  induction L generalizing M with
  | nil =>
    cases M with
    | nil => rfl
    | cons q M =>
      have := h q.1
      unfold look at this
      rw [if_pos rfl] at this
      cases this
  | cons p L ih =>
    cases M with
    | nil =>
      have := h p.1
      unfold look at this
      rw [if_pos rfl] at this
      cases this
    | cons q M =>
      have e : p = q := by
        have h1 := look_mem ((h p.1).symm.trans (by unfold look; rw [if_pos rfl]))
        have h2 := look_mem ((h q.1).trans (by unfold look; rw [if_pos rfl]))
        rcases List.mem_cons.1 h1 with h1 | h1
        · exact h1
        · rcases List.mem_cons.1 h2 with h2 | h2
          · exact h2.symm
          · have a := hM.head _ h1
            have b := hL.head _ h2
            simp at a b
            omega
      subst e
      congr 1
      refine ih hL.tail hM.tail (fun x => ?_)
      by_cases hx : x = p.1
      · subst hx
        rw [look_high hL.head, look_high hM.head]
      · have := h x
        unfold look at this
        rwa [if_neg (fun e => hx e.symm), if_neg (fun e => hx e.symm)] at this
theorem delE_insE {L : List Ent} (hL : Ris L) (k v : Int) : delE k (insE k v L) = delE k L := by
  refine ris_ext ((hL.ins k v).del k) (hL.del k) (fun x => ?_)
  rw [look_delE (hL.ins k v), look_delE hL, look_insE]
  split <;> rfl
theorem insE_len (k v : Int) (L : List Ent) : (insE k v L).length ≤ L.length + 1 := by
  induction L with
  | nil => exact Nat.le_refl _
  | cons p L ih =>
    unfold insE
    split
    · simp; exact ih
    · split <;> simp
theorem delE_len (k : Int) (L : List Ent) : (delE k L).length ≤ L.length := (delE_sub k L).length_le
theorem nxt_mem {k : Int} {p : Ent} {L : List Ent} (h : nxt k L = some p) : p ∈ L ∧ k ≤ p.1 := by
  induction L with
  | nil => cases h
  | cons q L ih =>
    unfold nxt at h
    split at h
    · exact ⟨List.mem_cons_of_mem _ (ih h).1, (ih h).2⟩
    · cases h; exact ⟨by simp, by omega⟩
theorem nxt_least {k : Int} {p : Ent} {L : List Ent} (hL : Ris L) (h : nxt k L = some p) : ∀ q ∈ L, k ≤ q.1 → p = q ∨ p.1 < q.1 := by
  induction L with
  | nil => cases h
  | cons q L ih =>
    unfold nxt at h
    split at h
    · rename_i h1
      intro r hr hk
      rcases List.mem_cons.1 hr with rfl | hr
      · omega
      · exact ih hL.tail h r hr hk
    · cases h
      intro r hr hk
      rcases List.mem_cons.1 hr with rfl | hr
      · exact .inl rfl
      · exact .inr (hL.head r hr)
theorem nxt_none {k : Int} {L : List Ent} (h : nxt k L = none) : ∀ q ∈ L, q.1 < k := by
  induction L with
  | nil => intro q hq; cases hq
  | cons q L ih =>
    unfold nxt at h
    split at h
    · rename_i h1
      intro r hr
      rcases List.mem_cons.1 hr with rfl | hr
      · exact h1
      · exact ih h r hr
    · cases h
/-- Where a key lies, or would: in which piece, and where in it. -/
structure Sk (ps : List (List Ent)) (k : Int) (i j : Nat) (is : Bool) : Prop where
  lt : i < ps.length
  le : j ≤ (ps.getD i []).length
  low : ∀ e ∈ (ps.take i).flatten ++ (ps.getD i []).take j, e.1 < k
  high : ∀ e ∈ (ps.getD i []).drop j ++ (ps.drop (i + 1)).flatten, k ≤ e.1
  is : is = true ↔ ∃ v, (ps.getD i [])[j]? = some (k, v)
  full : j = (ps.getD i []).length → i + 1 = ps.length
theorem split_flat (ps : List (List Ent)) (i j : Nat) (hi : i < ps.length) : ps.flatten = ((ps.take i).flatten ++ (ps.getD i []).take j) ++ ((ps.getD i []).drop j ++ (ps.drop (i + 1)).flatten) := by
  have e : ps = ps.take i ++ ps.getD i [] :: ps.drop (i + 1) := by
    conv => lhs; rw [← List.take_append_drop i ps]
    rw [List.drop_eq_getElem_cons hi]
    simp [List.getD, List.getElem?_eq_getElem hi]
  conv => lhs; rw [e]
  rw [List.flatten_append, List.flatten_cons]
  conv => lhs; rw [← List.take_append_drop j (ps.getD i [])]
  simp only [List.append_assoc]
theorem set_flat (ps : List (List Ent)) (i : Nat) (q : List Ent) (hi : i < ps.length) : (ps.set i q).flatten = (ps.take i).flatten ++ (q ++ (ps.drop (i + 1)).flatten) := by
  rw [List.set_eq_take_append_cons_drop, if_pos hi, List.flatten_append, List.flatten_cons]
theorem Sk.flat {ps : List (List Ent)} {k : Int} {i j : Nat} {is : Bool} (h : Sk ps k i j is) : ps.flatten = ((ps.take i).flatten ++ (ps.getD i []).take j) ++ ((ps.getD i []).drop j ++ (ps.drop (i + 1)).flatten) := split_flat ps i j h.lt
/-- Above the key, if the key is not there. -/
theorem Sk.above {ps : List (List Ent)} {k : Int} {i j : Nat} (h : Sk ps k i j false) (hR : Ris ps.flatten) : ∀ e ∈ (ps.getD i []).drop j ++ (ps.drop (i + 1)).flatten, k < e.1 := by
  intro e he
  have h1 := h.high e he
  rcases Int.lt_or_eq_of_le h1 with h2 | h2
  · exact h2
  · exfalso
    rw [h.flat] at hR
    have hR2 : Ris ((ps.getD i []).drop j ++ (ps.drop (i + 1)).flatten) := (List.pairwise_append.1 hR).2.1
    cases hd : (ps.getD i []).drop j with
    | nil =>
      have hj := h.full (Nat.le_antisymm h.le (List.drop_eq_nil_iff.1 hd))
      rw [hd, List.drop_eq_nil_of_le (by omega)] at he
      cases he
    | cons p r =>
      rw [hd] at he hR2
      have hp : (ps.getD i [])[j]? = some p := by
        have := congrArg (fun l => l[0]?) hd
        simpa [List.getElem?_drop] using this
      have hge := h.high p (by rw [hd]; simp)
      rcases List.mem_cons.1 he with rfl | he
      · have := h.is.2 ⟨e.2, by rw [hp, h2]⟩
        cases this
      · have := hR2.head e he
        omega
theorem Sk.yes {ps : List (List Ent)} {k : Int} {i j : Nat} {v : Int} (h : Sk ps k i j true) (hv : (ps.getD i [])[j]? = some (k, v)) : look k ps.flatten = some v := by
  rw [h.flat, look_low h.low]
  have hl : j < (ps.getD i []).length := (List.getElem?_eq_some_iff.1 hv).1
  rw [List.drop_eq_getElem_cons hl, (List.getElem?_eq_some_iff.1 hv).2]
  exact look_head _ _ _
theorem Sk.no {ps : List (List Ent)} {k : Int} {i j : Nat} (h : Sk ps k i j false) (hR : Ris ps.flatten) : look k ps.flatten = none := by
  have ha := h.above hR
  rw [h.flat, look_low h.low]
  exact look_high ha
theorem Sk.look {ps : List (List Ent)} {k : Int} {i j : Nat} {is : Bool} (h : Sk ps k i j is) (hR : Ris ps.flatten) : is = (look k ps.flatten).isSome := by
  cases is with
  | true => obtain ⟨v, hv⟩ := h.is.1 rfl; rw [h.yes hv]; rfl
  | false => rw [h.no hR]; rfl
theorem Sk.nxt {ps : List (List Ent)} {k : Int} {i j : Nat} {is : Bool} (h : Sk ps k i j is) : nxt k ps.flatten = (ps.getD i [])[j]? := by
  rw [h.flat, nxt_low h.low]
  rcases Nat.lt_or_ge j (ps.getD i []).length with hl | hl
  · have hx := h.high ((ps.getD i [])[j]) (List.mem_append_left _ (by rw [List.drop_eq_getElem_cons hl]; exact List.mem_cons_self))
    rw [List.drop_eq_getElem_cons hl, List.cons_append, nxt_head hx, List.getElem?_eq_getElem hl]
  · have hj := h.full (Nat.le_antisymm h.le hl)
    rw [List.drop_eq_nil_of_le hl, List.drop_eq_nil_of_le (by omega), List.getElem?_eq_none hl]
    rfl
theorem Sk.ins {ps : List (List Ent)} {k : Int} {i j : Nat} (h : Sk ps k i j false) (hR : Ris ps.flatten) (x : Int) : (ps.set i ((ps.getD i []).take j ++ (k, x) :: (ps.getD i []).drop j)).flatten = insE k x ps.flatten := by
  have ha := h.above hR
  have e := h.flat
  rw [set_flat ps i _ h.lt, e, insE_low h.low, insE_high ha]
  simp only [List.append_assoc, List.cons_append]
theorem Sk.upd {ps : List (List Ent)} {k u : Int} {i j : Nat} (h : Sk ps k i j true) (hv : (ps.getD i [])[j]? = some (k, u)) (x : Int) : (ps.set i ((ps.getD i []).set j (k, x))).flatten = insE k x ps.flatten := by
  have e := h.flat
  have hl : j < (ps.getD i []).length := (List.getElem?_eq_some_iff.1 hv).1
  have hd : (ps.getD i []).drop j = (k, u) :: (ps.getD i []).drop (j + 1) := by rw [List.drop_eq_getElem_cons hl, (List.getElem?_eq_some_iff.1 hv).2]
  rw [set_flat ps i _ h.lt, e, insE_low h.low, hd, List.cons_append, insE_head, List.set_eq_take_append_cons_drop, if_pos hl]
  simp only [List.append_assoc, List.cons_append]
theorem Sk.del {ps : List (List Ent)} {k u : Int} {i j : Nat} (h : Sk ps k i j true) (hv : (ps.getD i [])[j]? = some (k, u)) : (ps.set i ((ps.getD i []).take j ++ (ps.getD i []).drop (j + 1))).flatten = delE k ps.flatten := by
  have e := h.flat
  have hl : j < (ps.getD i []).length := (List.getElem?_eq_some_iff.1 hv).1
  have hd : (ps.getD i []).drop j = (k, u) :: (ps.getD i []).drop (j + 1) := by rw [List.drop_eq_getElem_cons hl, (List.getElem?_eq_some_iff.1 hv).2]
  rw [set_flat ps i _ h.lt, e, delE_low h.low, hd, List.cons_append, delE_head]
  simp only [List.append_assoc]
theorem flat_len_ge {α : Type} {ps : List (List α)} (h : ∀ p ∈ ps, p ≠ []) : ps.length ≤ ps.flatten.length := by
  induction ps with
  | nil => exact Nat.le_refl _
  | cons p ps ih =>
    have h1 := List.length_pos_iff.2 (h p (by simp))
    have h2 := ih (fun q hq => h q (by simp [hq]))
    simp only [List.flatten_cons, List.length_append, List.length_cons]
    omega
end Go.Proofs.YtafkammiehcdjaaGreatDoor
/-
  What a checker knows, as mathematics: why an event can't come, and what it does.
-/
namespace Go.Proofs.YtafkammiehcdjaaGreatDoor
structure Gor where
  held : List Ent
  to : Int
  as_ : Int
structure Chn where
  room : Int
  sends : Int
  recvs : Int
  closed : Bool
structure CS where
  taken : Nat
  gs : Int → Option Gor
  alive : List Ent
  locks : Int → Option (Bool × Int)
  chans : Int → Option Chn
  cnt : Int → Int
  once : Int → Bool
  mem : List Ent
/-- An event but for its stack. -/
structure Me where
  g : Int
  k : Int
  o : Int
  a : Int
def setF {α : Type} (f : Int → α) (x : Int) (v : α) : Int → α := fun y => if y = x then v else f y
theorem setF_same {α : Type} (f : Int → α) (x : Int) (v : α) : setF f x v x = v := if_pos rfl
theorem setF_other {α : Type} (f : Int → α) {x y : Int} (v : α) (h : y ≠ x) : setF f x v y = f y := if_neg h
def CS.times (M : CS) (o : Int) : Int := ((M.locks o).map (·.2)).getD 0
def CS.toWrite (M : CS) (o : Int) : Bool := ((M.locks o).map (·.1)).getD false
def has (k : Int) (L : List Ent) : Bool := (look k L).isSome
def Chn.inside (c : Chn) : Int := c.sends - c.recvs
def mzag (n : Int) : Int := if n % 2 = 0 then n / 2 else -(n / 2) - 1
/-- Why the goroutine can have no event now, or not this one. -/
def CS.act (M : CS) (e : Me) : Int :=
  match M.gs e.g with
  | none => 1
  | some r => if has e.g M.alive then if 0 < r.as_ ∧ (e.k ≠ 11 ∨ e.o ≠ r.to) then 3 else 0 else 2
def CS.askLock (M : CS) (e : Me) (r : Gor) : Int :=
  if e.k = 3 then if 0 < M.times e.o then 4 else 0
  else if e.k = 4 then if M.toWrite e.o ∧ has e.o r.held then 0 else 5
  else if e.k = 5 then if M.toWrite e.o then 6 else 0
  else if M.toWrite e.o then 7 else if has e.o r.held then 0 else 7
def CS.askGor (M : CS) (e : Me) : Int :=
  if e.k = 7 then if (M.gs e.a).isSome then 8 else 0
  else match M.gs e.a with
    | none => 9
    | some q => if has e.a M.alive then if e.a = e.g then 11 else if 0 < q.as_ then 12 else 0 else 10
def CS.askChan (M : CS) (e : Me) (r : Gor) : Int :=
  match M.chans e.o with
  | none => if e.k = 9 then 0 else 14
  | some c =>
    if e.k = 9 then 13
    else if e.k = 10 then if c.closed then 15 else if 0 < c.room ∧ c.room ≤ c.inside then 16 else 0
    else if e.k = 11 then if 0 < r.as_ then if c.recvs < r.as_ then 22 else 0 else 21
    else if e.k = 12 then if e.a = 1 then if c.inside = 0 then 17 else 0 else if c.closed then if 0 < c.inside then 19 else 0 else 18
    else if c.closed then 15 else if c.room = 0 ∧ 0 < c.inside then 20 else 0
def CS.askOther (M : CS) (e : Me) : Int :=
  if e.k = 14 then if M.cnt e.o + mzag e.a < 0 ∨ 2147483647 < M.cnt e.o + mzag e.a then 23 else 0
  else if e.k = 15 then if M.cnt e.o = 0 then 0 else 24
  else if e.k = 16 then if e.a = 1 ∧ M.once e.o then 25 else if e.a = 0 ∧ ¬ M.once e.o then 26 else 0
  else if e.k = 20 then match nxt e.o M.mem with
    | none => 0
    | some p => if p.2 ≤ e.o + (e.a - 1) then 27 else 0
  else if e.k = 21 then if nxt (e.o + (e.a - 1)) M.mem = some (e.o + (e.a - 1), e.o) then 0 else 28
  else 0
/-- Why the event's kind forbids it. -/
def CS.ask (M : CS) (e : Me) (r : Gor) : Int :=
  if 3 ≤ e.k ∧ e.k ≤ 6 then M.askLock e r
  else if 7 ≤ e.k ∧ e.k ≤ 8 then M.askGor e
  else if 9 ≤ e.k ∧ e.k ≤ 13 then M.askChan e r
  else M.askOther e
def rdLocks (M : CS) (o n : Int) : Int → Option (Bool × Int) := setF M.locks o (if n = 0 then none else some (false, n))
/-- What the event does. -/
def CS.doo (M : CS) (e : Me) (r : Gor) : CS :=
  if e.k = 3 then { M with locks := setF M.locks e.o (some (true, 1)), gs := setF M.gs e.g (some { r with held := insE e.o 1 r.held }) }
  else if e.k = 4 then { M with locks := setF M.locks e.o none, gs := setF M.gs e.g (some { r with held := delE e.o r.held }) }
  else if e.k = 5 then { M with locks := setF M.locks e.o (some (false, M.times e.o + 1)), gs := setF M.gs e.g (some { r with held := insE e.o ((look e.o r.held).getD 0 + 1) r.held }) }
  else if e.k = 6 then { M with locks := rdLocks M e.o (M.times e.o - 1), gs := setF M.gs e.g (some { r with held := if (look e.o r.held).getD 0 - 1 = 0 then delE e.o r.held else insE e.o ((look e.o r.held).getD 0 - 1) r.held }) }
  else if e.k = 7 then { M with gs := setF M.gs e.a (some ⟨[], 0, 0⟩), alive := insE e.a 0 M.alive }
  else if e.k = 8 then { M with alive := delE e.a M.alive }
  else if e.k = 9 then { M with chans := setF M.chans e.o (some ⟨e.a, 0, 0, false⟩) }
  else if e.k = 10 then match M.chans e.o with
    | none => M
    | some c => { M with chans := setF M.chans e.o (some { c with sends := c.sends + 1 }), gs := if c.room = 0 then setF M.gs e.g (some { r with to := e.o, as_ := c.sends + 1 }) else M.gs }
  else if e.k = 11 then { M with gs := setF M.gs e.g (some { r with to := 0, as_ := 0 }) }
  else if e.k = 12 then match M.chans e.o with
    | none => M
    | some c => { M with chans := setF M.chans e.o (some { c with recvs := c.recvs + e.a }) }
  else if e.k = 13 then match M.chans e.o with
    | none => M
    | some c => { M with chans := setF M.chans e.o (some { c with closed := true }) }
  else if e.k = 14 then { M with cnt := setF M.cnt e.o (M.cnt e.o + mzag e.a) }
  else if e.k = 16 then { M with once := setF M.once e.o true }
  else if e.k = 20 then { M with mem := insE (e.o + (e.a - 1)) e.o M.mem }
  else if e.k = 21 then { M with mem := delE (e.o + (e.a - 1)) M.mem }
  else M
def CS.tick (M : CS) : CS := { M with taken := M.taken + 1 }
/-- The reason; 0, if the event can come. -/
def CS.why (M : CS) (e : Me) : Int :=
  match M.gs e.g with
  | none => 1
  | some r => if M.act e ≠ 0 then M.act e else M.ask e r
def CS.next (M : CS) (e : Me) : CS :=
  match M.gs e.g with
  | none => M
  | some r => (M.doo e r).tick
def CS.new : CS := ⟨0, setF (fun _ => none) 0 (some ⟨[], 0, 0⟩), [(0, 0)], fun _ => none, fun _ => none, fun _ => 0, fun _ => false, []⟩
/-- No number is great. -/
structure CS.ok (M : CS) : Prop where
  tk : M.taken ≤ 1048576
  gor : ∀ g r, M.gs g = some r → (0 ≤ g ∧ g ≤ 65535) ∧ (0 ≤ r.to ∧ r.to ≤ 18446744073709551615) ∧ (0 ≤ r.as_ ∧ r.as_ ≤ 1048576) ∧ r.held.length ≤ M.taken ∧ ∀ p ∈ r.held, 1 ≤ p.2 ∧ p.2 ≤ 1048576
  al : M.alive.length ≤ M.taken + 1
  lk : ∀ o b n, M.locks o = some (b, n) → -1048576 ≤ n ∧ n ≤ 1048576
  ch : ∀ o c, M.chans o = some c → (0 ≤ c.room ∧ c.room ≤ 65536) ∧ (0 ≤ c.sends ∧ c.sends ≤ 1048576) ∧ (0 ≤ c.recvs ∧ c.recvs ≤ 1048576)
  ct : ∀ o, 0 ≤ M.cnt o ∧ M.cnt o ≤ 2147483647
  me : M.mem.length ≤ M.taken
end Go.Proofs.YtafkammiehcdjaaGreatDoor
/-
  What a checker knows, as counts over the events that came: channels, counters, onces.
-/
namespace Go.Proofs.YtafkammiehcdjaaGreatDoor
def nmd (T : List Me) (k x : Int) : Bool := T.any fun e => decide (e.k = k ∧ e.a = x)
def cnA (T : List Me) (k o : Int) : Nat := T.countP fun e => decide (e.k = k ∧ e.o = o)
def cnT (T : List Me) (k o a : Int) : Nat := T.countP fun e => decide (e.k = k ∧ e.o = o ∧ e.a = a)
def cnZ : List Me → Int → Int
  | [], _ => 0
  | e :: T, o => (if e.k = 14 ∧ e.o = o then mzag e.a else 0) + cnZ T o
def roomT : List Me → Int → Option Int
  | [], _ => none
  | e :: T, o => if e.k = 9 ∧ e.o = o then some e.a else roomT T o
/-- What Check asks of an event, as far as it counts here. -/
structure Gdm (e : Me) : Prop where
  g : 0 ≤ e.g ∧ e.g ≤ 65535
  on : e.k = 16 → e.a = 0 ∨ e.a = 1
  rc : e.k = 12 → e.a = 0 ∨ e.a = 1
  al : e.k = 20 → 1 ≤ e.a
/-- A checker behind events that can come. -/
inductive Rch : List Me → CS → Prop
  | new : Rch [] CS.new
  | step {T : List Me} {M : CS} {e : Me} : Rch T M → Gdm e → M.why e = 0 → Rch (T ++ [e]) (M.next e)
section
variable {T : List Me} {M : CS} {e : Me} {r : Gor} {k o a x g : Int}
theorem nmd_snoc : nmd (T ++ [e]) k x = (nmd T k x || decide (e.k = k ∧ e.a = x)) := by
  unfold nmd; simp [List.any_append]
theorem cnA_snoc : cnA (T ++ [e]) k o = cnA T k o + (if e.k = k ∧ e.o = o then 1 else 0) := by
  unfold cnA
  rw [List.countP_append]
  congr 1
  by_cases h : e.k = k ∧ e.o = o
  · rw [if_pos h]; simp [h]
  · rw [if_neg h]; simp [h]
theorem cnT_snoc : cnT (T ++ [e]) k o a = cnT T k o a + (if e.k = k ∧ e.o = o ∧ e.a = a then 1 else 0) := by
  unfold cnT
  rw [List.countP_append]
  congr 1
  by_cases h : e.k = k ∧ e.o = o ∧ e.a = a
  · rw [if_pos h]; simp [h]
  · rw [if_neg h]; simp [h]
theorem cnZ_snoc : cnZ (T ++ [e]) o = cnZ T o + (if e.k = 14 ∧ e.o = o then mzag e.a else 0) := by
  induction T with
  | nil => simp [cnZ]
  | cons x T ih => rw [List.cons_append, cnZ, cnZ, ih]; omega
theorem roomT_snoc : roomT (T ++ [e]) o = match roomT T o with
    | some r => some r
    | none => if e.k = 9 ∧ e.o = o then some e.a else none := by
  induction T with
  | nil => simp [roomT]
  | cons x T ih =>
    rw [List.cons_append, roomT, roomT]
    by_cases h : x.k = 9 ∧ x.o = o
    · rw [if_pos h, if_pos h]
    · rw [if_neg h, if_neg h, ih]
/-- An event that can come. -/
structure Can (M : CS) (e : Me) (r : Gor) : Prop where
  gs : M.gs e.g = some r
  al : has e.g M.alive = true
  du : 0 < r.as_ → e.k = 11 ∧ e.o = r.to
  ask : M.ask e r = 0
  nx : M.next e = (M.doo e r).tick
theorem why_can (h : M.why e = 0) : ∃ r, Can M e r := by
  unfold CS.why at h
  cases hg : M.gs e.g with
  | none => rw [hg] at h; simp at h
  | some r =>
    rw [hg] at h
    simp only at h
    have h0 : M.act e = 0 := by
      by_cases h0 : M.act e = 0
      · exact h0
      · rw [if_pos h0] at h; exact h
    rw [if_neg (by simp [h0])] at h
    unfold CS.act at h0
    rw [hg] at h0
    simp only at h0
    by_cases ha : has e.g M.alive = true
    · rw [if_pos ha] at h0
      refine ⟨r, hg, ha, fun h1 => ?_, h, ?_⟩
      · by_cases h2 : e.k ≠ 11 ∨ e.o ≠ r.to
        · rw [if_pos ⟨h1, h2⟩] at h0; simp at h0
        · omega
      · unfold CS.next; rw [hg]
    · rw [if_neg ha] at h0; simp at h0
theorem doo_cnt : (M.doo e r).tick.cnt = if e.k = 14 then setF M.cnt e.o (M.cnt e.o + mzag e.a) else M.cnt := by
  show (M.doo e r).cnt = _
  unfold CS.doo
  by_cases h3 : e.k = 3
  · simp [h3]
  by_cases h4 : e.k = 4
  · simp [h4]
  by_cases h5 : e.k = 5
  · simp [h5]
  by_cases h6 : e.k = 6
  · simp [h6]
  by_cases h7 : e.k = 7
  · simp [h7]
  by_cases h8 : e.k = 8
  · simp [h8]
  by_cases h9 : e.k = 9
  · simp [h9]
  by_cases h10 : e.k = 10
  · cases hc : M.chans e.o <;> simp [h10]
  by_cases h11 : e.k = 11
  · simp [h11]
  by_cases h12 : e.k = 12
  · cases hc : M.chans e.o <;> simp [h12]
  by_cases h13 : e.k = 13
  · cases hc : M.chans e.o <;> simp [h13]
  by_cases h14 : e.k = 14
  · simp [h14]
  by_cases h16 : e.k = 16
  · simp [h16]
  by_cases h20 : e.k = 20
  · simp [h20]
  by_cases h21 : e.k = 21
  · simp [h21]
  simp [h3, h4, h5, h6, h7, h8, h9, h10, h11, h12, h13, h14, h16, h20, h21]
theorem doo_once : (M.doo e r).tick.once = if e.k = 16 then setF M.once e.o true else M.once := by
  show (M.doo e r).once = _
  unfold CS.doo
  by_cases h3 : e.k = 3
  · simp [h3]
  by_cases h4 : e.k = 4
  · simp [h4]
  by_cases h5 : e.k = 5
  · simp [h5]
  by_cases h6 : e.k = 6
  · simp [h6]
  by_cases h7 : e.k = 7
  · simp [h7]
  by_cases h8 : e.k = 8
  · simp [h8]
  by_cases h9 : e.k = 9
  · simp [h9]
  by_cases h10 : e.k = 10
  · cases hc : M.chans e.o <;> simp [h10]
  by_cases h11 : e.k = 11
  · simp [h11]
  by_cases h12 : e.k = 12
  · cases hc : M.chans e.o <;> simp [h12]
  by_cases h13 : e.k = 13
  · cases hc : M.chans e.o <;> simp [h13]
  by_cases h14 : e.k = 14
  · simp [h14]
  by_cases h16 : e.k = 16
  · simp [h16]
  by_cases h20 : e.k = 20
  · simp [h20]
  by_cases h21 : e.k = 21
  · simp [h21]
  simp [h3, h4, h5, h6, h7, h8, h9, h10, h11, h12, h13, h14, h16, h20, h21]
def chNext (M : CS) (e : Me) : Int → Option Chn :=
  if e.k = 9 then setF M.chans e.o (some ⟨e.a, 0, 0, false⟩)
  else match M.chans e.o with
    | none => M.chans
    | some c => if e.k = 10 then setF M.chans e.o (some { c with sends := c.sends + 1 }) else if e.k = 12 then setF M.chans e.o (some { c with recvs := c.recvs + e.a }) else if e.k = 13 then setF M.chans e.o (some { c with closed := true }) else M.chans
theorem doo_chans : (M.doo e r).tick.chans = chNext M e := by
  show (M.doo e r).chans = _
  unfold CS.doo chNext
  by_cases h3 : e.k = 3
  · cases hc : M.chans e.o <;> simp [h3]
  by_cases h4 : e.k = 4
  · cases hc : M.chans e.o <;> simp [h4]
  by_cases h5 : e.k = 5
  · cases hc : M.chans e.o <;> simp [h5]
  by_cases h6 : e.k = 6
  · cases hc : M.chans e.o <;> simp [h6]
  by_cases h7 : e.k = 7
  · cases hc : M.chans e.o <;> simp [h7]
  by_cases h8 : e.k = 8
  · cases hc : M.chans e.o <;> simp [h8]
  by_cases h9 : e.k = 9
  · simp [h9]
  by_cases h10 : e.k = 10
  · cases hc : M.chans e.o <;> simp [h10]
  by_cases h11 : e.k = 11
  · cases hc : M.chans e.o <;> simp [h11]
  by_cases h12 : e.k = 12
  · cases hc : M.chans e.o <;> simp [h12]
  by_cases h13 : e.k = 13
  · cases hc : M.chans e.o <;> simp [h13]
  by_cases h14 : e.k = 14
  · cases hc : M.chans e.o <;> simp [h14]
  by_cases h16 : e.k = 16
  · cases hc : M.chans e.o <;> simp [h16]
  by_cases h20 : e.k = 20
  · cases hc : M.chans e.o <;> simp [h20]
  by_cases h21 : e.k = 21
  · cases hc : M.chans e.o <;> simp [h21]
  cases hc : M.chans e.o <;> simp [h3, h4, h5, h6, h7, h8, h9, h10, h11, h12, h13, h14, h16, h20, h21]
/-- Wait groups and onces. -/
structure LkO (T : List Me) (M : CS) : Prop where
  ct : ∀ o, M.cnt o = cnZ T o
  on : ∀ o, M.once o = decide (0 < cnT T 16 o 1)
theorem LkO.new : LkO [] CS.new := ⟨fun _ => rfl, fun _ => rfl⟩
theorem ask_once (h : M.ask e r = 0) (hk : e.k = 16) : ¬ (e.a = 1 ∧ M.once e.o = true) ∧ ¬ (e.a = 0 ∧ ¬ M.once e.o = true) := by
  unfold CS.ask CS.askOther at h
  simp [hk] at h
  by_cases h1 : e.a = 1 ∧ M.once e.o = true
  · rw [if_pos h1] at h; simp at h
  · rw [if_neg h1] at h
    refine ⟨h1, fun h2 => ?_⟩
    rw [if_pos (by simpa using h2)] at h
    simp at h
theorem LkO.step (h : LkO T M) (hg : Gdm e) (hc : Can M e r) : LkO (T ++ [e]) (M.next e) := by
  rw [hc.nx]
  refine ⟨fun o => ?_, fun o => ?_⟩
  · rw [doo_cnt, cnZ_snoc]
    by_cases hk : e.k = 14
    · rw [if_pos hk]
      by_cases ho : e.o = o
      · subst ho; rw [setF_same, if_pos ⟨hk, rfl⟩, h.ct]
      · rw [setF_other _ _ (fun e9 => ho e9.symm), if_neg (fun e9 => ho e9.2), h.ct]; omega
    · rw [if_neg hk, if_neg (fun e9 => hk e9.1), h.ct]; omega
  · rw [doo_once, cnT_snoc]
    by_cases hk : e.k = 16
    · rw [if_pos hk]
      have hq := ask_once hc.ask hk
      by_cases ho : e.o = o
      · subst ho
        rw [setF_same]
        rcases hg.on hk with ha | ha
        · have h1 : M.once e.o = true := by
            cases h9 : M.once e.o with
            | true => rfl
            | false => exact absurd ⟨ha, by rw [h9]; decide⟩ hq.2
          rw [if_neg (by omega), Nat.add_zero, ← h.on, h1]
        · rw [if_pos ⟨hk, rfl, ha⟩]; simp
      · rw [setF_other _ _ (fun e9 => ho e9.symm), if_neg (fun e9 => ho e9.2.1), h.on]; rfl
    · rw [if_neg hk, if_neg (fun e9 => hk e9.1), h.on]; rfl
/-- Channels. -/
structure LkC (T : List Me) (M : CS) : Prop where
  ch : ∀ o, M.chans o = (roomT T o).map fun c => ⟨c, (cnA T 10 o : Int), (cnT T 12 o 1 : Int), decide (0 < cnA T 13 o)⟩
  no : ∀ o, roomT T o = none → cnA T 10 o = 0 ∧ cnT T 12 o 1 = 0 ∧ cnA T 13 o = 0
theorem LkC.new : LkC [] CS.new := ⟨fun _ => rfl, fun _ _ => ⟨rfl, rfl, rfl⟩⟩
theorem ask_chan (h : M.ask e r = 0) (h1 : 9 ≤ e.k) (h2 : e.k ≤ 13) : e.k = 9 ↔ M.chans e.o = none := by
  unfold CS.ask CS.askChan at h
  rw [if_neg (by omega), if_neg (by omega), if_pos ⟨h1, h2⟩] at h
  cases hc : M.chans e.o with
  | none =>
    rw [hc] at h
    simp only at h
    by_cases hk : e.k = 9
    · exact ⟨fun _ => rfl, fun _ => hk⟩
    · rw [if_neg hk] at h; simp at h
  | some c =>
    rw [hc] at h
    simp only at h
    refine ⟨fun hk => ?_, fun e9 => by cases e9⟩
    rw [if_pos hk] at h
    simp at h
theorem LkC.step (h : LkC T M) (hg : Gdm e) (hc : Can M e r) : LkC (T ++ [e]) (M.next e) := by
  rw [hc.nx]
  have hq : 9 ≤ e.k → e.k ≤ 13 → (e.k = 9 ↔ roomT T e.o = none) := fun h1 h2 => by
    rw [ask_chan hc.ask h1 h2, h.ch]; simp
  refine ⟨fun o => ?_, fun o hr => ?_⟩
  · rw [doo_chans, roomT_snoc, cnA_snoc, cnT_snoc, cnA_snoc]
    unfold chNext
    by_cases ho : e.o = o
    · subst ho
      by_cases h9 : e.k = 9
      · have hn := (hq (by omega) (by omega)).1 h9
        obtain ⟨n1, n2, n3⟩ := h.no _ hn
        rw [if_pos h9, setF_same, hn]
        simp [h9, n1, n2, n3]
      · rw [if_neg h9, h.ch]
        cases hr : roomT T e.o with
        | none =>
          have hk : ¬ (9 ≤ e.k ∧ e.k ≤ 13) := fun hk => h9 ((hq hk.1 hk.2).2 hr)
          simp [h9, h.ch, hr]
        | some c =>
          simp only [Option.map_some]
          by_cases h10 : e.k = 10
          · rw [if_pos h10, setF_same]; simp [h10]
          · rw [if_neg h10]
            by_cases h12 : e.k = 12
            · rw [if_pos h12, setF_same]
              rcases hg.rc h12 with ha | ha <;> simp [h12, ha]
            · rw [if_neg h12]
              by_cases h13 : e.k = 13
              · rw [if_pos h13, setF_same]; simp [h13]
              · rw [if_neg h13, h.ch, hr]; simp [h10, h12, h13]
    · have ho2 : o ≠ e.o := fun e9 => ho e9.symm
      have e1 : (if e.k = 9 then setF M.chans e.o (some ⟨e.a, 0, 0, false⟩) else match M.chans e.o with
        | none => M.chans
        | some c => if e.k = 10 then setF M.chans e.o (some { c with sends := c.sends + 1 }) else if e.k = 12 then setF M.chans e.o (some { c with recvs := c.recvs + e.a }) else if e.k = 13 then setF M.chans e.o (some { c with closed := true }) else M.chans) o = M.chans o := by
        cases M.chans e.o with
        | none =>
          simp only
          split
          · exact setF_other _ _ ho2
          · rfl
        | some c =>
          simp only
          repeat' split
          all_goals first | rfl | exact setF_other _ _ ho2
      rw [e1, h.ch]
      cases hr : roomT T o with
      | none => simp [ho]
      | some c => simp [ho]
  · rw [roomT_snoc] at hr
    cases hr2 : roomT T o with
    | some c => rw [hr2] at hr; cases hr
    | none =>
      rw [hr2] at hr
      simp only at hr
      obtain ⟨n1, n2, n3⟩ := h.no _ hr2
      have h9 : ¬ (e.k = 9 ∧ e.o = o) := fun e9 => by rw [if_pos e9] at hr; cases hr
      have hk : ∀ q : Int, 10 ≤ q → q ≤ 13 → e.k = q → e.o ≠ o := fun q q1 q2 q3 q4 => by
        subst q4
        exact h9 ⟨(hq (by omega) (by omega)).2 hr2, rfl⟩
      rw [cnA_snoc, cnT_snoc, cnA_snoc, n1, n2, n3]
      refine ⟨?_, ?_, ?_⟩
      · rw [if_neg (fun e9 => hk 10 (by omega) (by omega) e9.1 e9.2)]
      · rw [if_neg (fun e9 => hk 12 (by omega) (by omega) e9.1 e9.2.1)]
      · rw [if_neg (fun e9 => hk 13 (by omega) (by omega) e9.1 e9.2)]
theorem Rch.lkO (h : Rch T M) : LkO T M := by
  induction h with
  | new => exact LkO.new
  | step _ hg hw ih => obtain ⟨r, hc⟩ := why_can hw; exact ih.step hg hc
theorem Rch.lkC (h : Rch T M) : LkC T M := by
  induction h with
  | new => exact LkC.new
  | step _ hg hw ih => obtain ⟨r, hc⟩ := why_can hw; exact ih.step hg hc
end
end Go.Proofs.YtafkammiehcdjaaGreatDoor
