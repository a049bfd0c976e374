/-
  Entries by rising keys, as mathematics.
-/
namespace Go.Proofs.YtafkammiehcdjaaGreatDoor
abbrev Ent := Int × Int
def Ris (L : List Ent) : Prop := L.Pairwise (fun a b => a.1 < b.1)
/-- A key's value. -/
def look (k : Int) : List Ent → Option Int
  | [] => none
  | p :: L => if p.1 = k then some p.2 else look k L
/-- The first entry whose key is no lower. -/
def nxt (k : Int) : List Ent → Option Ent
  | [] => none
  | p :: L => if p.1 < k then nxt k L else some p
/-- A key is given a value. -/
def insE (k v : Int) : List Ent → List Ent
  | [] => [(k, v)]
  | p :: L => if p.1 < k then p :: insE k v L else if p.1 = k then (k, v) :: L else (k, v) :: p :: L
/-- A key is taken out. -/
def delE (k : Int) : List Ent → List Ent
  | [] => []
  | p :: L => if p.1 = k then L else p :: delE k L
theorem look_low {k : Int} {X : List Ent} (hX : ∀ e ∈ X, e.1 < k) (Y : List Ent) : look k (X ++ Y) = look k Y := by
  induction X with
  | nil => rfl
  | cons p X ih =>
    have h1 := hX p (by simp)
    show (if p.1 = k then some p.2 else look k (X ++ Y)) = _
    rw [if_neg (by omega), ih (fun e he => hX e (by simp [he]))]
theorem look_high {k : Int} {Y : List Ent} (hY : ∀ e ∈ Y, k < e.1) : look k Y = none := by
  induction Y with
  | nil => rfl
  | cons p X ih =>
    have h1 := hY p (by simp)
    unfold look
    rw [if_neg (by omega), ih (fun e he => hY e (by simp [he]))]
theorem look_head (k v : Int) (Y : List Ent) : look k ((k, v) :: Y) = some v := by unfold look; rw [if_pos rfl]
theorem nxt_low {k : Int} {X : List Ent} (hX : ∀ e ∈ X, e.1 < k) (Y : List Ent) : nxt k (X ++ Y) = nxt k Y := by
  induction X with
  | nil => rfl
  | cons p X ih =>
    have h1 := hX p (by simp)
    show (if p.1 < k then nxt k (X ++ Y) else some p) = _
    rw [if_pos h1, ih (fun e he => hX e (by simp [he]))]
theorem nxt_head {k : Int} {p : Ent} (h : k ≤ p.1) (Y : List Ent) : nxt k (p :: Y) = some p := by unfold nxt; rw [if_neg (by omega)]
theorem insE_low {k v : Int} {X : List Ent} (hX : ∀ e ∈ X, e.1 < k) (Y : List Ent) : insE k v (X ++ Y) = X ++ insE k v Y := by
  induction X with
  | nil => rfl
  | cons p X ih =>
    have h1 := hX p (by simp)
    show (if p.1 < k then p :: insE k v (X ++ Y) else _) = _
    rw [if_pos h1, ih (fun e he => hX e (by simp [he]))]
    rfl
theorem insE_high {k v : Int} {Y : List Ent} (hY : ∀ e ∈ Y, k < e.1) : insE k v Y = (k, v) :: Y := by
  cases Y with
  | nil => rfl
  | cons p X =>
    have h1 := hY p (by simp)
    unfold insE
    rw [if_neg (by omega), if_neg (by omega)]
theorem insE_head (k u v : Int) (Y : List Ent) : insE k v ((k, u) :: Y) = (k, v) :: Y := by
  unfold insE
  rw [if_neg (Int.lt_irrefl k), if_pos rfl]
theorem delE_low {k : Int} {X : List Ent} (hX : ∀ e ∈ X, e.1 < k) (Y : List Ent) : delE k (X ++ Y) = X ++ delE k Y := by
  induction X with
  | nil => rfl
  | cons p X ih =>
    have h1 := hX p (by simp)
    show (if p.1 = k then X ++ Y else p :: delE k (X ++ Y)) = _
    rw [if_neg (by omega), ih (fun e he => hX e (by simp [he]))]
    rfl
theorem delE_head (k u : Int) (Y : List Ent) : delE k ((k, u) :: Y) = Y := by unfold delE; rw [if_pos rfl]
theorem Ris.tail {p : Ent} {L : List Ent} (h : Ris (p :: L)) : Ris L := (List.pairwise_cons.1 h).2
theorem Ris.head {p : Ent} {L : List Ent} (h : Ris (p :: L)) : ∀ e ∈ L, p.1 < e.1 := (List.pairwise_cons.1 h).1
theorem insE_mem {k v : Int} {L : List Ent} : ∀ e ∈ insE k v L, e = (k, v) ∨ e ∈ L := by
  induction L with
  | nil => intro e he; simp [insE] at he; exact .inl he
  | cons p L ih =>
    intro e he
    unfold insE at he
    split at he
    · rcases List.mem_cons.1 he with rfl | he
      · exact .inr (by simp)
      · rcases ih e he with h | h
        · exact .inl h
        · exact .inr (by simp [h])
    · split at he
      · rcases List.mem_cons.1 he with rfl | he
        · exact .inl rfl
        · exact .inr (by simp [he])
      · rcases List.mem_cons.1 he with rfl | he
        · exact .inl rfl
        · exact .inr he
theorem Ris.ins {L : List Ent} (h : Ris L) (k v : Int) : Ris (insE k v L) := by
  induction L with
  | nil => exact List.pairwise_singleton _ _
  | cons p L ih =>
    unfold insE
    split
    · rename_i h1
      refine List.pairwise_cons.2 ⟨fun e he => ?_, ih h.tail⟩
      rcases insE_mem e he with rfl | he
      · exact h1
      · exact h.head e he
    · split
      · rename_i h2
        refine List.pairwise_cons.2 ⟨fun e he => ?_, h.tail⟩
        have := h.head e he
        show k < e.1
        omega
      · refine List.pairwise_cons.2 ⟨fun e he => ?_, h⟩
        show k < e.1
        rcases List.mem_cons.1 he with rfl | he
        · omega
        · have := h.head e he
          omega
theorem delE_sub (k : Int) (L : List Ent) : (delE k L).Sublist L := by
  induction L with
  | nil => exact List.Sublist.refl _
  | cons p L ih =>
    unfold delE
    split
    · exact List.sublist_cons_self _ _
    · exact ih.cons_cons _
theorem Ris.del {L : List Ent} (h : Ris L) (k : Int) : Ris (delE k L) := List.Pairwise.sublist (delE_sub k L) h
theorem look_insE (k v x : Int) (L : List Ent) : look x (insE k v L) = if x = k then some v else look x L := by
  induction L with
  | nil => show (if k = x then some v else none) = _; by_cases h : x = k <;> simp [h, look]; intro e; exact absurd e.symm h
  | cons p L ih =>
    unfold insE
    split
    · rename_i h1
      show (if p.1 = x then some p.2 else look x (insE k v L)) = _
      by_cases hx : x = k
      · subst hx
        rw [if_neg (by omega), ih, if_pos rfl, if_pos rfl]
      · rw [ih, if_neg hx, if_neg hx]; rfl
    · split
      · rename_i h2
        show (if k = x then some v else look x L) = if x = k then some v else if p.1 = x then some p.2 else look x L
        by_cases hx : x = k
        · subst hx; rw [if_pos rfl, if_pos rfl]
        · rw [if_neg (fun e => hx e.symm), if_neg hx, if_neg (by omega)]
      · show (if k = x then some v else look x (p :: L)) = _
        by_cases hx : x = k
        · subst hx; rw [if_pos rfl]
        · rw [if_neg (fun e => hx e.symm), if_neg hx]
theorem look_mem {x v : Int} {L : List Ent} (h : look x L = some v) : (x, v) ∈ L := by
  induction L with
  | nil => cases h
  | cons p L ih =>
    unfold look at h
    split at h
    · rename_i h1
      obtain ⟨a, b⟩ := p
      simp at h1 h
      subst h1; subst h
      simp
    · exact List.mem_cons_of_mem _ (ih h)
theorem look_of_mem {x v : Int} {L : List Ent} (hL : Ris L) (h : (x, v) ∈ L) : look x L = some v := by
  induction L with
  | nil => cases h
  | cons p L ih =>
    unfold look
    rcases List.mem_cons.1 h with rfl | h
    · rw [if_pos rfl]
    · have := hL.head _ h
      rw [if_neg (by show ¬ p.1 = x; have h9 : p.1 < x := this; omega)]
      exact ih hL.tail h
theorem look_delE {L : List Ent} (hL : Ris L) (k x : Int) : look x (delE k L) = if x = k then none else look x L := by
  induction L with
  | nil => show none = _; split <;> rfl
  | cons p L ih =>
    unfold delE
    split
    · rename_i h1
      by_cases hx : x = k
      · rw [if_pos hx]
        exact look_high (fun e he => by have := hL.head e he; omega)
      · rw [if_neg hx]
        show _ = if p.1 = x then some p.2 else look x L
        rw [if_neg (by omega)]
    · rename_i h1
      show (if p.1 = x then some p.2 else look x (delE k L)) = if x = k then none else if p.1 = x then some p.2 else look x L
      rw [ih hL.tail]
      by_cases hx : x = k
      · rw [if_neg (by omega), if_pos hx, if_pos hx]
      · rw [if_neg hx, if_neg hx]
/-- Two lists by rising keys that tell the same are one. -/
theorem ris_ext {L M : List Ent} (hL : Ris L) (hM : Ris M) (h : ∀ x, look x L = look x M) : L = M := by
  induction L generalizing M with
  | nil =>
    cases M with
    | nil => rfl
    | cons q M =>
      have := h q.1
      unfold look at this
      rw [if_pos rfl] at this
      cases this
  | cons p L ih =>
    cases M with
    | nil =>
      have := h p.1
      unfold look at this
      rw [if_pos rfl] at this
      cases this
    | cons q M =>
      have e : p = q := by
        have h1 := look_mem ((h p.1).symm.trans (by unfold look; rw [if_pos rfl]))
        have h2 := look_mem ((h q.1).trans (by unfold look; rw [if_pos rfl]))
        rcases List.mem_cons.1 h1 with h1 | h1
        · exact h1
        · rcases List.mem_cons.1 h2 with h2 | h2
          · exact h2.symm
          · have a := hM.head _ h1
            have b := hL.head _ h2
            simp at a b
            omega
      subst e
      congr 1
      refine ih hL.tail hM.tail (fun x => ?_)
      by_cases hx : x = p.1
      · subst hx
        rw [look_high hL.head, look_high hM.head]
      · have := h x
        unfold look at this
        rwa [if_neg (fun e => hx e.symm), if_neg (fun e => hx e.symm)] at this
theorem delE_insE {L : List Ent} (hL : Ris L) (k v : Int) : delE k (insE k v L) = delE k L := by
  refine ris_ext ((hL.ins k v).del k) (hL.del k) (fun x => ?_)
  rw [look_delE (hL.ins k v), look_delE hL, look_insE]
  split <;> rfl
theorem insE_len (k v : Int) (L : List Ent) : (insE k v L).length ≤ L.length + 1 := by
  induction L with
  | nil => exact Nat.le_refl _
  | cons p L ih =>
    unfold insE
    split
    · simp; exact ih
    · split <;> simp
theorem delE_len (k : Int) (L : List Ent) : (delE k L).length ≤ L.length := (delE_sub k L).length_le
theorem nxt_mem {k : Int} {p : Ent} {L : List Ent} (h : nxt k L = some p) : p ∈ L ∧ k ≤ p.1 := by
  induction L with
  | nil => cases h
  | cons q L ih =>
    unfold nxt at h
    split at h
    · exact ⟨List.mem_cons_of_mem _ (ih h).1, (ih h).2⟩
    · cases h; exact ⟨by simp, by omega⟩
theorem nxt_least {k : Int} {p : Ent} {L : List Ent} (hL : Ris L) (h : nxt k L = some p) : ∀ q ∈ L, k ≤ q.1 → p = q ∨ p.1 < q.1 := by
  induction L with
  | nil => cases h
  | cons q L ih =>
    unfold nxt at h
    split at h
    · rename_i h1
      intro r hr hk
      rcases List.mem_cons.1 hr with rfl | hr
      · omega
      · exact ih hL.tail h r hr hk
    · cases h
      intro r hr hk
      rcases List.mem_cons.1 hr with rfl | hr
      · exact .inl rfl
      · exact .inr (hL.head r hr)
theorem nxt_none {k : Int} {L : List Ent} (h : nxt k L = none) : ∀ q ∈ L, q.1 < k := by
  induction L with
  | nil => intro q hq; cases hq
  | cons q L ih =>
    unfold nxt at h
    split at h
    · rename_i h1
      intro r hr
      rcases List.mem_cons.1 hr with rfl | hr
      · exact h1
      · exact ih h r hr
    · cases h
/-- Where a key lies, or would: in which piece, and where in it. -/
structure Sk (ps : List (List Ent)) (k : Int) (i j : Nat) (is : Bool) : Prop where
  lt : i < ps.length
  le : j ≤ (ps.getD i []).length
  low : ∀ e ∈ (ps.take i).flatten ++ (ps.getD i []).take j, e.1 < k
  high : ∀ e ∈ (ps.getD i []).drop j ++ (ps.drop (i + 1)).flatten, k ≤ e.1
  is : is = true ↔ ∃ v, (ps.getD i [])[j]? = some (k, v)
  full : j = (ps.getD i []).length → i + 1 = ps.length
theorem split_flat (ps : List (List Ent)) (i j : Nat) (hi : i < ps.length) : ps.flatten = ((ps.take i).flatten ++ (ps.getD i []).take j) ++ ((ps.getD i []).drop j ++ (ps.drop (i + 1)).flatten) := by
  have e : ps = ps.take i ++ ps.getD i [] :: ps.drop (i + 1) := by
    conv => lhs; rw [← List.take_append_drop i ps]
    rw [List.drop_eq_getElem_cons hi]
    simp [List.getD, List.getElem?_eq_getElem hi]
  conv => lhs; rw [e]
  rw [List.flatten_append, List.flatten_cons]
  conv => lhs; rw [← List.take_append_drop j (ps.getD i [])]
  simp only [List.append_assoc]
theorem set_flat (ps : List (List Ent)) (i : Nat) (q : List Ent) (hi : i < ps.length) : (ps.set i q).flatten = (ps.take i).flatten ++ (q ++ (ps.drop (i + 1)).flatten) := by
  rw [List.set_eq_take_append_cons_drop, if_pos hi, List.flatten_append, List.flatten_cons]
theorem Sk.flat {ps : List (List Ent)} {k : Int} {i j : Nat} {is : Bool} (h : Sk ps k i j is) : ps.flatten = ((ps.take i).flatten ++ (ps.getD i []).take j) ++ ((ps.getD i []).drop j ++ (ps.drop (i + 1)).flatten) := split_flat ps i j h.lt
/-- Above the key, if the key is not there. -/
theorem Sk.above {ps : List (List Ent)} {k : Int} {i j : Nat} (h : Sk ps k i j false) (hR : Ris ps.flatten) : ∀ e ∈ (ps.getD i []).drop j ++ (ps.drop (i + 1)).flatten, k < e.1 := by
  intro e he
  have h1 := h.high e he
  rcases Int.lt_or_eq_of_le h1 with h2 | h2
  · exact h2
  · exfalso
    rw [h.flat] at hR
    have hR2 : Ris ((ps.getD i []).drop j ++ (ps.drop (i + 1)).flatten) := (List.pairwise_append.1 hR).2.1
    cases hd : (ps.getD i []).drop j with
    | nil =>
      have hj := h.full (Nat.le_antisymm h.le (List.drop_eq_nil_iff.1 hd))
      rw [hd, List.drop_eq_nil_of_le (by omega)] at he
      cases he
    | cons p r =>
      rw [hd] at he hR2
      have hp : (ps.getD i [])[j]? = some p := by
        have := congrArg (fun l => l[0]?) hd
        simpa [List.getElem?_drop] using this
      have hge := h.high p (by rw [hd]; simp)
      rcases List.mem_cons.1 he with rfl | he
      · have := h.is.2 ⟨e.2, by rw [hp, h2]⟩
        cases this
      · have := hR2.head e he
        omega
theorem Sk.yes {ps : List (List Ent)} {k : Int} {i j : Nat} {v : Int} (h : Sk ps k i j true) (hv : (ps.getD i [])[j]? = some (k, v)) : look k ps.flatten = some v := by
  rw [h.flat, look_low h.low]
  have hl : j < (ps.getD i []).length := (List.getElem?_eq_some_iff.1 hv).1
  rw [List.drop_eq_getElem_cons hl, (List.getElem?_eq_some_iff.1 hv).2]
  exact look_head _ _ _
theorem Sk.no {ps : List (List Ent)} {k : Int} {i j : Nat} (h : Sk ps k i j false) (hR : Ris ps.flatten) : look k ps.flatten = none := by
  have ha := h.above hR
  rw [h.flat, look_low h.low]
  exact look_high ha
theorem Sk.look {ps : List (List Ent)} {k : Int} {i j : Nat} {is : Bool} (h : Sk ps k i j is) (hR : Ris ps.flatten) : is = (look k ps.flatten).isSome := by
  cases is with
  | true => obtain ⟨v, hv⟩ := h.is.1 rfl; rw [h.yes hv]; rfl
  | false => rw [h.no hR]; rfl
theorem Sk.nxt {ps : List (List Ent)} {k : Int} {i j : Nat} {is : Bool} (h : Sk ps k i j is) : nxt k ps.flatten = (ps.getD i [])[j]? := by
  rw [h.flat, nxt_low h.low]
  rcases Nat.lt_or_ge j (ps.getD i []).length with hl | hl
  · have hx := h.high ((ps.getD i [])[j]) (List.mem_append_left _ (by rw [List.drop_eq_getElem_cons hl]; exact List.mem_cons_self))
    rw [List.drop_eq_getElem_cons hl, List.cons_append, nxt_head hx, List.getElem?_eq_getElem hl]
  · have hj := h.full (Nat.le_antisymm h.le hl)
    rw [List.drop_eq_nil_of_le hl, List.drop_eq_nil_of_le (by omega), List.getElem?_eq_none hl]
    rfl
theorem Sk.ins {ps : List (List Ent)} {k : Int} {i j : Nat} (h : Sk ps k i j false) (hR : Ris ps.flatten) (x : Int) : (ps.set i ((ps.getD i []).take j ++ (k, x) :: (ps.getD i []).drop j)).flatten = insE k x ps.flatten := by
  have ha := h.above hR
  have e := h.flat
  rw [set_flat ps i _ h.lt, e, insE_low h.low, insE_high ha]
  simp only [List.append_assoc, List.cons_append]
theorem Sk.upd {ps : List (List Ent)} {k u : Int} {i j : Nat} (h : Sk ps k i j true) (hv : (ps.getD i [])[j]? = some (k, u)) (x : Int) : (ps.set i ((ps.getD i []).set j (k, x))).flatten = insE k x ps.flatten := by
  have e := h.flat
  have hl : j < (ps.getD i []).length := (List.getElem?_eq_some_iff.1 hv).1
  have hd : (ps.getD i []).drop j = (k, u) :: (ps.getD i []).drop (j + 1) := by rw [List.drop_eq_getElem_cons hl, (List.getElem?_eq_some_iff.1 hv).2]
  rw [set_flat ps i _ h.lt, e, insE_low h.low, hd, List.cons_append, insE_head, List.set_eq_take_append_cons_drop, if_pos hl]
  simp only [List.append_assoc, List.cons_append]
theorem Sk.del {ps : List (List Ent)} {k u : Int} {i j : Nat} (h : Sk ps k i j true) (hv : (ps.getD i [])[j]? = some (k, u)) : (ps.set i ((ps.getD i []).take j ++ (ps.getD i []).drop (j + 1))).flatten = delE k ps.flatten := by
  have e := h.flat
  have hl : j < (ps.getD i []).length := (List.getElem?_eq_some_iff.1 hv).1
  have hd : (ps.getD i []).drop j = (k, u) :: (ps.getD i []).drop (j + 1) := by rw [List.drop_eq_getElem_cons hl, (List.getElem?_eq_some_iff.1 hv).2]
  rw [set_flat ps i _ h.lt, e, delE_low h.low, hd, List.cons_append, delE_head]
  simp only [List.append_assoc]
theorem flat_len_ge {α : Type} {ps : List (List α)} (h : ∀ p ∈ ps, p ≠ []) : ps.length ≤ ps.flatten.length := by
  induction ps with
  | nil => exact Nat.le_refl _
  | cons p ps ih =>
    have h1 := List.length_pos_iff.2 (h p (by simp))
    have h2 := ih (fun q hq => h q (by simp [hq]))
    simp only [List.flatten_cons, List.length_append, List.length_cons]
    omega
end Go.Proofs.YtafkammiehcdjaaGreatDoor
/-
  What a checker knows, as mathematics: why an event can't come, and what it does.
-/
namespace Go.Proofs.YtafkammiehcdjaaGreatDoor
structure Gor where
  held : List Ent
  to : Int
  as_ : Int
structure Chn where
  room : Int
  sends : Int
  recvs : Int
  closed : Bool
structure CS where
  taken : Nat
  gs : Int → Option Gor
  alive : List Ent
  locks : Int → Option (Bool × Int)
  chans : Int → Option Chn
  cnt : Int → Int
  once : Int → Bool
  mem : List Ent
/-- An event but for its stack. -/
structure Me where
  g : Int
  k : Int
  o : Int
  a : Int
def setF {α : Type} (f : Int → α) (x : Int) (v : α) : Int → α := fun y => if y = x then v else f y
theorem setF_same {α : Type} (f : Int → α) (x : Int) (v : α) : setF f x v x = v := if_pos rfl
theorem setF_other {α : Type} (f : Int → α) {x y : Int} (v : α) (h : y ≠ x) : setF f x v y = f y := if_neg h
def CS.times (M : CS) (o : Int) : Int := ((M.locks o).map (·.2)).getD 0
def CS.toWrite (M : CS) (o : Int) : Bool := ((M.locks o).map (·.1)).getD false
def has (k : Int) (L : List Ent) : Bool := (look k L).isSome
def Chn.inside (c : Chn) : Int := c.sends - c.recvs
def mzag (n : Int) : Int := if n % 2 = 0 then n / 2 else -(n / 2) - 1
/-- Why the goroutine can have no event now, or not this one. -/
def CS.act (M : CS) (e : Me) : Int :=
  match M.gs e.g with
  | none => 1
  | some r => if has e.g M.alive then if 0 < r.as_ ∧ (e.k ≠ 11 ∨ e.o ≠ r.to) then 3 else 0 else 2
def CS.askLock (M : CS) (e : Me) (r : Gor) : Int :=
  if e.k = 3 then if 0 < M.times e.o then 4 else 0
  else if e.k = 4 then if M.toWrite e.o ∧ has e.o r.held then 0 else 5
  else if e.k = 5 then if M.toWrite e.o then 6 else 0
  else if M.toWrite e.o then 7 else if has e.o r.held then 0 else 7
def CS.askGor (M : CS) (e : Me) : Int :=
  if e.k = 7 then if (M.gs e.a).isSome then 8 else 0
  else match M.gs e.a with
    | none => 9
    | some q => if has e.a M.alive then if e.a = e.g then 11 else if 0 < q.as_ then 12 else 0 else 10
def CS.askChan (M : CS) (e : Me) (r : Gor) : Int :=
  match M.chans e.o with
  | none => if e.k = 9 then 0 else 14
  | some c =>
    if e.k = 9 then 13
    else if e.k = 10 then if c.closed then 15 else if 0 < c.room ∧ c.room ≤ c.inside then 16 else 0
    else if e.k = 11 then if 0 < r.as_ then if c.recvs < r.as_ then 22 else 0 else 21
    else if e.k = 12 then if e.a = 1 then if c.inside = 0 then 17 else 0 else if c.closed then if 0 < c.inside then 19 else 0 else 18
    else if c.closed then 15 else if c.room = 0 ∧ 0 < c.inside then 20 else 0
def CS.askOther (M : CS) (e : Me) : Int :=
  if e.k = 14 then if M.cnt e.o + mzag e.a < 0 ∨ 2147483647 < M.cnt e.o + mzag e.a then 23 else 0
  else if e.k = 15 then if M.cnt e.o = 0 then 0 else 24
  else if e.k = 16 then if e.a = 1 ∧ M.once e.o then 25 else if e.a = 0 ∧ ¬ M.once e.o then 26 else 0
  else if e.k = 20 then match nxt e.o M.mem with
    | none => 0
    | some p => if p.2 ≤ e.o + (e.a - 1) then 27 else 0
  else if e.k = 21 then if nxt (e.o + (e.a - 1)) M.mem = some (e.o + (e.a - 1), e.o) then 0 else 28
  else 0
/-- Why the event's kind forbids it. -/
def CS.ask (M : CS) (e : Me) (r : Gor) : Int :=
  if 3 ≤ e.k ∧ e.k ≤ 6 then M.askLock e r
  else if 7 ≤ e.k ∧ e.k ≤ 8 then M.askGor e
  else if 9 ≤ e.k ∧ e.k ≤ 13 then M.askChan e r
  else M.askOther e
def rdLocks (M : CS) (o n : Int) : Int → Option (Bool × Int) := setF M.locks o (if n = 0 then none else some (false, n))
/-- What the event does. -/
def CS.doo (M : CS) (e : Me) (r : Gor) : CS :=
  if e.k = 3 then { M with locks := setF M.locks e.o (some (true, 1)), gs := setF M.gs e.g (some { r with held := insE e.o 1 r.held }) }
  else if e.k = 4 then { M with locks := setF M.locks e.o none, gs := setF M.gs e.g (some { r with held := delE e.o r.held }) }
  else if e.k = 5 then { M with locks := setF M.locks e.o (some (false, M.times e.o + 1)), gs := setF M.gs e.g (some { r with held := insE e.o ((look e.o r.held).getD 0 + 1) r.held }) }
  else if e.k = 6 then { M with locks := rdLocks M e.o (M.times e.o - 1), gs := setF M.gs e.g (some { r with held := if (look e.o r.held).getD 0 - 1 = 0 then delE e.o r.held else insE e.o ((look e.o r.held).getD 0 - 1) r.held }) }
  else if e.k = 7 then { M with gs := setF M.gs e.a (some ⟨[], 0, 0⟩), alive := insE e.a 0 M.alive }
  else if e.k = 8 then { M with alive := delE e.a M.alive }
  else if e.k = 9 then { M with chans := setF M.chans e.o (some ⟨e.a, 0, 0, false⟩) }
  else if e.k = 10 then match M.chans e.o with
    | none => M
    | some c => { M with chans := setF M.chans e.o (some { c with sends := c.sends + 1 }), gs := if c.room = 0 then setF M.gs e.g (some { r with to := e.o, as_ := c.sends + 1 }) else M.gs }
  else if e.k = 11 then { M with gs := setF M.gs e.g (some { r with to := 0, as_ := 0 }) }
  else if e.k = 12 then match M.chans e.o with
    | none => M
    | some c => { M with chans := setF M.chans e.o (some { c with recvs := c.recvs + e.a }) }
  else if e.k = 13 then match M.chans e.o with
    | none => M
    | some c => { M with chans := setF M.chans e.o (some { c with closed := true }) }
  else if e.k = 14 then { M with cnt := setF M.cnt e.o (M.cnt e.o + mzag e.a) }
  else if e.k = 16 then { M with once := setF M.once e.o true }
  else if e.k = 20 then { M with mem := insE (e.o + (e.a - 1)) e.o M.mem }
  else if e.k = 21 then { M with mem := delE (e.o + (e.a - 1)) M.mem }
  else M
def CS.tick (M : CS) : CS := { M with taken := M.taken + 1 }
/-- The reason; 0, if the event can come. -/
def CS.why (M : CS) (e : Me) : Int :=
  match M.gs e.g with
  | none => 1
  | some r => if M.act e ≠ 0 then M.act e else M.ask e r
def CS.next (M : CS) (e : Me) : CS :=
  match M.gs e.g with
  | none => M
  | some r => (M.doo e r).tick
def CS.new : CS := ⟨0, setF (fun _ => none) 0 (some ⟨[], 0, 0⟩), [(0, 0)], fun _ => none, fun _ => none, fun _ => 0, fun _ => false, []⟩
/-- No number is great. -/
structure CS.ok (M : CS) : Prop where
  tk : M.taken ≤ 1048576
  gor : ∀ g r, M.gs g = some r → (0 ≤ g ∧ g ≤ 65535) ∧ (0 ≤ r.to ∧ r.to ≤ 18446744073709551615) ∧ (0 ≤ r.as_ ∧ r.as_ ≤ 1048576) ∧ r.held.length ≤ M.taken ∧ ∀ p ∈ r.held, 1 ≤ p.2 ∧ p.2 ≤ 1048576
  al : M.alive.length ≤ M.taken + 1
  lk : ∀ o b n, M.locks o = some (b, n) → -1048576 ≤ n ∧ n ≤ 1048576
  ch : ∀ o c, M.chans o = some c → (0 ≤ c.room ∧ c.room ≤ 65536) ∧ (0 ≤ c.sends ∧ c.sends ≤ 1048576) ∧ (0 ≤ c.recvs ∧ c.recvs ≤ 1048576)
  ct : ∀ o, 0 ≤ M.cnt o ∧ M.cnt o ≤ 2147483647
  me : M.mem.length ≤ M.taken
end Go.Proofs.YtafkammiehcdjaaGreatDoor
