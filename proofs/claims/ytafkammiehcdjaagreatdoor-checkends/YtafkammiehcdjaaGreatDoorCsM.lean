/-
  What a checker knows, as mathematics: why an event can't come, and what it does.
-/
import Derived.Test.YtafkammiehcdjaaGreatDoorRsM
namespace Go.Proofs.YtafkammiehcdjaaGreatDoor
structure Gor where
  held : List Ent
  to : Int
  as_ : Int
structure Chn where
  room : Int
  sends : Int
  recvs : Int
  closed : Bool
structure CS where
  taken : Nat
  gs : Int → Option Gor
  alive : List Ent
  locks : Int → Option (Bool × Int)
  chans : Int → Option Chn
  cnt : Int → Int
  once : Int → Bool
  mem : List Ent
/-- An event but for its stack. -/
structure Me where
  g : Int
  k : Int
  o : Int
  a : Int
def setF {α : Type} (f : Int → α) (x : Int) (v : α) : Int → α := fun y => if y = x then v else f y
theorem setF_same {α : Type} (f : Int → α) (x : Int) (v : α) : setF f x v x = v := if_pos rfl
theorem setF_other {α : Type} (f : Int → α) {x y : Int} (v : α) (h : y ≠ x) : setF f x v y = f y := if_neg h
def CS.times (M : CS) (o : Int) : Int := ((M.locks o).map (·.2)).getD 0
def CS.toWrite (M : CS) (o : Int) : Bool := ((M.locks o).map (·.1)).getD false
def has (k : Int) (L : List Ent) : Bool := (look k L).isSome
def Chn.inside (c : Chn) : Int := c.sends - c.recvs
def mzag (n : Int) : Int := if n % 2 = 0 then n / 2 else -(n / 2) - 1
/-- Why the goroutine can have no event now, or not this one. -/
def CS.act (M : CS) (e : Me) : Int :=
  match M.gs e.g with
  | none => 1
  | some r => if has e.g M.alive then if 0 < r.as_ ∧ (e.k ≠ 11 ∨ e.o ≠ r.to) then 3 else 0 else 2
def CS.askLock (M : CS) (e : Me) (r : Gor) : Int :=
  if e.k = 3 then if 0 < M.times e.o then 4 else 0
  else if e.k = 4 then if M.toWrite e.o ∧ has e.o r.held then 0 else 5
  else if e.k = 5 then if M.toWrite e.o then 6 else 0
  else if M.toWrite e.o then 7 else if has e.o r.held then 0 else 7
def CS.askGor (M : CS) (e : Me) : Int :=
  if e.k = 7 then if (M.gs e.a).isSome then 8 else 0
  else match M.gs e.a with
    | none => 9
    | some q => if has e.a M.alive then if e.a = e.g then 11 else if 0 < q.as_ then 12 else 0 else 10
def CS.askChan (M : CS) (e : Me) (r : Gor) : Int :=
  match M.chans e.o with
  | none => if e.k = 9 then 0 else 14
  | some c =>
    if e.k = 9 then 13
    else if e.k = 10 then if c.closed then 15 else if 0 < c.room ∧ c.room ≤ c.inside then 16 else 0
    else if e.k = 11 then if 0 < r.as_ then if c.recvs < r.as_ then 22 else 0 else 21
    else if e.k = 12 then if e.a = 1 then if c.inside = 0 then 17 else 0 else if c.closed then if 0 < c.inside then 19 else 0 else 18
    else if c.closed then 15 else if c.room = 0 ∧ 0 < c.inside then 20 else 0
def CS.askOther (M : CS) (e : Me) : Int :=
  if e.k = 14 then if M.cnt e.o + mzag e.a < 0 ∨ 2147483647 < M.cnt e.o + mzag e.a then 23 else 0
  else if e.k = 15 then if M.cnt e.o = 0 then 0 else 24
  else if e.k = 16 then if e.a = 1 ∧ M.once e.o then 25 else if e.a = 0 ∧ ¬ M.once e.o then 26 else 0
  else if e.k = 20 then match nxt e.o M.mem with
    | none => 0
    | some p => if p.2 ≤ e.o + (e.a - 1) then 27 else 0
  else if e.k = 21 then if nxt (e.o + (e.a - 1)) M.mem = some (e.o + (e.a - 1), e.o) then 0 else 28
  else 0
/-- Why the event's kind forbids it. -/
def CS.ask (M : CS) (e : Me) (r : Gor) : Int :=
  if 3 ≤ e.k ∧ e.k ≤ 6 then M.askLock e r
  else if 7 ≤ e.k ∧ e.k ≤ 8 then M.askGor e
  else if 9 ≤ e.k ∧ e.k ≤ 13 then M.askChan e r
  else M.askOther e
def rdLocks (M : CS) (o n : Int) : Int → Option (Bool × Int) := setF M.locks o (if n = 0 then none else some (false, n))
/-- What the event does. -/
def CS.doo (M : CS) (e : Me) (r : Gor) : CS :=
  if e.k = 3 then { M with locks := setF M.locks e.o (some (true, 1)), gs := setF M.gs e.g (some { r with held := insE e.o 1 r.held }) }
  else if e.k = 4 then { M with locks := setF M.locks e.o none, gs := setF M.gs e.g (some { r with held := delE e.o r.held }) }
  else if e.k = 5 then { M with locks := setF M.locks e.o (some (false, M.times e.o + 1)), gs := setF M.gs e.g (some { r with held := insE e.o ((look e.o r.held).getD 0 + 1) r.held }) }
  else if e.k = 6 then { M with locks := rdLocks M e.o (M.times e.o - 1), gs := setF M.gs e.g (some { r with held := if (look e.o r.held).getD 0 - 1 = 0 then delE e.o r.held else insE e.o ((look e.o r.held).getD 0 - 1) r.held }) }
  else if e.k = 7 then { M with gs := setF M.gs e.a (some ⟨[], 0, 0⟩), alive := insE e.a 0 M.alive }
  else if e.k = 8 then { M with alive := delE e.a M.alive }
  else if e.k = 9 then { M with chans := setF M.chans e.o (some ⟨e.a, 0, 0, false⟩) }
  else if e.k = 10 then match M.chans e.o with
    | none => M
    | some c => { M with chans := setF M.chans e.o (some { c with sends := c.sends + 1 }), gs := if c.room = 0 then setF M.gs e.g (some { r with to := e.o, as_ := c.sends + 1 }) else M.gs }
  else if e.k = 11 then { M with gs := setF M.gs e.g (some { r with to := 0, as_ := 0 }) }
  else if e.k = 12 then match M.chans e.o with
    | none => M
    | some c => { M with chans := setF M.chans e.o (some { c with recvs := c.recvs + e.a }) }
  else if e.k = 13 then match M.chans e.o with
    | none => M
    | some c => { M with chans := setF M.chans e.o (some { c with closed := true }) }
  else if e.k = 14 then { M with cnt := setF M.cnt e.o (M.cnt e.o + mzag e.a) }
  else if e.k = 16 then { M with once := setF M.once e.o true }
  else if e.k = 20 then { M with mem := insE (e.o + (e.a - 1)) e.o M.mem }
  else if e.k = 21 then { M with mem := delE (e.o + (e.a - 1)) M.mem }
  else M
def CS.tick (M : CS) : CS := { M with taken := M.taken + 1 }
/-- The reason; 0, if the event can come. -/
def CS.why (M : CS) (e : Me) : Int :=
  match M.gs e.g with
  | none => 1
  | some r => if M.act e ≠ 0 then M.act e else M.ask e r
def CS.next (M : CS) (e : Me) : CS :=
  match M.gs e.g with
  | none => M
  | some r => (M.doo e r).tick
def CS.new : CS := ⟨0, setF (fun _ => none) 0 (some ⟨[], 0, 0⟩), [(0, 0)], fun _ => none, fun _ => none, fun _ => 0, fun _ => false, []⟩
/-- No number is great. -/
structure CS.ok (M : CS) : Prop where
  tk : M.taken ≤ 1048576
  gor : ∀ g r, M.gs g = some r → (0 ≤ g ∧ g ≤ 65535) ∧ (0 ≤ r.to ∧ r.to ≤ 18446744073709551615) ∧ (0 ≤ r.as_ ∧ r.as_ ≤ 1048576) ∧ r.held.length ≤ M.taken ∧ ∀ p ∈ r.held, 1 ≤ p.2 ∧ p.2 ≤ 1048576
  al : M.alive.length ≤ M.taken + 1
  lk : ∀ o b n, M.locks o = some (b, n) → -1048576 ≤ n ∧ n ≤ 1048576
  ch : ∀ o c, M.chans o = some c → (0 ≤ c.room ∧ c.room ≤ 65536) ∧ (0 ≤ c.sends ∧ c.sends ≤ 1048576) ∧ (0 ≤ c.recvs ∧ c.recvs ≤ 1048576)
  ct : ∀ o, 0 ≤ M.cnt o ∧ M.cnt o ≤ 2147483647
  me : M.mem.length ≤ M.taken
end Go.Proofs.YtafkammiehcdjaaGreatDoor
