/-
  Parts of the proof laid into one text, one behind the other: SameL, SpecSameD, OpMath. Contracts of the program's and the model's functions, and what they are proved of, as their theorems say.
-/
import Derived.Test.YtoafolefecddmaaGreatDoorStDatumHv
import Derived.Test.YtoafolefecddmaaGreatDoorTiF
import Derived.Test.YtoafolefecddmaaGreatDoorTiE
namespace Go.Proofs.YtoafolefecddmaaGreatDoor
def firstC {α : Type} (f : α → Int) : List α → Int
  | [] => 0
  | t :: r => if f t = 0 then firstC f r else f t
theorem firstC_drop {α : Type} (f : α → Int) : ∀ (k : Nat) (l : List α), (∀ (j : Nat) (h : j < l.length), j < k → f l[j] = 0) → firstC f l = firstC f (l.drop k)
  | 0, _, _ => by simp
  | k + 1, [], _ => by simp
  | k + 1, t :: r, hs => by
    have h0 : f t = 0 := hs 0 (by simp) (by omega)
    simp only [List.drop_succ_cons, firstC, if_pos h0]
    exact firstC_drop f k r (fun j hj hjk => hs (j + 1) (by simpa using hj) (by omega))
theorem firstC_hit {α : Type} {f : α → Int} (l : List α) (k : Nat) (h : k < l.length) (hs : ∀ (j : Nat) (h : j < l.length), j < k → f l[j] = 0) (he : f l[k] ≠ 0) : firstC f l = f l[k] := by
  rw [firstC_drop f k l hs, List.drop_eq_getElem_cons h]
  simp [firstC, he]
theorem firstC_none {α : Type} {f : α → Int} (l : List α) (hs : ∀ (j : Nat) (h : j < l.length), j < l.length → f l[j] = 0) : firstC f l = 0 := by
  rw [firstC_drop f l.length l hs, List.drop_of_length_le (Nat.le_refl _)]; rfl
theorem firstC_zero {α : Type} {f : α → Int} : ∀ (l : List α), firstC f l = 0 → ∀ x ∈ l, f x = 0
  | [], _, _, h => by cases h
  | t :: r, h, x, hx => by
    by_cases e : f t = 0
    · simp only [firstC, if_pos e] at h
      rcases List.mem_cons.1 hx with rfl | hx
      · exact e
      · exact firstC_zero r h x hx
    · simp only [firstC, if_neg e] at h
      exact absurd h e
end Go.Proofs.YtoafolefecddmaaGreatDoor
namespace Go.Proofs.YtoafolefecddmaaGreatDoor
open Go.RowKit Go.Extern.Stop Go.Stop Go.Extern Num Go.Lib
end Go.Proofs.YtoafolefecddmaaGreatDoor
namespace Go.Proofs.YtoafolefecddmaaGreatDoor
def numsO (k : Int) : Nat := if k = 4 ∨ k = 5 ∨ k = 6 ∨ k = 10 ∨ k = 11 then 1 else if k = 2 ∨ k = 14 then 2 else if k = 16 then 3 else if k = 15 then 4 else 0
def namedO (k : Int) : Bool := k == 3 || k == 8 || k == 9
def constO (k : Int) : Bool := k == 1 || k == 13
def numsL (t : Opr) : List Int := [t.a, t.b, t.c, t.d]
def extraN (t : Opr) : Bool := ((numsL t).drop (numsO t.kind)).any (· != 0)
def extraT (t : Opr) : Bool := (!namedO t.kind && decide (0 < t.name.size)) || (!constO t.kind && decide (0 < t.data.length))
def outN (x : Int) : Bool := decide (x < 0) || decide (999 < x)
def outO (t : Opr) : Bool := (numsL t).any outN
def manyO (t : Opr) : Bool := (t.kind == 10 || t.kind == 11) && decide (3 < t.a)
def opFault (t : Opr) : Int :=
  if decide (1 ≤ t.kind) && decide (t.kind ≤ 16) then
    if extraN t || extraT t then 1 else if outO t then 3 else if manyO t then 3 else if namedO t.kind && !(symL t.name.data.toList) then 5 else if constO t.kind then dataFault t.data else 0
  else 1
def blkFault (b : Blk) : Int := if decide (b.args < 0) || decide (3 < b.args) then 3 else if 200 < b.ops.length then 2 else firstC opFault b.ops
def codeFault9 (l : List Blk) : Int := if 60 < l.length then 2 else firstC blkFault l
end Go.Proofs.YtoafolefecddmaaGreatDoor
