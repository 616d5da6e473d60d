/-
  Parts of the proof laid into one text, one behind the other; each says at its head what is proved in it.
-/
import Derived.Test.YteboaiklibaomaaGreatDoorTiE
import Derived.Test.YteboaiklibaomaaGreatDoorSameLHt
import Derived.Test.YteboaiklibaomaaGreatDoorTiF
import Derived.Test.YteboaiklibaomaaGreatDoorSpecSameDHt
/-
  The fault of an operation, of a block, of code; whether two are the same.
-/
namespace Go.Proofs.YteboaiklibaomaaGreatDoor

/-- How many numbers a kind has. -/
def numsO (k : Int) : Nat := if k = 4 ∨ k = 5 ∨ k = 6 ∨ k = 10 ∨ k = 11 then 1 else if k = 2 ∨ k = 14 then 2 else if k = 16 then 3 else if k = 15 then 4 else 0
def namedO (k : Int) : Bool := k == 3 || k == 8 || k == 9
def constO (k : Int) : Bool := k == 1 || k == 13
def numsL (t : Opr) : List Int := [t.a, t.b, t.c, t.d]
/-- Something that its kind has not. -/
def extraN (t : Opr) : Bool := ((numsL t).drop (numsO t.kind)).any (· != 0)
def extraT (t : Opr) : Bool := (!namedO t.kind && decide (0 < t.name.size)) || (!constO t.kind && decide (0 < t.data.length))
def outN (x : Int) : Bool := decide (x < 0) || decide (999 < x)
def outO (t : Opr) : Bool := (numsL t).any outN
def manyO (t : Opr) : Bool := (t.kind == 10 || t.kind == 11) && decide (3 < t.a)
def opFault (t : Opr) : Int :=
  if decide (1 ≤ t.kind) && decide (t.kind ≤ 16) then
    if extraN t || extraT t then 1 else if outO t then 3 else if manyO t then 3 else if namedO t.kind && !(symL t.name.data.toList) then 5 else if constO t.kind then dataFault t.data else 0
  else 1
def blkFault (b : Blk) : Int := if decide (b.args < 0) || decide (3 < b.args) then 3 else if 200 < b.ops.length then 2 else firstC opFault b.ops
def codeFault9 (l : List Blk) : Int := if 60 < l.length then 2 else firstC blkFault l
def eqOB (t u : Opr) : Bool := t.kind == u.kind && (t.a == u.a && (t.b == u.b && (t.c == u.c && (t.d == u.d && (t.name.toList == u.name.toList && sameB t.data u.data)))))
def eqBB (t u : Blk) : Bool := t.args == u.args && sameL eqOB t.ops u.ops
end Go.Proofs.YteboaiklibaomaaGreatDoor
