/-
  The model's l3Asked, l3Parts and PartsOf: the places of a datum's parts; nothing that was there is turned.
-/
import Derived.Test.YtkdhmijebkhmaaaDoorSpecFaultD
import Derived.Test.YtkdhmijebkhmaaaDoorIntRow
namespace Go.Proofs.YtkdhmijebkhmaaaDoor
open Go.RowKit Go.Extern.Stop Go.Stop Go.Extern Num Go.Lib

/-- The places, below k, of the parts of a place. -/
def partsTo (l : List Dat) (a : Int) : Nat → List Int
  | 0 => []
  | k + 1 => if par l k = a then partsTo l a k ++ [(k : Int)] else partsTo l a k
def partsD (l : List Dat) (a : Int) : List Int := partsTo l a l.length
theorem partsTo_len (l : List Dat) (a : Int) (k : Nat) : (partsTo l a k).length ≤ k := by
  induction k with
  | zero => simp [partsTo]
  | succ k ih =>
    simp only [partsTo]
    split
    · rw [List.length_append]; simp; omega
    · omega
/-- What is asked ahead of a place. -/
def askD (l : List Dat) (a : Int) : Int := if dataFault l ≠ 0 then dataFault l else if 0 ≤ a ∧ a ≤ (l.length : Int) - 1 then 0 else 3
/-- An answer of PartsOf. -/
def AnsP (l : List Dat) (a : Int) (w : World) (e : Ending) (w' : World) : Prop :=
  ∃ ao c, e = .returned (.agg #[.int .i64 (askD l a), .slice ao (if askD l a = 0 then partsD l a else []).length c]) ∧ w'.ownsRow w.heap.size 2 1 (.slice ao (if askD l a = 0 then partsD l a else []).length c) (if askD l a = 0 then partsD l a else []).length (cellsI (if askD l a = 0 then partsD l a else [])) ∧ Below w.heap.size w w'
end Go.Proofs.YtkdhmijebkhmaaaDoor
