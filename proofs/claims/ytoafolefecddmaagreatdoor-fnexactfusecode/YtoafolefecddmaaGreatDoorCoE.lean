/-
  Parts of the proof laid into one text, one behind the other: SpecPartsD, SpecSubD. Contracts of the program's and the model's functions, and what they are proved of, as their theorems say.
-/
import Derived.Test.YtoafolefecddmaaGreatDoorTiF
import Derived.Test.YtoafolefecddmaaGreatDoorIntRowHv
namespace Go.Proofs.YtoafolefecddmaaGreatDoor
open Go.RowKit Go.Extern.Stop Go.Stop Go.Extern Num Go.Lib
structure Fine (l : List Dat) : Prop where
  pos : 0 < l.length
  len : l.length ≤ 80
  ok : okUpto l l.length
end Go.Proofs.YtoafolefecddmaaGreatDoor
