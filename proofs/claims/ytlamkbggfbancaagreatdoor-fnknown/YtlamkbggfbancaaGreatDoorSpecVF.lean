/-
  The model's l5Placed and l5Fault: what is wrong with a value behind a pointer; nothing is turned.
-/
import Derived.Test.YtlamkbggfbancaaGreatDoorVMath
import Derived.Test.YtlamkbggfbancaaGreatDoorVBox
namespace Go.Proofs.YtlamkbggfbancaaGreatDoor
open Go.RowKit Go.Extern.Stop Go.Stop Go.Extern Num Go.Lib

end Go.Proofs.YtlamkbggfbancaaGreatDoor
