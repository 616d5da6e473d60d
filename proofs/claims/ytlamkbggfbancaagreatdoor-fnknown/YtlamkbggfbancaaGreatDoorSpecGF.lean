/-
  The model's GlobalsFault; nothing is turned.
-/
import Derived.Test.YtlamkbggfbancaaGreatDoorSpecG
namespace Go.Proofs.YtlamkbggfbancaaGreatDoor
open Go.RowKit Go.Extern.Stop Go.Stop Go.Extern Num Go.Lib

end Go.Proofs.YtlamkbggfbancaaGreatDoor
