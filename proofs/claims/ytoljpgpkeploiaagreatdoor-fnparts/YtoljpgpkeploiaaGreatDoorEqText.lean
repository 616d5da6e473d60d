/-
  The laws' eqTextResult at one answer twice: true.
-/
import Derived.Test.YtoljpgpkeploiaaGreatDoorFpA
namespace Go.Proofs.YtoljpgpkeploiaaGreatDoor
open Go.RowKit Go.Extern.Stop Go.Stop Go.Extern Num Go.Lib

end Go.Proofs.YtoljpgpkeploiaaGreatDoor
