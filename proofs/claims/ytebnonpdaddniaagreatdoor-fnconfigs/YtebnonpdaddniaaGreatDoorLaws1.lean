/-
  The exact laws of NumFault, AddNum, SubNum, MulNum, QuoNum and RemNum answer true at every argument, in every world in which errors.errorType holds what the program's text lays; nothing that was there is turned.
-/
import Derived.Test.YtebnonpdaddniaaGreatDoorComb
namespace Go.Proofs.YtebnonpdaddniaaGreatDoor
open Go.RowKit Go.Extern.Stop Go.Stop Go.Extern Num

end Go.Proofs.YtebnonpdaddniaaGreatDoor
