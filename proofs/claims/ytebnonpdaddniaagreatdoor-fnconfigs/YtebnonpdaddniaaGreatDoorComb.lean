/-
  The program's combine with each of its five operations, and the faces AddNum, SubNum, MulNum, QuoNum and RemNum: what each answers at every two numbers; nothing that was there is turned.
-/
import Derived.Test.YtebnonpdaddniaaGreatDoorImplNum
namespace Go.Proofs.YtebnonpdaddniaaGreatDoor
open Go.RowKit Go.Extern.Stop Go.Stop Go.Extern Num


end Go.Proofs.YtebnonpdaddniaaGreatDoor
