/-
  SameValues of the model and of the program: whether two values are the same; the exact law answers true at every two values; nothing that was there is turned.
-/
import Derived.Test.YtlamkbggfbancaaVBox
import Derived.Test.YtlamkbggfbancaaRegion
namespace Go.Proofs.Ytlamkbggfbancaa
open Go.RowKit Go.Extern.Stop Go.Stop Go.Extern Num Go.Lib

def eqVB (a b : Vlu) : Bool := a.kind == b.kind && (a.num == b.num && (a.name.toList == b.name.toList))
end Go.Proofs.Ytlamkbggfbancaa
