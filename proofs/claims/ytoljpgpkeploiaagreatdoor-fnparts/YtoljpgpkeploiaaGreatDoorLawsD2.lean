/-
  The exact law of PartsOf answers true at every slice of data and every place, if the program's own function answers what the plain one tells; nothing that was there is turned.
-/
import Derived.Test.YtoljpgpkeploiaaGreatDoorFpG
import Derived.Test.YtoljpgpkeploiaaGreatDoorResIntsResult
import Derived.Test.YtoljpgpkeploiaaGreatDoorMkDatum
namespace Go.Proofs.YtoljpgpkeploiaaGreatDoor
open Go.RowKit Go.Extern.Stop Go.Stop Go.Extern Num Go.Lib

def outP (l : List Dat) (z : Int) : List Int := if askD l z = 0 then partsD l z else []
theorem outP_len (l : List Dat) (z : Int) : (outP l z).length ≤ 80 := by
  unfold outP
  split
  · rename_i h
    have h1 := (ask_zero h).1.len
    have h2 := partsTo_len l z l.length
    unfold partsD; omega
  · simp
end Go.Proofs.YtoljpgpkeploiaaGreatDoor
