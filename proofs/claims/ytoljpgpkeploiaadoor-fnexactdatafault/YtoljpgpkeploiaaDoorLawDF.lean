/-
  The exact law of DataFault answers true at every slice of data; nothing that was there is turned.
-/
import Derived.Test.YtoljpgpkeploiaaDoorTreeW
import Derived.Test.YtoljpgpkeploiaaDoorLawsD1
namespace Go.Proofs.YtoljpgpkeploiaaDoor
open Go.RowKit

theorem lawDF_any (a : Option Addr) (cp : Nat) (l : List Dat) (w : World) (hL : LT w) (hl : l.length ≤ 9223372036854775807) (h : MemD w a l) (hz : ∀ (k : Nat) (h : k < l.length), l[k].name.size ≤ 9223372036854775807) :
    Calls Tryd.prog 3 #[.slice a l.length cp] w fun e w' => e = .returned (.bool true) ∧ Below w.heap.size w w' :=
  lawDF_of a cp l w LT (fun _ hu => hL.below hu) hl h hz (fun hz' _ u _ c base hu ho => implDF_any _ c base l u ho hz' hu)
end Go.Proofs.YtoljpgpkeploiaaDoor
