/-
  The exact law of SubData answers true at every slice of data and every place; nothing that was there is turned.
-/
import Derived.Test.YtllcnkghakaifaaDoorImplSub
namespace Go.Proofs.YtllcnkghakaifaaDoor
open Go.RowKit

theorem lawSubD_any (a : Option Addr) (cp : Nat) (l : List Dat) (z : Int) (w : World) (hL : LT w) (hl : l.length ≤ 9223372036854775807) (h : MemD w a l) (hz : ∀ (k : Nat) (h : k < l.length), l[k].name.size ≤ 9223372036854775807) :
    Calls Tryd.prog 7 #[.slice a l.length cp, .int .i64 z] w fun e w' => e = .returned (.bool true) ∧ Below w.heap.size w w' :=
  lawSub_of a cp l z w LT (fun _ hu => hL.below hu) hl h hz (fun hz' _ u _ c base hu ho => implSub_any _ c base l z u ho hz' hu)
end Go.Proofs.YtllcnkghakaifaaDoor
