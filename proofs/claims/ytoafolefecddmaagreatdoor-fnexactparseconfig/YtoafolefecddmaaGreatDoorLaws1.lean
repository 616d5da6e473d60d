/-
  The exact laws of NumFault, AddNum, SubNum, MulNum, QuoNum and RemNum answer true at every argument, in every world in which errors.errorType holds what the program's text lays; nothing that was there is turned.
-/
import Derived.Test.YtoafolefecddmaaGreatDoorComb
namespace Go.Proofs.YtoafolefecddmaaGreatDoor
open Go.RowKit Go.Extern.Stop Go.Stop Go.Extern Num

theorem eqIR_same (c v : Int) (w : World) :
    Calls Tryz.prog 29 #[IR c v, IR c v] w fun e w' => e = .returned (.bool true) ∧ Below w.heap.size w w' := by
  go_enter Tryz.func29, Tryz.ntmps29
  go_wp2
  go_ret
  refine ⟨rfl, ?_⟩
  repeat (first | exact Below.refl _ _ | refine Below.setCell ?_ (by simp) _ | refine Below.alloc ?_ (by simp <;> omega) _ | refine Below.drew ?_)

end Go.Proofs.YtoafolefecddmaaGreatDoor
