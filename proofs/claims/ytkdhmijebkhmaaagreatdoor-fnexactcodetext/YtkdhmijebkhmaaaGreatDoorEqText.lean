/-
  The laws' eqTextResult at one answer twice: true.
-/
import Derived.Test.YtkdhmijebkhmaaaGreatDoorCtA
namespace Go.Proofs.YtkdhmijebkhmaaaGreatDoor
open Go.RowKit Go.Extern.Stop Go.Stop Go.Extern Num Go.Lib

theorem eqText_same (c : Int) (x : ByteArray) (w : World) :
    Calls Tryz.prog 10 #[.agg #[.int .i64 c, .string x], .agg #[.int .i64 c, .string x]] w fun e w' => e = .returned (.bool true) ∧ Below w.heap.size w w' := by
  go_enter Tryz.func10, Tryz.ntmps10
  go_wp2
  go_ret
  refine ⟨rfl, ?_⟩
  repeat (first | exact Below.refl _ _ | refine Below.alloc ?_ (by simp <;> omega) _ | refine Below.drew ?_)
end Go.Proofs.YtkdhmijebkhmaaaGreatDoor
