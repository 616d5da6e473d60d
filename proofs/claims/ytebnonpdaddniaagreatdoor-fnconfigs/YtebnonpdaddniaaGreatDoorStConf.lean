/-
  A setting as a struct of four: what is read of one that came in; its toConfig. No program in it but toConfig.
-/
import Derived.Test.YtebnonpdaddniaaGreatDoorConfA
import Derived.ProofKit
import Derived.OpenShut
import Derived.Deep.Strs
import Derived.Lib.SmallJoins
namespace Go.Proofs.YtebnonpdaddniaaGreatDoor
open Go.ChangeShapes Go.WideShapes Go.ChangeAt Go.RowKit Go.Lib Go.Extern.Stop Go.Stop Go.Extern Num

theorem cellsICf : Tryz.prog.cellsOf 2 = 1 := by kernel_rfl
theorem cellsBCf : Tryz.prog.cellsOf 4 = 1 := by kernel_rfl
end Go.Proofs.YtebnonpdaddniaaGreatDoor
