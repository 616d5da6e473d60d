/-
  A slice of Datum that came in, opened: what lies where it leads.
-/
import Derived.Test.YtoljpgpkeploiaaGreatDoorStDatum
import Derived.OpenShut
import Derived.WalkKit
import Derived.Deep.Slices
import Derived.Deep.Strs
import Derived.Lib.SmallJoins
namespace Go.Proofs.YtoljpgpkeploiaaGreatDoor
open Go.ChangeShapes Go.WideShapes Go.ChangeAt Go.RowKit

theorem cellsID : Tryz.prog.cellsOf 2 = 1 := by kernel_rfl
theorem cellsSD : Tryz.prog.cellsOf 9 = 1 := by kernel_rfl
theorem chooseD (n : Nat) {p : Nat → Dat → Prop} (h : ∀ i, i < n → ∃ t, p i t) : ∃ f : Nat → Dat, ∀ i, i < n → p i (f i) := by
  classical
  refine ⟨fun i => if hi : i < n then Classical.choose (h i hi) else ⟨0, 0, 0, ⟨#[]⟩⟩, fun i hi => ?_⟩
  simp only [dif_pos hi]
  exact Classical.choose_spec (h i hi)
end Go.Proofs.YtoljpgpkeploiaaGreatDoor
