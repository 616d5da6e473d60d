/-
  What the cards of laws over one number or one text ask for, where the walk needs nothing of the listed variable.
-/
import Derived.Test.YtlamkbggfbancaaGreatDoorRows
import Derived.Test.YtlamkbggfbancaaGreatDoorCards
import Derived.Test.YtlamkbggfbancaaGreatDoorTie
import Derived.WalkKit
import Derived.ProofKit
import Derived.OpenShut
import Derived.ShutString
import Derived.LaidHandle
import Derived.Deep.DeepHandedRow
import Derived.Lib.LaidTab
namespace Go.Proofs.YtlamkbggfbancaaGreatDoor
theorem own : ownKnob Tryz.prog.godebug = none := by kernel_rfl
end Go.Proofs.YtlamkbggfbancaaGreatDoor
