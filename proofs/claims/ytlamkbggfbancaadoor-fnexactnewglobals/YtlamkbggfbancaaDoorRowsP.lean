/-
  What the cards of laws over one number or one text ask for, where the walk needs nothing of the listed variable.
-/
import Derived.Test.YtlamkbggfbancaaDoorRows
import Derived.Test.YtlamkbggfbancaaDoorCards
import Derived.Test.YtlamkbggfbancaaDoorTie
import Derived.WalkKit
import Derived.ProofKit
import Derived.OpenShut
import Derived.ShutString
import Derived.LaidHandle
import Derived.Deep.DeepHandedRow
import Derived.Lib.LaidTab
namespace Go.Proofs.YtlamkbggfbancaaDoor
theorem own : ownKnob Tryd.prog.godebug = none := by kernel_rfl
end Go.Proofs.YtlamkbggfbancaaDoor
