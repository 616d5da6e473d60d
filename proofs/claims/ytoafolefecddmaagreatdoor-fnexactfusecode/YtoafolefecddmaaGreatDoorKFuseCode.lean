/-
  The closed facts of FuseCode's row.
-/
import Derived.Test.YtoafolefecddmaaGreatDoorRows
import Derived.ProofKit
import Derived.JoinedCond
namespace Go.Proofs.YtoafolefecddmaaGreatDoor
open Go.RowKit
theorem closedFuseCode : joinedFacts Tryz.pinned.checked.prog 4 Tryz.f4 (OpenSpec.ofChange Rows.fnExactFuseCodeSpec).bare Rows.fnExactFuseCodeRow = true := by kernel_rfl
end Go.Proofs.YtoafolefecddmaaGreatDoor
