/-
  The closed facts of FnConfigs's row.
-/
import Derived.Test.YtebnonpdaddniaaGreatDoorRows
import Derived.ProofKit
import Derived.JoinedCond
namespace Go.Proofs.YtebnonpdaddniaaGreatDoor
open Go.RowKit

theorem closedFnConfigs : joinedFacts Tryz.pinned.checked.prog 3 Tryz.f3 (OpenSpec.ofChange Rows.fnConfigsSpec).bare Rows.fnConfigsRow = true := by kernel_rfl
end Go.Proofs.YtebnonpdaddniaaGreatDoor
