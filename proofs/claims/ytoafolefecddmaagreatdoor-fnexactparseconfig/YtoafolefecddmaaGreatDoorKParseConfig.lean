/-
  The closed facts of ParseConfig's row.
-/
import Derived.Test.YtoafolefecddmaaGreatDoorRows
import Derived.ProofKit
import Derived.JoinedCond
namespace Go.Proofs.YtoafolefecddmaaGreatDoor
open Go.RowKit

theorem closedParseConfig : joinedFacts Tryz.pinned.checked.prog 7 Tryz.f7 (OpenSpec.ofChange Rows.fnExactParseConfigSpec).bare Rows.fnExactParseConfigRow = true := by kernel_rfl
end Go.Proofs.YtoafolefecddmaaGreatDoor
