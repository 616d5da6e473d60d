/-
  The closed facts of LoopLines's row.
-/
import Derived.Test.YtjcamjdfdalbcaaDoorRows
import Derived.ProofKit
import Derived.JoinedCond
namespace Go.Proofs.YtjcamjdfdalbcaaDoor
open Go.RowKit

theorem closedLoopLines : joinedFacts Tryd.pinned.checked.prog 3 Tryd.f3 (OpenSpec.ofChange Rows.fnExactLoopLinesSpec).bare Rows.fnExactLoopLinesRow = true := by kernel_rfl
end Go.Proofs.YtjcamjdfdalbcaaDoor
