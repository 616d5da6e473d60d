/-
  DERIVED. GIVEN WITH THE SEED: THE CARDS: each row of YtjcamjdfdalbcaaDoorRows.lean that lists a variable, with what it lists TIED to the program's text (the seventh form; the later family's looks); each row that meets fmt, with fmt's text TOLD by the authors' own Lean function (tested against real Go, not proved from fmt's source: count such statements apart). THE CARD IS WHAT COUNTS. Prove the row's statement (the work); the ties are given (YtjcamjdfdalbcaaDoorTie.lean); close each card by the builder's one call (the guide's Derived/Test/ToyasCard.lean, 'card_holds'). Laid BY PROGRAM, IN A SANDBOX (cutbox-door.mjs). By AI agents, Wed Nov 11 2026. No macro, syntax, notation, axiom, sorry.
-/
import Derived.Test.YtjcamjdfdalbcaaDoorRows
import GoSem.ClaimSeven
namespace Go.Proofs.YtjcamjdfdalbcaaDoor
namespace Rows

/-- THE TIED CARD OF 'laws.FnExactLoopLines'. -/
def fnExactLoopLinesCard : Claim7 := { stood := { row := fnExactLoopLinesRow, standIns := [], harness := (true, "54cfe1d034ce60ba6247af0fe19d71a3702b8fb66cff557bda45f6f88407e186"), looks := false }, kinds := [], alts := [], laidByText := true, laidKinds := [.data, .pinned], laidTests := true, laidLooks := .later }
def FnExactLoopLinesCardSaid : Prop := Claim7.holds Tryd.pinned (.plain (OpenSpec.ofChange fnExactLoopLinesSpec)) fnExactLoopLinesCard

/-- THE SECOND FORM's CARD OF 'laws.FnExactLoopLines'. -/
def fnExactLoopLinesUptoCard : Claim7 := { stood := { row := fnExactLoopLinesUptoRow, standIns := [], harness := (true, "54cfe1d034ce60ba6247af0fe19d71a3702b8fb66cff557bda45f6f88407e186"), looks := false }, kinds := [], alts := [], laidByText := true, laidKinds := [.data, .pinned], laidTests := true, laidLooks := .later }
def FnExactLoopLinesUptoCardSaid : Prop := Claim7.holds Tryd.pinned (.plain (OpenSpec.upto fnExactLoopLinesSpec)) fnExactLoopLinesUptoCard
end Rows
end Go.Proofs.YtjcamjdfdalbcaaDoor
