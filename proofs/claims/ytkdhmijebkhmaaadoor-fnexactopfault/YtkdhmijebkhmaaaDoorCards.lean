/-
  DERIVED. GIVEN WITH THE SEED: THE CARDS: each row of YtkdhmijebkhmaaaDoorRows.lean that lists a variable, with what it lists TIED to the program's text (the seventh form; the later family's looks); each row that meets fmt, with fmt's text TOLD by the authors' own Lean function (tested against real Go, not proved from fmt's source: count such statements apart). THE CARD IS WHAT COUNTS. Prove the row's statement (the work); the ties are given (YtkdhmijebkhmaaaDoorTie.lean); close each card by the builder's one call (the guide's Derived/Test/ToyasCard.lean, 'card_holds'). Laid BY PROGRAM, IN A SANDBOX (cutbox-door.mjs). By AI agents, Wed Nov 11 2026. No macro, syntax, notation, axiom, sorry.
-/
import Derived.Test.YtkdhmijebkhmaaaDoorRows
import GoSem.ClaimSeven
namespace Go.Proofs.YtkdhmijebkhmaaaDoor
namespace Rows

/-- THE TIED CARD OF 'laws.FnExactOpFault'. -/
def fnExactOpFaultCard : Claim7 := { stood := { row := fnExactOpFaultRow, standIns := [], harness := (true, "0b77845d8b06941d81f00400ac72ff4be8f8a6c7296e2c7339c525affe4cce01"), looks := true }, kinds := [], alts := [], laidByText := true, laidKinds := [.data, .data, .data, .handle], laidTests := true, laidLooks := .later }
def FnExactOpFaultCardSaid : Prop := Claim7.holds Tryd.pinned (.plain (OpenSpec.ofChange fnExactOpFaultSpec)) fnExactOpFaultCard

/-- THE SECOND FORM's CARD OF 'laws.FnExactOpFault'. -/
def fnExactOpFaultUptoCard : Claim7 := { stood := { row := fnExactOpFaultUptoRow, standIns := [], harness := (true, "0b77845d8b06941d81f00400ac72ff4be8f8a6c7296e2c7339c525affe4cce01"), looks := true }, kinds := [], alts := [], laidByText := true, laidKinds := [.data, .data, .data, .handle], laidTests := true, laidLooks := .later }
def FnExactOpFaultUptoCardSaid : Prop := Claim7.holds Tryd.pinned (.plain (OpenSpec.upto fnExactOpFaultSpec)) fnExactOpFaultUptoCard
end Rows
end Go.Proofs.YtkdhmijebkhmaaaDoor
