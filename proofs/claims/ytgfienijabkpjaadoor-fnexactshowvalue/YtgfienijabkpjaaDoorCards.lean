/-
  DERIVED. GIVEN WITH THE SEED: THE CARDS: each row of YtgfienijabkpjaaDoorRows.lean that lists a variable, with what it lists TIED to the program's text (the seventh form; the later family's looks); each row that meets fmt, with fmt's text TOLD by the authors' own Lean function (tested against real Go, not proved from fmt's source: count such statements apart). THE CARD IS WHAT COUNTS. Prove the row's statement (the work); the ties are given (YtgfienijabkpjaaDoorTie.lean); close each card by the builder's one call (the guide's Derived/Test/ToyasCard.lean, 'card_holds'). Laid BY PROGRAM, IN A SANDBOX (cutbox-door.mjs). By AI agents, Wed Nov 11 2026. No macro, syntax, notation, axiom, sorry.
-/
import Derived.Test.YtgfienijabkpjaaDoorRows
import GoSem.ClaimSeven
namespace Go.Proofs.YtgfienijabkpjaaDoor
namespace Rows

/-- THE TIED CARD OF 'laws.FnPrims'. -/
def fnPrimsCard : Claim7 := { stood := { row := fnPrimsRow, standIns := [], harness := (true, "ad294f2a511297861ca7c9dd4e3e4c1b8c401c59ec30be24e4928f8283555c26"), looks := true }, kinds := [], alts := [], laidByText := true, laidKinds := [.handle], laidTests := true, laidLooks := .later }
def FnPrimsCardSaid : Prop := Claim7.holds Tryd.pinned (.plain (OpenSpec.ofChange fnPrimsSpec)) fnPrimsCard

/-- THE TIED CARD OF 'laws.FnExactShowValue'. -/
def fnExactShowValueCard : Claim7 := { stood := { row := fnExactShowValueRow, standIns := [], harness := (true, "ad294f2a511297861ca7c9dd4e3e4c1b8c401c59ec30be24e4928f8283555c26"), looks := true }, kinds := [], alts := [], laidByText := true, laidKinds := [.data, .data, .data, .handle], laidTests := true, laidLooks := .later }
def FnExactShowValueCardSaid : Prop := Claim7.holds Tryd.pinned (.plain (OpenSpec.ofChange fnExactShowValueSpec)) fnExactShowValueCard

/-- THE SECOND FORM's CARD OF 'laws.FnPrims'. -/
def fnPrimsUptoCard : Claim7 := { stood := { row := fnPrimsUptoRow, standIns := [], harness := (true, "ad294f2a511297861ca7c9dd4e3e4c1b8c401c59ec30be24e4928f8283555c26"), looks := true }, kinds := [], alts := [], laidByText := true, laidKinds := [.handle], laidTests := true, laidLooks := .later }
def FnPrimsUptoCardSaid : Prop := Claim7.holds Tryd.pinned (.plain (OpenSpec.upto fnPrimsSpec)) fnPrimsUptoCard

/-- THE SECOND FORM's CARD OF 'laws.FnExactShowValue'. -/
def fnExactShowValueUptoCard : Claim7 := { stood := { row := fnExactShowValueUptoRow, standIns := [], harness := (true, "ad294f2a511297861ca7c9dd4e3e4c1b8c401c59ec30be24e4928f8283555c26"), looks := true }, kinds := [], alts := [], laidByText := true, laidKinds := [.data, .data, .data, .handle], laidTests := true, laidLooks := .later }
def FnExactShowValueUptoCardSaid : Prop := Claim7.holds Tryd.pinned (.plain (OpenSpec.upto fnExactShowValueSpec)) fnExactShowValueUptoCard
end Rows
end Go.Proofs.YtgfienijabkpjaaDoor
