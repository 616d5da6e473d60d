/-
  DERIVED. GIVEN WITH THE SEED: THE CARDS: each row of YtlamkbggfbancaaDoorRows.lean that lists a variable, with what it lists TIED to the program's text (the seventh form; the later family's looks); each row that meets fmt, with fmt's text TOLD by the authors' own Lean function (tested against real Go, not proved from fmt's source: count such statements apart). THE CARD IS WHAT COUNTS. Prove the row's statement (the work); the ties are given (YtlamkbggfbancaaDoorTie.lean); close each card by the builder's one call (the guide's Derived/Test/ToyasCard.lean, 'card_holds'). Laid BY PROGRAM, IN A SANDBOX (cutbox-door.mjs). By AI agents, Wed Nov 11 2026. No macro, syntax, notation, axiom, sorry.
-/
import Derived.Test.YtlamkbggfbancaaDoorRows
import GoSem.ClaimSeven
namespace Go.Proofs.YtlamkbggfbancaaDoor
namespace Rows

/-- THE TIED CARD OF 'laws.FnExactShowValue'. -/
def fnExactShowValueCard : Claim7 := { stood := { row := fnExactShowValueRow, standIns := [], harness := (true, "0006e5b8b60c84d7d96326b11715da506679eb59171409b6748c6bc310815eea"), looks := true }, kinds := [], alts := [], laidByText := true, laidKinds := [.data, .data, .data, .handle], laidTests := true, laidLooks := .later }
def FnExactShowValueCardSaid : Prop := Claim7.holds Tryd.pinned (.plain (OpenSpec.ofChange fnExactShowValueSpec)) fnExactShowValueCard

/-- THE TIED CARD OF 'laws.FnExactNewGlobals'. -/
def fnExactNewGlobalsCard : Claim7 := { stood := { row := fnExactNewGlobalsRow, standIns := [], harness := (true, "0006e5b8b60c84d7d96326b11715da506679eb59171409b6748c6bc310815eea"), looks := true }, kinds := [], alts := [], laidByText := true, laidKinds := [.handle], laidTests := true, laidLooks := .later }
def FnExactNewGlobalsCardSaid : Prop := Claim7.holds Tryd.pinned (.plain (OpenSpec.ofChange fnExactNewGlobalsSpec)) fnExactNewGlobalsCard

/-- THE SECOND FORM's CARD OF 'laws.FnExactShowValue'. -/
def fnExactShowValueUptoCard : Claim7 := { stood := { row := fnExactShowValueUptoRow, standIns := [], harness := (true, "0006e5b8b60c84d7d96326b11715da506679eb59171409b6748c6bc310815eea"), looks := true }, kinds := [], alts := [], laidByText := true, laidKinds := [.data, .data, .data, .handle], laidTests := true, laidLooks := .later }
def FnExactShowValueUptoCardSaid : Prop := Claim7.holds Tryd.pinned (.plain (OpenSpec.upto fnExactShowValueSpec)) fnExactShowValueUptoCard

/-- THE SECOND FORM's CARD OF 'laws.FnExactNewGlobals'. -/
def fnExactNewGlobalsUptoCard : Claim7 := { stood := { row := fnExactNewGlobalsUptoRow, standIns := [], harness := (true, "0006e5b8b60c84d7d96326b11715da506679eb59171409b6748c6bc310815eea"), looks := true }, kinds := [], alts := [], laidByText := true, laidKinds := [.handle], laidTests := true, laidLooks := .later }
def FnExactNewGlobalsUptoCardSaid : Prop := Claim7.holds Tryd.pinned (.plain (OpenSpec.upto fnExactNewGlobalsSpec)) fnExactNewGlobalsUptoCard
end Rows
end Go.Proofs.YtlamkbggfbancaaDoor
