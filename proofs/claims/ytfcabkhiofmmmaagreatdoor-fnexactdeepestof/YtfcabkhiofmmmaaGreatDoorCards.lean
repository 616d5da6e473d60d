/-
  DERIVED. GIVEN WITH THE SEED: THE CARDS: each row of YtfcabkhiofmmmaaGreatDoorRows.lean that lists a variable, with what it lists TIED to the program's text (the seventh form; the later family's looks); each row that meets fmt, with fmt's text TOLD by the authors' own Lean function (tested against real Go, not proved from fmt's source: count such statements apart). THE CARD IS WHAT COUNTS. Prove the row's statement (the work); the ties are given (YtfcabkhiofmmmaaGreatDoorTie.lean); close each card by the builder's one call (the guide's Derived/Test/ToyasCard.lean, 'card_holds'). Laid BY PROGRAM, IN A SANDBOX (cutbox-door.mjs). By AI agents, Wed Nov 11 2026. No macro, syntax, notation, axiom, sorry.
-/
import Derived.Test.YtfcabkhiofmmmaaGreatDoorRows
import GoSem.ClaimSeven
namespace Go.Proofs.YtfcabkhiofmmmaaGreatDoor
namespace Rows

/-- THE TIED CARD OF 'laws.FnHeights'. -/
def fnHeightsCard : Claim7 := { stood := { row := fnHeightsRow, standIns := [], harness := (true, "918f4670ea70e3b7f0bf3cb9c9bc6702a9a528590f2550447fb3c0bda23b25bf"), looks := true }, kinds := [], alts := [], laidByText := true, laidKinds := [.data, .data, .data, .handle], laidTests := true, laidLooks := .later }
def FnHeightsCardSaid : Prop := Claim7.holds Tryz.pinned (.plain (OpenSpec.ofChange fnHeightsSpec)) fnHeightsCard

/-- THE TIED CARD OF 'laws.FnBlocks'. -/
def fnBlocksCard : Claim7 := { stood := { row := fnBlocksRow, standIns := [], harness := (true, "918f4670ea70e3b7f0bf3cb9c9bc6702a9a528590f2550447fb3c0bda23b25bf"), looks := true }, kinds := [], alts := [], laidByText := true, laidKinds := [.data, .data, .data, .handle], laidTests := true, laidLooks := .later }
def FnBlocksCardSaid : Prop := Claim7.holds Tryz.pinned (.plain (OpenSpec.ofChange fnBlocksSpec)) fnBlocksCard

/-- THE TIED CARD OF 'laws.FnExactCodeFault'. -/
def fnExactCodeFaultCard : Claim7 := { stood := { row := fnExactCodeFaultRow, standIns := [], harness := (true, "918f4670ea70e3b7f0bf3cb9c9bc6702a9a528590f2550447fb3c0bda23b25bf"), looks := true }, kinds := [], alts := [], laidByText := true, laidKinds := [.data, .data, .data, .handle], laidTests := true, laidLooks := .later }
def FnExactCodeFaultCardSaid : Prop := Claim7.holds Tryz.pinned (.plain (OpenSpec.ofChange fnExactCodeFaultSpec)) fnExactCodeFaultCard

/-- THE TIED CARD OF 'laws.FnExactHeightsOf'. -/
def fnExactHeightsOfCard : Claim7 := { stood := { row := fnExactHeightsOfRow, standIns := [], harness := (true, "918f4670ea70e3b7f0bf3cb9c9bc6702a9a528590f2550447fb3c0bda23b25bf"), looks := true }, kinds := [], alts := [], laidByText := true, laidKinds := [.data, .data, .data, .handle], laidTests := true, laidLooks := .later }
def FnExactHeightsOfCardSaid : Prop := Claim7.holds Tryz.pinned (.plain (OpenSpec.ofChange fnExactHeightsOfSpec)) fnExactHeightsOfCard

/-- THE TIED CARD OF 'laws.FnExactBlockAround'. -/
def fnExactBlockAroundCard : Claim7 := { stood := { row := fnExactBlockAroundRow, standIns := [], harness := (true, "918f4670ea70e3b7f0bf3cb9c9bc6702a9a528590f2550447fb3c0bda23b25bf"), looks := true }, kinds := [], alts := [], laidByText := true, laidKinds := [.data, .data, .data, .handle], laidTests := true, laidLooks := .later }
def FnExactBlockAroundCardSaid : Prop := Claim7.holds Tryz.pinned (.plain (OpenSpec.ofChange fnExactBlockAroundSpec)) fnExactBlockAroundCard

/-- THE TIED CARD OF 'laws.FnExactDeepestOf'. -/
def fnExactDeepestOfCard : Claim7 := { stood := { row := fnExactDeepestOfRow, standIns := [], harness := (true, "918f4670ea70e3b7f0bf3cb9c9bc6702a9a528590f2550447fb3c0bda23b25bf"), looks := true }, kinds := [], alts := [], laidByText := true, laidKinds := [.data, .data, .data, .handle], laidTests := true, laidLooks := .later }
def FnExactDeepestOfCardSaid : Prop := Claim7.holds Tryz.pinned (.plain (OpenSpec.ofChange fnExactDeepestOfSpec)) fnExactDeepestOfCard

/-- THE SECOND FORM's CARD OF 'laws.FnHeights'. -/
def fnHeightsUptoCard : Claim7 := { stood := { row := fnHeightsUptoRow, standIns := [], harness := (true, "918f4670ea70e3b7f0bf3cb9c9bc6702a9a528590f2550447fb3c0bda23b25bf"), looks := true }, kinds := [], alts := [], laidByText := true, laidKinds := [.data, .data, .data, .handle], laidTests := true, laidLooks := .later }
def FnHeightsUptoCardSaid : Prop := Claim7.holds Tryz.pinned (.plain (OpenSpec.upto fnHeightsSpec)) fnHeightsUptoCard

/-- THE SECOND FORM's CARD OF 'laws.FnBlocks'. -/
def fnBlocksUptoCard : Claim7 := { stood := { row := fnBlocksUptoRow, standIns := [], harness := (true, "918f4670ea70e3b7f0bf3cb9c9bc6702a9a528590f2550447fb3c0bda23b25bf"), looks := true }, kinds := [], alts := [], laidByText := true, laidKinds := [.data, .data, .data, .handle], laidTests := true, laidLooks := .later }
def FnBlocksUptoCardSaid : Prop := Claim7.holds Tryz.pinned (.plain (OpenSpec.upto fnBlocksSpec)) fnBlocksUptoCard

/-- THE SECOND FORM's CARD OF 'laws.FnExactCodeFault'. -/
def fnExactCodeFaultUptoCard : Claim7 := { stood := { row := fnExactCodeFaultUptoRow, standIns := [], harness := (true, "918f4670ea70e3b7f0bf3cb9c9bc6702a9a528590f2550447fb3c0bda23b25bf"), looks := true }, kinds := [], alts := [], laidByText := true, laidKinds := [.data, .data, .data, .handle], laidTests := true, laidLooks := .later }
def FnExactCodeFaultUptoCardSaid : Prop := Claim7.holds Tryz.pinned (.plain (OpenSpec.upto fnExactCodeFaultSpec)) fnExactCodeFaultUptoCard

/-- THE SECOND FORM's CARD OF 'laws.FnExactHeightsOf'. -/
def fnExactHeightsOfUptoCard : Claim7 := { stood := { row := fnExactHeightsOfUptoRow, standIns := [], harness := (true, "918f4670ea70e3b7f0bf3cb9c9bc6702a9a528590f2550447fb3c0bda23b25bf"), looks := true }, kinds := [], alts := [], laidByText := true, laidKinds := [.data, .data, .data, .handle], laidTests := true, laidLooks := .later }
def FnExactHeightsOfUptoCardSaid : Prop := Claim7.holds Tryz.pinned (.plain (OpenSpec.upto fnExactHeightsOfSpec)) fnExactHeightsOfUptoCard

/-- THE SECOND FORM's CARD OF 'laws.FnExactBlockAround'. -/
def fnExactBlockAroundUptoCard : Claim7 := { stood := { row := fnExactBlockAroundUptoRow, standIns := [], harness := (true, "918f4670ea70e3b7f0bf3cb9c9bc6702a9a528590f2550447fb3c0bda23b25bf"), looks := true }, kinds := [], alts := [], laidByText := true, laidKinds := [.data, .data, .data, .handle], laidTests := true, laidLooks := .later }
def FnExactBlockAroundUptoCardSaid : Prop := Claim7.holds Tryz.pinned (.plain (OpenSpec.upto fnExactBlockAroundSpec)) fnExactBlockAroundUptoCard

/-- THE SECOND FORM's CARD OF 'laws.FnExactDeepestOf'. -/
def fnExactDeepestOfUptoCard : Claim7 := { stood := { row := fnExactDeepestOfUptoRow, standIns := [], harness := (true, "918f4670ea70e3b7f0bf3cb9c9bc6702a9a528590f2550447fb3c0bda23b25bf"), looks := true }, kinds := [], alts := [], laidByText := true, laidKinds := [.data, .data, .data, .handle], laidTests := true, laidLooks := .later }
def FnExactDeepestOfUptoCardSaid : Prop := Claim7.holds Tryz.pinned (.plain (OpenSpec.upto fnExactDeepestOfSpec)) fnExactDeepestOfUptoCard
end Rows
end Go.Proofs.YtfcabkhiofmmmaaGreatDoor
