/-
  DERIVED. GIVEN WITH THE SEED: THE CARDS: each row of YtfdkklhigliciaaGreatDoorRows.lean that lists a variable, with what it lists TIED to the program's text (the seventh form; the later family's looks); each row that meets fmt, with fmt's text TOLD by the authors' own Lean function (tested against real Go, not proved from fmt's source: count such statements apart). THE CARD IS WHAT COUNTS. Prove the row's statement (the work); the ties are given (YtfdkklhigliciaaGreatDoorTie.lean); close each card by the builder's one call (the guide's Derived/Test/ToyasCard.lean, 'card_holds'). Laid BY PROGRAM, IN A SANDBOX (cutbox-door.mjs). By AI agents, Wed Nov 11 2026. No macro, syntax, notation, axiom, sorry.
-/
import Derived.Test.YtfdkklhigliciaaGreatDoorRows
import GoSem.ClaimSeven
namespace Go.Proofs.YtfdkklhigliciaaGreatDoor
namespace Rows

/-- THE TIED CARD OF 'laws.FnExactExpandData'. -/
def fnExactExpandDataCard : Claim7 := { stood := { row := fnExactExpandDataRow, standIns := [], harness := (true, "63aae2cb31899a4ffa695b0bd42e859833720d1b8cbdec85ecc61f8e9f93492d"), looks := true }, kinds := [], alts := [], laidByText := true, laidKinds := [.data, .data, .data, .handle], laidTests := true, laidLooks := .later }
def FnExactExpandDataCardSaid : Prop := Claim7.holds Tryz.pinned (.plain (OpenSpec.ofChange fnExactExpandDataSpec)) fnExactExpandDataCard

/-- THE TIED CARD OF 'laws.FnExactCoreFor'. -/
def fnExactCoreForCard : Claim7 := { stood := { row := fnExactCoreForRow, standIns := [], harness := (true, "63aae2cb31899a4ffa695b0bd42e859833720d1b8cbdec85ecc61f8e9f93492d"), looks := true }, kinds := [], alts := [], laidByText := true, laidKinds := [.data, .data, .data, .handle, .sentinel, .sentinel], laidTests := true, laidLooks := .later }
def FnExactCoreForCardSaid : Prop := Claim7.holds Tryz.pinned (.plain (OpenSpec.ofChange fnExactCoreForSpec)) fnExactCoreForCard

/-- THE SECOND FORM's CARD OF 'laws.FnExactExpandData'. -/
def fnExactExpandDataUptoCard : Claim7 := { stood := { row := fnExactExpandDataUptoRow, standIns := [], harness := (true, "63aae2cb31899a4ffa695b0bd42e859833720d1b8cbdec85ecc61f8e9f93492d"), looks := true }, kinds := [], alts := [], laidByText := true, laidKinds := [.data, .data, .data, .handle], laidTests := true, laidLooks := .later }
def FnExactExpandDataUptoCardSaid : Prop := Claim7.holds Tryz.pinned (.plain (OpenSpec.upto fnExactExpandDataSpec)) fnExactExpandDataUptoCard

/-- THE SECOND FORM's CARD OF 'laws.FnExactCoreFor'. -/
def fnExactCoreForUptoCard : Claim7 := { stood := { row := fnExactCoreForUptoRow, standIns := [], harness := (true, "63aae2cb31899a4ffa695b0bd42e859833720d1b8cbdec85ecc61f8e9f93492d"), looks := true }, kinds := [], alts := [], laidByText := true, laidKinds := [.data, .data, .data, .handle, .sentinel, .sentinel], laidTests := true, laidLooks := .later }
def FnExactCoreForUptoCardSaid : Prop := Claim7.holds Tryz.pinned (.plain (OpenSpec.upto fnExactCoreForSpec)) fnExactCoreForUptoCard
end Rows
end Go.Proofs.YtfdkklhigliciaaGreatDoor
