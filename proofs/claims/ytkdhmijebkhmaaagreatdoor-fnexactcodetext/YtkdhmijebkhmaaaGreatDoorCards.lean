/-
  DERIVED. GIVEN WITH THE SEED: THE CARDS: each row of YtkdhmijebkhmaaaGreatDoorRows.lean that lists a variable, with what it lists TIED to the program's text (the seventh form; the later family's looks); each row that meets fmt, with fmt's text TOLD by the authors' own Lean function (tested against real Go, not proved from fmt's source: count such statements apart). THE CARD IS WHAT COUNTS. Prove the row's statement (the work); the ties are given (YtkdhmijebkhmaaaGreatDoorTie.lean); close each card by the builder's one call (the guide's Derived/Test/ToyasCard.lean, 'card_holds'). Laid BY PROGRAM, IN A SANDBOX (cutbox-door.mjs). By AI agents, Wed Nov 11 2026. No macro, syntax, notation, axiom, sorry.
-/
import Derived.Test.YtkdhmijebkhmaaaGreatDoorRows
import GoSem.ClaimSeven
namespace Go.Proofs.YtkdhmijebkhmaaaGreatDoor
namespace Rows

/-- THE TIED CARD OF 'laws.FnExactCodeText'. -/
def fnExactCodeTextCard : Claim7 := { stood := { row := fnExactCodeTextRow, standIns := [], harness := (true, "aa1f2a8b108f8897e207c1dffcfbf74f61929b7f34151132f751c5d4d0540949"), looks := true }, kinds := [], alts := [], laidByText := true, laidKinds := [.data, .data, .data, .handle], laidTests := true, laidLooks := .later }
def FnExactCodeTextCardSaid : Prop := Claim7.holds Tryz.pinned (.plain (OpenSpec.ofChange fnExactCodeTextSpec)) fnExactCodeTextCard

/-- THE TIED CARD OF 'laws.FnExactCountOps'. -/
def fnExactCountOpsCard : Claim7 := { stood := { row := fnExactCountOpsRow, standIns := [], harness := (true, "aa1f2a8b108f8897e207c1dffcfbf74f61929b7f34151132f751c5d4d0540949"), looks := true }, kinds := [], alts := [], laidByText := true, laidKinds := [.data, .data, .data, .handle], laidTests := true, laidLooks := .later }
def FnExactCountOpsCardSaid : Prop := Claim7.holds Tryz.pinned (.plain (OpenSpec.ofChange fnExactCountOpsSpec)) fnExactCountOpsCard

/-- THE TIED CARD OF 'laws.FnExactTargetsIn'. -/
def fnExactTargetsInCard : Claim7 := { stood := { row := fnExactTargetsInRow, standIns := [], harness := (true, "aa1f2a8b108f8897e207c1dffcfbf74f61929b7f34151132f751c5d4d0540949"), looks := true }, kinds := [], alts := [], laidByText := true, laidKinds := [.data, .data, .data, .handle], laidTests := true, laidLooks := .later }
def FnExactTargetsInCardSaid : Prop := Claim7.holds Tryz.pinned (.plain (OpenSpec.ofChange fnExactTargetsInSpec)) fnExactTargetsInCard

/-- THE SECOND FORM's CARD OF 'laws.FnExactCodeText'. -/
def fnExactCodeTextUptoCard : Claim7 := { stood := { row := fnExactCodeTextUptoRow, standIns := [], harness := (true, "aa1f2a8b108f8897e207c1dffcfbf74f61929b7f34151132f751c5d4d0540949"), looks := true }, kinds := [], alts := [], laidByText := true, laidKinds := [.data, .data, .data, .handle], laidTests := true, laidLooks := .later }
def FnExactCodeTextUptoCardSaid : Prop := Claim7.holds Tryz.pinned (.plain (OpenSpec.upto fnExactCodeTextSpec)) fnExactCodeTextUptoCard

/-- THE SECOND FORM's CARD OF 'laws.FnExactCountOps'. -/
def fnExactCountOpsUptoCard : Claim7 := { stood := { row := fnExactCountOpsUptoRow, standIns := [], harness := (true, "aa1f2a8b108f8897e207c1dffcfbf74f61929b7f34151132f751c5d4d0540949"), looks := true }, kinds := [], alts := [], laidByText := true, laidKinds := [.data, .data, .data, .handle], laidTests := true, laidLooks := .later }
def FnExactCountOpsUptoCardSaid : Prop := Claim7.holds Tryz.pinned (.plain (OpenSpec.upto fnExactCountOpsSpec)) fnExactCountOpsUptoCard

/-- THE SECOND FORM's CARD OF 'laws.FnExactTargetsIn'. -/
def fnExactTargetsInUptoCard : Claim7 := { stood := { row := fnExactTargetsInUptoRow, standIns := [], harness := (true, "aa1f2a8b108f8897e207c1dffcfbf74f61929b7f34151132f751c5d4d0540949"), looks := true }, kinds := [], alts := [], laidByText := true, laidKinds := [.data, .data, .data, .handle], laidTests := true, laidLooks := .later }
def FnExactTargetsInUptoCardSaid : Prop := Claim7.holds Tryz.pinned (.plain (OpenSpec.upto fnExactTargetsInSpec)) fnExactTargetsInUptoCard
end Rows
end Go.Proofs.YtkdhmijebkhmaaaGreatDoor
