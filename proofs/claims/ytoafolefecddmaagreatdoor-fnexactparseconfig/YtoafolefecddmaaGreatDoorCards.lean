/-
  DERIVED. GIVEN WITH THE SEED: THE CARDS: each row of YtoafolefecddmaaGreatDoorRows.lean that lists a variable, with what it lists TIED to the program's text (the seventh form; the later family's looks); each row that meets fmt, with fmt's text TOLD by the authors' own Lean function (tested against real Go, not proved from fmt's source: count such statements apart). THE CARD IS WHAT COUNTS. Prove the row's statement (the work); the ties are given (YtoafolefecddmaaGreatDoorTie.lean); close each card by the builder's one call (the guide's Derived/Test/ToyasCard.lean, 'card_holds'). Laid BY PROGRAM, IN A SANDBOX (cutbox-door.mjs). By AI agents, Wed Nov 11 2026. No macro, syntax, notation, axiom, sorry.
-/
import Derived.Test.YtoafolefecddmaaGreatDoorRows
import GoSem.ClaimSeven
namespace Go.Proofs.YtoafolefecddmaaGreatDoor
namespace Rows

/-- THE TIED CARD OF 'laws.FnConfigs'. -/
def fnConfigsCard : Claim7 := { stood := { row := fnConfigsRow, standIns := [], harness := (true, "8c8e5589aa5bb5af505d1aab69b86d3b0465263fad3a50da0dae5b2fffcb8960"), looks := true }, kinds := [], alts := [], laidByText := true, laidKinds := [.data, .data, .data, .data, .handle, .sentinel, .sentinel, .pinned], laidTests := true, laidLooks := .later }
def FnConfigsCardSaid : Prop := Claim7.holds Tryz.pinned (.plain (OpenSpec.ofChange fnConfigsSpec)) fnConfigsCard

/-- THE TIED CARD OF 'laws.FnExactFuseCode'. -/
def fnExactFuseCodeCard : Claim7 := { stood := { row := fnExactFuseCodeRow, standIns := [], harness := (true, "8c8e5589aa5bb5af505d1aab69b86d3b0465263fad3a50da0dae5b2fffcb8960"), looks := true }, kinds := [], alts := [], laidByText := true, laidKinds := [.data, .data, .data, .handle, .data], laidTests := true, laidLooks := .later }
def FnExactFuseCodeCardSaid : Prop := Claim7.holds Tryz.pinned (.plain (OpenSpec.ofChange fnExactFuseCodeSpec)) fnExactFuseCodeCard

/-- THE TIED CARD OF 'laws.FnExactUnfuseCode'. -/
def fnExactUnfuseCodeCard : Claim7 := { stood := { row := fnExactUnfuseCodeRow, standIns := [], harness := (true, "8c8e5589aa5bb5af505d1aab69b86d3b0465263fad3a50da0dae5b2fffcb8960"), looks := true }, kinds := [], alts := [], laidByText := true, laidKinds := [.data, .data, .data, .handle, .data], laidTests := true, laidLooks := .later }
def FnExactUnfuseCodeCardSaid : Prop := Claim7.holds Tryz.pinned (.plain (OpenSpec.ofChange fnExactUnfuseCodeSpec)) fnExactUnfuseCodeCard

/-- THE TIED CARD OF 'laws.FnExactFusedIn'. -/
def fnExactFusedInCard : Claim7 := { stood := { row := fnExactFusedInRow, standIns := [], harness := (true, "8c8e5589aa5bb5af505d1aab69b86d3b0465263fad3a50da0dae5b2fffcb8960"), looks := true }, kinds := [], alts := [], laidByText := true, laidKinds := [.data, .data, .data, .handle, .data], laidTests := true, laidLooks := .later }
def FnExactFusedInCardSaid : Prop := Claim7.holds Tryz.pinned (.plain (OpenSpec.ofChange fnExactFusedInSpec)) fnExactFusedInCard

/-- THE TIED CARD OF 'laws.FnExactParseConfig'. -/
def fnExactParseConfigCard : Claim7 := { stood := { row := fnExactParseConfigRow, standIns := [], harness := (true, "8c8e5589aa5bb5af505d1aab69b86d3b0465263fad3a50da0dae5b2fffcb8960"), looks := true }, kinds := [], alts := [], laidByText := true, laidKinds := [.data, .data, .data, .data, .handle, .sentinel, .sentinel, .pinned], laidTests := true, laidLooks := .later }
def FnExactParseConfigCardSaid : Prop := Claim7.holds Tryz.pinned (.plain (OpenSpec.ofChange fnExactParseConfigSpec)) fnExactParseConfigCard

/-- THE SECOND FORM's CARD OF 'laws.FnConfigs'. -/
def fnConfigsUptoCard : Claim7 := { stood := { row := fnConfigsUptoRow, standIns := [], harness := (true, "8c8e5589aa5bb5af505d1aab69b86d3b0465263fad3a50da0dae5b2fffcb8960"), looks := true }, kinds := [], alts := [], laidByText := true, laidKinds := [.data, .data, .data, .data, .handle, .sentinel, .sentinel, .pinned], laidTests := true, laidLooks := .later }
def FnConfigsUptoCardSaid : Prop := Claim7.holds Tryz.pinned (.plain (OpenSpec.upto fnConfigsSpec)) fnConfigsUptoCard

/-- THE SECOND FORM's CARD OF 'laws.FnExactFuseCode'. -/
def fnExactFuseCodeUptoCard : Claim7 := { stood := { row := fnExactFuseCodeUptoRow, standIns := [], harness := (true, "8c8e5589aa5bb5af505d1aab69b86d3b0465263fad3a50da0dae5b2fffcb8960"), looks := true }, kinds := [], alts := [], laidByText := true, laidKinds := [.data, .data, .data, .handle, .data], laidTests := true, laidLooks := .later }
def FnExactFuseCodeUptoCardSaid : Prop := Claim7.holds Tryz.pinned (.plain (OpenSpec.upto fnExactFuseCodeSpec)) fnExactFuseCodeUptoCard

/-- THE SECOND FORM's CARD OF 'laws.FnExactUnfuseCode'. -/
def fnExactUnfuseCodeUptoCard : Claim7 := { stood := { row := fnExactUnfuseCodeUptoRow, standIns := [], harness := (true, "8c8e5589aa5bb5af505d1aab69b86d3b0465263fad3a50da0dae5b2fffcb8960"), looks := true }, kinds := [], alts := [], laidByText := true, laidKinds := [.data, .data, .data, .handle, .data], laidTests := true, laidLooks := .later }
def FnExactUnfuseCodeUptoCardSaid : Prop := Claim7.holds Tryz.pinned (.plain (OpenSpec.upto fnExactUnfuseCodeSpec)) fnExactUnfuseCodeUptoCard

/-- THE SECOND FORM's CARD OF 'laws.FnExactFusedIn'. -/
def fnExactFusedInUptoCard : Claim7 := { stood := { row := fnExactFusedInUptoRow, standIns := [], harness := (true, "8c8e5589aa5bb5af505d1aab69b86d3b0465263fad3a50da0dae5b2fffcb8960"), looks := true }, kinds := [], alts := [], laidByText := true, laidKinds := [.data, .data, .data, .handle, .data], laidTests := true, laidLooks := .later }
def FnExactFusedInUptoCardSaid : Prop := Claim7.holds Tryz.pinned (.plain (OpenSpec.upto fnExactFusedInSpec)) fnExactFusedInUptoCard

/-- THE SECOND FORM's CARD OF 'laws.FnExactParseConfig'. -/
def fnExactParseConfigUptoCard : Claim7 := { stood := { row := fnExactParseConfigUptoRow, standIns := [], harness := (true, "8c8e5589aa5bb5af505d1aab69b86d3b0465263fad3a50da0dae5b2fffcb8960"), looks := true }, kinds := [], alts := [], laidByText := true, laidKinds := [.data, .data, .data, .data, .handle, .sentinel, .sentinel, .pinned], laidTests := true, laidLooks := .later }
def FnExactParseConfigUptoCardSaid : Prop := Claim7.holds Tryz.pinned (.plain (OpenSpec.upto fnExactParseConfigSpec)) fnExactParseConfigUptoCard
end Rows
end Go.Proofs.YtoafolefecddmaaGreatDoor
