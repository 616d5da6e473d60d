/-
  DERIVED. GIVEN WITH THE SEED: THE CARDS: each row of YtoljpgpkeploiaaDoorRows.lean that lists a variable, with what it lists TIED to the program's text (the seventh form; the later family's looks); each row that meets fmt, with fmt's text TOLD by the authors' own Lean function (tested against real Go, not proved from fmt's source: count such statements apart). THE CARD IS WHAT COUNTS. Prove the row's statement (the work); the ties are given (YtoljpgpkeploiaaDoorTie.lean); close each card by the builder's one call (the guide's Derived/Test/ToyasCard.lean, 'card_holds'). Laid BY PROGRAM, IN A SANDBOX (cutbox-door.mjs). By AI agents, Wed Nov 11 2026. No macro, syntax, notation, axiom, sorry.
-/
import Derived.Test.YtoljpgpkeploiaaDoorRows
import GoSem.ClaimSeven
namespace Go.Proofs.YtoljpgpkeploiaaDoor
namespace Rows

/-- THE TIED CARD OF 'laws.FnExactDataFault'. -/
def fnExactDataFaultCard : Claim7 := { stood := { row := fnExactDataFaultRow, standIns := [], harness := (true, "43690b3e6ceaa6ab64b0eaf1f19fc0b9c3cb547e8fc344b5f1d031dec625188b"), looks := true }, kinds := [], alts := [], laidByText := true, laidKinds := [.data, .data, .data, .handle], laidTests := true, laidLooks := .later }
def FnExactDataFaultCardSaid : Prop := Claim7.holds Tryd.pinned (.plain (OpenSpec.ofChange fnExactDataFaultSpec)) fnExactDataFaultCard

/-- THE TIED CARD OF 'laws.FnExactReadData'. -/
def fnExactReadDataCard : Claim7 := { stood := { row := fnExactReadDataRow, standIns := [], harness := (true, "43690b3e6ceaa6ab64b0eaf1f19fc0b9c3cb547e8fc344b5f1d031dec625188b"), looks := true }, kinds := [], alts := [], laidByText := true, laidKinds := [.data, .data, .data, .sentinel, .sentinel], laidTests := true, laidLooks := .later }
def FnExactReadDataCardSaid : Prop := Claim7.holds Tryd.pinned (.plain (OpenSpec.ofChange fnExactReadDataSpec)) fnExactReadDataCard

/-- THE TIED CARD OF 'laws.FnExactWriteData'. -/
def fnExactWriteDataCard : Claim7 := { stood := { row := fnExactWriteDataRow, standIns := [], harness := (true, "43690b3e6ceaa6ab64b0eaf1f19fc0b9c3cb547e8fc344b5f1d031dec625188b"), looks := true }, kinds := [], alts := [], laidByText := true, laidKinds := [.data, .data, .data, .handle], laidTests := true, laidLooks := .later }
def FnExactWriteDataCardSaid : Prop := Claim7.holds Tryd.pinned (.plain (OpenSpec.ofChange fnExactWriteDataSpec)) fnExactWriteDataCard

/-- THE TIED CARD OF 'laws.FnExactPartsOf'. -/
def fnExactPartsOfCard : Claim7 := { stood := { row := fnExactPartsOfRow, standIns := [], harness := (true, "43690b3e6ceaa6ab64b0eaf1f19fc0b9c3cb547e8fc344b5f1d031dec625188b"), looks := true }, kinds := [], alts := [], laidByText := true, laidKinds := [.data, .data, .data, .handle], laidTests := true, laidLooks := .later }
def FnExactPartsOfCardSaid : Prop := Claim7.holds Tryd.pinned (.plain (OpenSpec.ofChange fnExactPartsOfSpec)) fnExactPartsOfCard

/-- THE TIED CARD OF 'laws.FnExactSubData'. -/
def fnExactSubDataCard : Claim7 := { stood := { row := fnExactSubDataRow, standIns := [], harness := (true, "43690b3e6ceaa6ab64b0eaf1f19fc0b9c3cb547e8fc344b5f1d031dec625188b"), looks := true }, kinds := [], alts := [], laidByText := true, laidKinds := [.data, .data, .data, .handle], laidTests := true, laidLooks := .later }
def FnExactSubDataCardSaid : Prop := Claim7.holds Tryd.pinned (.plain (OpenSpec.ofChange fnExactSubDataSpec)) fnExactSubDataCard

/-- THE SECOND FORM's CARD OF 'laws.FnExactDataFault'. -/
def fnExactDataFaultUptoCard : Claim7 := { stood := { row := fnExactDataFaultUptoRow, standIns := [], harness := (true, "43690b3e6ceaa6ab64b0eaf1f19fc0b9c3cb547e8fc344b5f1d031dec625188b"), looks := true }, kinds := [], alts := [], laidByText := true, laidKinds := [.data, .data, .data, .handle], laidTests := true, laidLooks := .later }
def FnExactDataFaultUptoCardSaid : Prop := Claim7.holds Tryd.pinned (.plain (OpenSpec.upto fnExactDataFaultSpec)) fnExactDataFaultUptoCard

/-- THE SECOND FORM's CARD OF 'laws.FnExactReadData'. -/
def fnExactReadDataUptoCard : Claim7 := { stood := { row := fnExactReadDataUptoRow, standIns := [], harness := (true, "43690b3e6ceaa6ab64b0eaf1f19fc0b9c3cb547e8fc344b5f1d031dec625188b"), looks := true }, kinds := [], alts := [], laidByText := true, laidKinds := [.data, .data, .data, .sentinel, .sentinel], laidTests := true, laidLooks := .later }
def FnExactReadDataUptoCardSaid : Prop := Claim7.holds Tryd.pinned (.plain (OpenSpec.upto fnExactReadDataSpec)) fnExactReadDataUptoCard

/-- THE SECOND FORM's CARD OF 'laws.FnExactWriteData'. -/
def fnExactWriteDataUptoCard : Claim7 := { stood := { row := fnExactWriteDataUptoRow, standIns := [], harness := (true, "43690b3e6ceaa6ab64b0eaf1f19fc0b9c3cb547e8fc344b5f1d031dec625188b"), looks := true }, kinds := [], alts := [], laidByText := true, laidKinds := [.data, .data, .data, .handle], laidTests := true, laidLooks := .later }
def FnExactWriteDataUptoCardSaid : Prop := Claim7.holds Tryd.pinned (.plain (OpenSpec.upto fnExactWriteDataSpec)) fnExactWriteDataUptoCard

/-- THE SECOND FORM's CARD OF 'laws.FnExactPartsOf'. -/
def fnExactPartsOfUptoCard : Claim7 := { stood := { row := fnExactPartsOfUptoRow, standIns := [], harness := (true, "43690b3e6ceaa6ab64b0eaf1f19fc0b9c3cb547e8fc344b5f1d031dec625188b"), looks := true }, kinds := [], alts := [], laidByText := true, laidKinds := [.data, .data, .data, .handle], laidTests := true, laidLooks := .later }
def FnExactPartsOfUptoCardSaid : Prop := Claim7.holds Tryd.pinned (.plain (OpenSpec.upto fnExactPartsOfSpec)) fnExactPartsOfUptoCard

/-- THE SECOND FORM's CARD OF 'laws.FnExactSubData'. -/
def fnExactSubDataUptoCard : Claim7 := { stood := { row := fnExactSubDataUptoRow, standIns := [], harness := (true, "43690b3e6ceaa6ab64b0eaf1f19fc0b9c3cb547e8fc344b5f1d031dec625188b"), looks := true }, kinds := [], alts := [], laidByText := true, laidKinds := [.data, .data, .data, .handle], laidTests := true, laidLooks := .later }
def FnExactSubDataUptoCardSaid : Prop := Claim7.holds Tryd.pinned (.plain (OpenSpec.upto fnExactSubDataSpec)) fnExactSubDataUptoCard
end Rows
end Go.Proofs.YtoljpgpkeploiaaDoor
