/-
  DERIVED. GIVEN WITH THE SEED: THE CARDS: each row of YtebnonpdaddniaaGreatDoorRows.lean that lists a variable, with what it lists TIED to the program's text (the seventh form; the later family's looks); each row that meets fmt, with fmt's text TOLD by the authors' own Lean function (tested against real Go, not proved from fmt's source: count such statements apart). THE CARD IS WHAT COUNTS. Prove the row's statement (the work); the ties are given (YtebnonpdaddniaaGreatDoorTie.lean); close each card by the builder's one call (the guide's Derived/Test/ToyasCard.lean, 'card_holds'). Laid BY PROGRAM, IN A SANDBOX (cutbox-door.mjs). By AI agents, Wed Nov 11 2026. No macro, syntax, notation, axiom, sorry.
-/
import Derived.Test.YtebnonpdaddniaaGreatDoorRows
import GoSem.ClaimSeven
namespace Go.Proofs.YtebnonpdaddniaaGreatDoor
namespace Rows

/-- THE TIED CARD OF 'laws.FnConfigs'. -/
def fnConfigsCard : Claim7 := { stood := { row := fnConfigsRow, standIns := [], harness := (true, "a4749342b92b256f39dfc631ec453c3118b2091bd3fece838f0f5be6f96af06c"), looks := true }, kinds := [], alts := [], laidByText := true, laidKinds := [.data, .data, .data, .data, .handle, .sentinel, .sentinel, .pinned], laidTests := true, laidLooks := .later }
def FnConfigsCardSaid : Prop := Claim7.holds Tryz.pinned (.plain (OpenSpec.ofChange fnConfigsSpec)) fnConfigsCard

/-- THE TIED CARD OF 'laws.FnExactCoreFault'. -/
def fnExactCoreFaultCard : Claim7 := { stood := { row := fnExactCoreFaultRow, standIns := [], harness := (true, "a4749342b92b256f39dfc631ec453c3118b2091bd3fece838f0f5be6f96af06c"), looks := true }, kinds := [], alts := [], laidByText := true, laidKinds := [.data, .data, .data, .handle], laidTests := true, laidLooks := .later }
def FnExactCoreFaultCardSaid : Prop := Claim7.holds Tryz.pinned (.plain (OpenSpec.ofChange fnExactCoreFaultSpec)) fnExactCoreFaultCard

/-- THE TIED CARD OF 'laws.FnExactExpandData'. -/
def fnExactExpandDataCard : Claim7 := { stood := { row := fnExactExpandDataRow, standIns := [], harness := (true, "a4749342b92b256f39dfc631ec453c3118b2091bd3fece838f0f5be6f96af06c"), looks := true }, kinds := [], alts := [], laidByText := true, laidKinds := [.data, .data, .data, .handle], laidTests := true, laidLooks := .later }
def FnExactExpandDataCardSaid : Prop := Claim7.holds Tryz.pinned (.plain (OpenSpec.ofChange fnExactExpandDataSpec)) fnExactExpandDataCard

/-- THE TIED CARD OF 'laws.FnExactCoreText'. -/
def fnExactCoreTextCard : Claim7 := { stood := { row := fnExactCoreTextRow, standIns := [], harness := (true, "a4749342b92b256f39dfc631ec453c3118b2091bd3fece838f0f5be6f96af06c"), looks := true }, kinds := [], alts := [], laidByText := true, laidKinds := [.data, .data, .data, .handle], laidTests := true, laidLooks := .later }
def FnExactCoreTextCardSaid : Prop := Claim7.holds Tryz.pinned (.plain (OpenSpec.ofChange fnExactCoreTextSpec)) fnExactCoreTextCard

/-- THE TIED CARD OF 'laws.FnExactGlobalsIn'. -/
def fnExactGlobalsInCard : Claim7 := { stood := { row := fnExactGlobalsInRow, standIns := [], harness := (true, "a4749342b92b256f39dfc631ec453c3118b2091bd3fece838f0f5be6f96af06c"), looks := true }, kinds := [], alts := [], laidByText := true, laidKinds := [.data, .data, .data, .handle], laidTests := true, laidLooks := .later }
def FnExactGlobalsInCardSaid : Prop := Claim7.holds Tryz.pinned (.plain (OpenSpec.ofChange fnExactGlobalsInSpec)) fnExactGlobalsInCard

/-- THE SECOND FORM's CARD OF 'laws.FnConfigs'. -/
def fnConfigsUptoCard : Claim7 := { stood := { row := fnConfigsUptoRow, standIns := [], harness := (true, "a4749342b92b256f39dfc631ec453c3118b2091bd3fece838f0f5be6f96af06c"), looks := true }, kinds := [], alts := [], laidByText := true, laidKinds := [.data, .data, .data, .data, .handle, .sentinel, .sentinel, .pinned], laidTests := true, laidLooks := .later }
def FnConfigsUptoCardSaid : Prop := Claim7.holds Tryz.pinned (.plain (OpenSpec.upto fnConfigsSpec)) fnConfigsUptoCard

/-- THE SECOND FORM's CARD OF 'laws.FnExactCoreFault'. -/
def fnExactCoreFaultUptoCard : Claim7 := { stood := { row := fnExactCoreFaultUptoRow, standIns := [], harness := (true, "a4749342b92b256f39dfc631ec453c3118b2091bd3fece838f0f5be6f96af06c"), looks := true }, kinds := [], alts := [], laidByText := true, laidKinds := [.data, .data, .data, .handle], laidTests := true, laidLooks := .later }
def FnExactCoreFaultUptoCardSaid : Prop := Claim7.holds Tryz.pinned (.plain (OpenSpec.upto fnExactCoreFaultSpec)) fnExactCoreFaultUptoCard

/-- THE SECOND FORM's CARD OF 'laws.FnExactExpandData'. -/
def fnExactExpandDataUptoCard : Claim7 := { stood := { row := fnExactExpandDataUptoRow, standIns := [], harness := (true, "a4749342b92b256f39dfc631ec453c3118b2091bd3fece838f0f5be6f96af06c"), looks := true }, kinds := [], alts := [], laidByText := true, laidKinds := [.data, .data, .data, .handle], laidTests := true, laidLooks := .later }
def FnExactExpandDataUptoCardSaid : Prop := Claim7.holds Tryz.pinned (.plain (OpenSpec.upto fnExactExpandDataSpec)) fnExactExpandDataUptoCard

/-- THE SECOND FORM's CARD OF 'laws.FnExactCoreText'. -/
def fnExactCoreTextUptoCard : Claim7 := { stood := { row := fnExactCoreTextUptoRow, standIns := [], harness := (true, "a4749342b92b256f39dfc631ec453c3118b2091bd3fece838f0f5be6f96af06c"), looks := true }, kinds := [], alts := [], laidByText := true, laidKinds := [.data, .data, .data, .handle], laidTests := true, laidLooks := .later }
def FnExactCoreTextUptoCardSaid : Prop := Claim7.holds Tryz.pinned (.plain (OpenSpec.upto fnExactCoreTextSpec)) fnExactCoreTextUptoCard

/-- THE SECOND FORM's CARD OF 'laws.FnExactGlobalsIn'. -/
def fnExactGlobalsInUptoCard : Claim7 := { stood := { row := fnExactGlobalsInUptoRow, standIns := [], harness := (true, "a4749342b92b256f39dfc631ec453c3118b2091bd3fece838f0f5be6f96af06c"), looks := true }, kinds := [], alts := [], laidByText := true, laidKinds := [.data, .data, .data, .handle], laidTests := true, laidLooks := .later }
def FnExactGlobalsInUptoCardSaid : Prop := Claim7.holds Tryz.pinned (.plain (OpenSpec.upto fnExactGlobalsInSpec)) fnExactGlobalsInUptoCard
end Rows
end Go.Proofs.YtebnonpdaddniaaGreatDoor
