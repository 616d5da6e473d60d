/-
  DERIVED. GIVEN WITH THE SEED: THE CARDS: each row of YtomkdofagjkfiaaDoorRows.lean that lists a variable, with what it lists TIED to the program's text (the seventh form; the later family's looks); each row that meets fmt, with fmt's text TOLD by the authors' own Lean function (tested against real Go, not proved from fmt's source: count such statements apart). THE CARD IS WHAT COUNTS. Prove the row's statement (the work); the ties are given (YtomkdofagjkfiaaDoorTie.lean); close each card by the builder's one call (the guide's Derived/Test/ToyasCard.lean, 'card_holds'). Laid BY PROGRAM, IN A SANDBOX (cutbox-door.mjs). By AI agents, Wed Nov 11 2026. No macro, syntax, notation, axiom, sorry.
-/
import Derived.Test.YtomkdofagjkfiaaDoorRows
import GoSem.ClaimSeven
namespace Go.Proofs.YtomkdofagjkfiaaDoor
namespace Rows

/-- THE TIED CARD OF 'laws.FnNums'. -/
def fnNumsCard : Claim7 := { stood := { row := fnNumsRow, standIns := [], harness := (true, "78d457fc07086b6a293ab0ef931464b94d1c5ad0339190081032b1e1f1649427"), looks := true }, kinds := [], alts := [], laidByText := true, laidKinds := [.data, .data, .data, .handle, .sentinel, .sentinel], laidTests := true, laidLooks := .later }
def FnNumsCardSaid : Prop := Claim7.holds Tryd.pinned (.plain (OpenSpec.ofChange fnNumsSpec)) fnNumsCard

/-- THE TIED CARD OF 'laws.FnDivs'. -/
def fnDivsCard : Claim7 := { stood := { row := fnDivsRow, standIns := [], harness := (true, "78d457fc07086b6a293ab0ef931464b94d1c5ad0339190081032b1e1f1649427"), looks := true }, kinds := [], alts := [], laidByText := true, laidKinds := [.handle], laidTests := true, laidLooks := .later }
def FnDivsCardSaid : Prop := Claim7.holds Tryd.pinned (.plain (OpenSpec.ofChange fnDivsSpec)) fnDivsCard

/-- THE TIED CARD OF 'laws.FnExactNumFault'. -/
def fnExactNumFaultCard : Claim7 := { stood := { row := fnExactNumFaultRow, standIns := [], harness := (true, "78d457fc07086b6a293ab0ef931464b94d1c5ad0339190081032b1e1f1649427"), looks := true }, kinds := [], alts := [], laidByText := true, laidKinds := [.handle], laidTests := true, laidLooks := .later }
def FnExactNumFaultCardSaid : Prop := Claim7.holds Tryd.pinned (.plain (OpenSpec.ofChange fnExactNumFaultSpec)) fnExactNumFaultCard

/-- THE TIED CARD OF 'laws.FnExactAddNum'. -/
def fnExactAddNumCard : Claim7 := { stood := { row := fnExactAddNumRow, standIns := [], harness := (true, "78d457fc07086b6a293ab0ef931464b94d1c5ad0339190081032b1e1f1649427"), looks := true }, kinds := [], alts := [], laidByText := true, laidKinds := [.handle], laidTests := true, laidLooks := .later }
def FnExactAddNumCardSaid : Prop := Claim7.holds Tryd.pinned (.plain (OpenSpec.ofChange fnExactAddNumSpec)) fnExactAddNumCard

/-- THE TIED CARD OF 'laws.FnExactSubNum'. -/
def fnExactSubNumCard : Claim7 := { stood := { row := fnExactSubNumRow, standIns := [], harness := (true, "78d457fc07086b6a293ab0ef931464b94d1c5ad0339190081032b1e1f1649427"), looks := true }, kinds := [], alts := [], laidByText := true, laidKinds := [.handle], laidTests := true, laidLooks := .later }
def FnExactSubNumCardSaid : Prop := Claim7.holds Tryd.pinned (.plain (OpenSpec.ofChange fnExactSubNumSpec)) fnExactSubNumCard

/-- THE TIED CARD OF 'laws.FnExactMulNum'. -/
def fnExactMulNumCard : Claim7 := { stood := { row := fnExactMulNumRow, standIns := [], harness := (true, "78d457fc07086b6a293ab0ef931464b94d1c5ad0339190081032b1e1f1649427"), looks := true }, kinds := [], alts := [], laidByText := true, laidKinds := [.handle], laidTests := true, laidLooks := .later }
def FnExactMulNumCardSaid : Prop := Claim7.holds Tryd.pinned (.plain (OpenSpec.ofChange fnExactMulNumSpec)) fnExactMulNumCard

/-- THE TIED CARD OF 'laws.FnExactQuoNum'. -/
def fnExactQuoNumCard : Claim7 := { stood := { row := fnExactQuoNumRow, standIns := [], harness := (true, "78d457fc07086b6a293ab0ef931464b94d1c5ad0339190081032b1e1f1649427"), looks := true }, kinds := [], alts := [], laidByText := true, laidKinds := [.handle], laidTests := true, laidLooks := .later }
def FnExactQuoNumCardSaid : Prop := Claim7.holds Tryd.pinned (.plain (OpenSpec.ofChange fnExactQuoNumSpec)) fnExactQuoNumCard

/-- THE TIED CARD OF 'laws.FnExactRemNum'. -/
def fnExactRemNumCard : Claim7 := { stood := { row := fnExactRemNumRow, standIns := [], harness := (true, "78d457fc07086b6a293ab0ef931464b94d1c5ad0339190081032b1e1f1649427"), looks := true }, kinds := [], alts := [], laidByText := true, laidKinds := [.handle], laidTests := true, laidLooks := .later }
def FnExactRemNumCardSaid : Prop := Claim7.holds Tryd.pinned (.plain (OpenSpec.ofChange fnExactRemNumSpec)) fnExactRemNumCard

/-- THE TIED CARD OF 'laws.FnExactNumText'. -/
def fnExactNumTextCard : Claim7 := { stood := { row := fnExactNumTextRow, standIns := [], harness := (true, "78d457fc07086b6a293ab0ef931464b94d1c5ad0339190081032b1e1f1649427"), looks := true }, kinds := [], alts := [], laidByText := true, laidKinds := [.data, .data, .data, .handle], laidTests := true, laidLooks := .later }
def FnExactNumTextCardSaid : Prop := Claim7.holds Tryd.pinned (.plain (OpenSpec.ofChange fnExactNumTextSpec)) fnExactNumTextCard

/-- THE TIED CARD OF 'laws.FnExactParseNum'. -/
def fnExactParseNumCard : Claim7 := { stood := { row := fnExactParseNumRow, standIns := [], harness := (true, "78d457fc07086b6a293ab0ef931464b94d1c5ad0339190081032b1e1f1649427"), looks := true }, kinds := [], alts := [], laidByText := true, laidKinds := [.data, .data, .data, .handle, .sentinel, .sentinel], laidTests := true, laidLooks := .later }
def FnExactParseNumCardSaid : Prop := Claim7.holds Tryd.pinned (.plain (OpenSpec.ofChange fnExactParseNumSpec)) fnExactParseNumCard

/-- THE SECOND FORM's CARD OF 'laws.FnNums'. -/
def fnNumsUptoCard : Claim7 := { stood := { row := fnNumsUptoRow, standIns := [], harness := (true, "78d457fc07086b6a293ab0ef931464b94d1c5ad0339190081032b1e1f1649427"), looks := true }, kinds := [], alts := [], laidByText := true, laidKinds := [.data, .data, .data, .handle, .sentinel, .sentinel], laidTests := true, laidLooks := .later }
def FnNumsUptoCardSaid : Prop := Claim7.holds Tryd.pinned (.plain (OpenSpec.upto fnNumsSpec)) fnNumsUptoCard

/-- THE SECOND FORM's CARD OF 'laws.FnDivs'. -/
def fnDivsUptoCard : Claim7 := { stood := { row := fnDivsUptoRow, standIns := [], harness := (true, "78d457fc07086b6a293ab0ef931464b94d1c5ad0339190081032b1e1f1649427"), looks := true }, kinds := [], alts := [], laidByText := true, laidKinds := [.handle], laidTests := true, laidLooks := .later }
def FnDivsUptoCardSaid : Prop := Claim7.holds Tryd.pinned (.plain (OpenSpec.upto fnDivsSpec)) fnDivsUptoCard

/-- THE SECOND FORM's CARD OF 'laws.FnExactNumFault'. -/
def fnExactNumFaultUptoCard : Claim7 := { stood := { row := fnExactNumFaultUptoRow, standIns := [], harness := (true, "78d457fc07086b6a293ab0ef931464b94d1c5ad0339190081032b1e1f1649427"), looks := true }, kinds := [], alts := [], laidByText := true, laidKinds := [.handle], laidTests := true, laidLooks := .later }
def FnExactNumFaultUptoCardSaid : Prop := Claim7.holds Tryd.pinned (.plain (OpenSpec.upto fnExactNumFaultSpec)) fnExactNumFaultUptoCard

/-- THE SECOND FORM's CARD OF 'laws.FnExactAddNum'. -/
def fnExactAddNumUptoCard : Claim7 := { stood := { row := fnExactAddNumUptoRow, standIns := [], harness := (true, "78d457fc07086b6a293ab0ef931464b94d1c5ad0339190081032b1e1f1649427"), looks := true }, kinds := [], alts := [], laidByText := true, laidKinds := [.handle], laidTests := true, laidLooks := .later }
def FnExactAddNumUptoCardSaid : Prop := Claim7.holds Tryd.pinned (.plain (OpenSpec.upto fnExactAddNumSpec)) fnExactAddNumUptoCard

/-- THE SECOND FORM's CARD OF 'laws.FnExactSubNum'. -/
def fnExactSubNumUptoCard : Claim7 := { stood := { row := fnExactSubNumUptoRow, standIns := [], harness := (true, "78d457fc07086b6a293ab0ef931464b94d1c5ad0339190081032b1e1f1649427"), looks := true }, kinds := [], alts := [], laidByText := true, laidKinds := [.handle], laidTests := true, laidLooks := .later }
def FnExactSubNumUptoCardSaid : Prop := Claim7.holds Tryd.pinned (.plain (OpenSpec.upto fnExactSubNumSpec)) fnExactSubNumUptoCard

/-- THE SECOND FORM's CARD OF 'laws.FnExactMulNum'. -/
def fnExactMulNumUptoCard : Claim7 := { stood := { row := fnExactMulNumUptoRow, standIns := [], harness := (true, "78d457fc07086b6a293ab0ef931464b94d1c5ad0339190081032b1e1f1649427"), looks := true }, kinds := [], alts := [], laidByText := true, laidKinds := [.handle], laidTests := true, laidLooks := .later }
def FnExactMulNumUptoCardSaid : Prop := Claim7.holds Tryd.pinned (.plain (OpenSpec.upto fnExactMulNumSpec)) fnExactMulNumUptoCard

/-- THE SECOND FORM's CARD OF 'laws.FnExactQuoNum'. -/
def fnExactQuoNumUptoCard : Claim7 := { stood := { row := fnExactQuoNumUptoRow, standIns := [], harness := (true, "78d457fc07086b6a293ab0ef931464b94d1c5ad0339190081032b1e1f1649427"), looks := true }, kinds := [], alts := [], laidByText := true, laidKinds := [.handle], laidTests := true, laidLooks := .later }
def FnExactQuoNumUptoCardSaid : Prop := Claim7.holds Tryd.pinned (.plain (OpenSpec.upto fnExactQuoNumSpec)) fnExactQuoNumUptoCard

/-- THE SECOND FORM's CARD OF 'laws.FnExactRemNum'. -/
def fnExactRemNumUptoCard : Claim7 := { stood := { row := fnExactRemNumUptoRow, standIns := [], harness := (true, "78d457fc07086b6a293ab0ef931464b94d1c5ad0339190081032b1e1f1649427"), looks := true }, kinds := [], alts := [], laidByText := true, laidKinds := [.handle], laidTests := true, laidLooks := .later }
def FnExactRemNumUptoCardSaid : Prop := Claim7.holds Tryd.pinned (.plain (OpenSpec.upto fnExactRemNumSpec)) fnExactRemNumUptoCard

/-- THE SECOND FORM's CARD OF 'laws.FnExactNumText'. -/
def fnExactNumTextUptoCard : Claim7 := { stood := { row := fnExactNumTextUptoRow, standIns := [], harness := (true, "78d457fc07086b6a293ab0ef931464b94d1c5ad0339190081032b1e1f1649427"), looks := true }, kinds := [], alts := [], laidByText := true, laidKinds := [.data, .data, .data, .handle], laidTests := true, laidLooks := .later }
def FnExactNumTextUptoCardSaid : Prop := Claim7.holds Tryd.pinned (.plain (OpenSpec.upto fnExactNumTextSpec)) fnExactNumTextUptoCard

/-- THE SECOND FORM's CARD OF 'laws.FnExactParseNum'. -/
def fnExactParseNumUptoCard : Claim7 := { stood := { row := fnExactParseNumUptoRow, standIns := [], harness := (true, "78d457fc07086b6a293ab0ef931464b94d1c5ad0339190081032b1e1f1649427"), looks := true }, kinds := [], alts := [], laidByText := true, laidKinds := [.data, .data, .data, .handle, .sentinel, .sentinel], laidTests := true, laidLooks := .later }
def FnExactParseNumUptoCardSaid : Prop := Claim7.holds Tryd.pinned (.plain (OpenSpec.upto fnExactParseNumSpec)) fnExactParseNumUptoCard
end Rows
end Go.Proofs.YtomkdofagjkfiaaDoor
