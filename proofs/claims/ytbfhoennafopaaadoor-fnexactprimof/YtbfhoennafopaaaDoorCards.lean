/-
  DERIVED. GIVEN WITH THE SEED: THE CARDS: each row of YtbfhoennafopaaaDoorRows.lean that lists a variable, with what it lists TIED to the program's text (the seventh form; the later family's looks); each row that meets fmt, with fmt's text TOLD by the authors' own Lean function (tested against real Go, not proved from fmt's source: count such statements apart). THE CARD IS WHAT COUNTS. Prove the row's statement (the work); the ties are given (YtbfhoennafopaaaDoorTie.lean); close each card by the builder's one call (the guide's Derived/Test/ToyasCard.lean, 'card_holds'). Laid BY PROGRAM, IN A SANDBOX (cutbox-door.mjs). By AI agents, Wed Nov 11 2026. No macro, syntax, notation, axiom, sorry.
-/
import Derived.Test.YtbfhoennafopaaaDoorRows
import GoSem.ClaimSeven
namespace Go.Proofs.YtbfhoennafopaaaDoor
namespace Rows

/-- THE TIED CARD OF 'laws.FnPrims'. -/
def fnPrimsCard : Claim7 := { stood := { row := fnPrimsRow, standIns := [], harness := (true, "c1851f19af4dfba02b819b1d35bee1e29ee92216d9489b3c995750f5431e807c"), looks := true }, kinds := [], alts := [], laidByText := true, laidKinds := [.handle], laidTests := true, laidLooks := .later }
def FnPrimsCardSaid : Prop := Claim7.holds Tryd.pinned (.plain (OpenSpec.ofChange fnPrimsSpec)) fnPrimsCard

/-- THE TIED CARD OF 'laws.FnExactShowValue'. -/
def fnExactShowValueCard : Claim7 := { stood := { row := fnExactShowValueRow, standIns := [], harness := (true, "c1851f19af4dfba02b819b1d35bee1e29ee92216d9489b3c995750f5431e807c"), looks := true }, kinds := [], alts := [], laidByText := true, laidKinds := [.data, .data, .data, .handle], laidTests := true, laidLooks := .later }
def FnExactShowValueCardSaid : Prop := Claim7.holds Tryd.pinned (.plain (OpenSpec.ofChange fnExactShowValueSpec)) fnExactShowValueCard

/-- THE TIED CARD OF 'laws.FnExactPrimText'. -/
def fnExactPrimTextCard : Claim7 := { stood := { row := fnExactPrimTextRow, standIns := [], harness := (true, "c1851f19af4dfba02b819b1d35bee1e29ee92216d9489b3c995750f5431e807c"), looks := true }, kinds := [], alts := [], laidByText := true, laidKinds := [.handle], laidTests := true, laidLooks := .later }
def FnExactPrimTextCardSaid : Prop := Claim7.holds Tryd.pinned (.plain (OpenSpec.ofChange fnExactPrimTextSpec)) fnExactPrimTextCard

/-- THE TIED CARD OF 'laws.FnExactPrimOf'. -/
def fnExactPrimOfCard : Claim7 := { stood := { row := fnExactPrimOfRow, standIns := [], harness := (true, "c1851f19af4dfba02b819b1d35bee1e29ee92216d9489b3c995750f5431e807c"), looks := true }, kinds := [], alts := [], laidByText := true, laidKinds := [.handle], laidTests := true, laidLooks := .later }
def FnExactPrimOfCardSaid : Prop := Claim7.holds Tryd.pinned (.plain (OpenSpec.ofChange fnExactPrimOfSpec)) fnExactPrimOfCard

/-- THE TIED CARD OF 'laws.FnExactArgsFor'. -/
def fnExactArgsForCard : Claim7 := { stood := { row := fnExactArgsForRow, standIns := [], harness := (true, "c1851f19af4dfba02b819b1d35bee1e29ee92216d9489b3c995750f5431e807c"), looks := true }, kinds := [], alts := [], laidByText := true, laidKinds := [.handle], laidTests := true, laidLooks := .later }
def FnExactArgsForCardSaid : Prop := Claim7.holds Tryd.pinned (.plain (OpenSpec.ofChange fnExactArgsForSpec)) fnExactArgsForCard

/-- THE SECOND FORM's CARD OF 'laws.FnPrims'. -/
def fnPrimsUptoCard : Claim7 := { stood := { row := fnPrimsUptoRow, standIns := [], harness := (true, "c1851f19af4dfba02b819b1d35bee1e29ee92216d9489b3c995750f5431e807c"), looks := true }, kinds := [], alts := [], laidByText := true, laidKinds := [.handle], laidTests := true, laidLooks := .later }
def FnPrimsUptoCardSaid : Prop := Claim7.holds Tryd.pinned (.plain (OpenSpec.upto fnPrimsSpec)) fnPrimsUptoCard

/-- THE SECOND FORM's CARD OF 'laws.FnExactShowValue'. -/
def fnExactShowValueUptoCard : Claim7 := { stood := { row := fnExactShowValueUptoRow, standIns := [], harness := (true, "c1851f19af4dfba02b819b1d35bee1e29ee92216d9489b3c995750f5431e807c"), looks := true }, kinds := [], alts := [], laidByText := true, laidKinds := [.data, .data, .data, .handle], laidTests := true, laidLooks := .later }
def FnExactShowValueUptoCardSaid : Prop := Claim7.holds Tryd.pinned (.plain (OpenSpec.upto fnExactShowValueSpec)) fnExactShowValueUptoCard

/-- THE SECOND FORM's CARD OF 'laws.FnExactPrimText'. -/
def fnExactPrimTextUptoCard : Claim7 := { stood := { row := fnExactPrimTextUptoRow, standIns := [], harness := (true, "c1851f19af4dfba02b819b1d35bee1e29ee92216d9489b3c995750f5431e807c"), looks := true }, kinds := [], alts := [], laidByText := true, laidKinds := [.handle], laidTests := true, laidLooks := .later }
def FnExactPrimTextUptoCardSaid : Prop := Claim7.holds Tryd.pinned (.plain (OpenSpec.upto fnExactPrimTextSpec)) fnExactPrimTextUptoCard

/-- THE SECOND FORM's CARD OF 'laws.FnExactPrimOf'. -/
def fnExactPrimOfUptoCard : Claim7 := { stood := { row := fnExactPrimOfUptoRow, standIns := [], harness := (true, "c1851f19af4dfba02b819b1d35bee1e29ee92216d9489b3c995750f5431e807c"), looks := true }, kinds := [], alts := [], laidByText := true, laidKinds := [.handle], laidTests := true, laidLooks := .later }
def FnExactPrimOfUptoCardSaid : Prop := Claim7.holds Tryd.pinned (.plain (OpenSpec.upto fnExactPrimOfSpec)) fnExactPrimOfUptoCard

/-- THE SECOND FORM's CARD OF 'laws.FnExactArgsFor'. -/
def fnExactArgsForUptoCard : Claim7 := { stood := { row := fnExactArgsForUptoRow, standIns := [], harness := (true, "c1851f19af4dfba02b819b1d35bee1e29ee92216d9489b3c995750f5431e807c"), looks := true }, kinds := [], alts := [], laidByText := true, laidKinds := [.handle], laidTests := true, laidLooks := .later }
def FnExactArgsForUptoCardSaid : Prop := Claim7.holds Tryd.pinned (.plain (OpenSpec.upto fnExactArgsForSpec)) fnExactArgsForUptoCard
end Rows
end Go.Proofs.YtbfhoennafopaaaDoor
