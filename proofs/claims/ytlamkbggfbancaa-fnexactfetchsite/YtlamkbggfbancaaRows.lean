/-
  No cell of these rows narrows 'for every input' (looked for: loops, veiled, ifaces, maps, wideKeys, modest, calm, conditions, laid).
  DERIVED. THE GIVEN ROWS OF THIS SEAT. 8 by the template 'for every input the law returns true; each argument reads behind the call as it read before'; 0 by the template 'total and deterministic' (their statements: YtlamkbggfbancaaTotals.lean).
  GIVEN WITH THE SEED: the statements are not yours to turn. If you find one false, say at which input.
  Laid BY PROGRAM, IN A SANDBOX (cutbox-rows.mjs): the forced cells as the released guide's own fill.sh prints them over the translation 149a977ce678d198… (all of the seat's roots in one cut). By AI agents, Wed Nov 11 2026. No macro, syntax, notation, axiom, sorry.
-/
import Derived.Test.YtlamkbggfbancaaChecked
import GoSem.Claim
import GoSem.ClaimJoined
import GoSem.ClaimMapViews
import Derived.JoinedTies
import Derived.KernelRfl
namespace Go.Proofs.Ytlamkbggfbancaa
/- THE CELL 'sum', in the pinned program and in every row, IS THE sha256 OF THE DUMP (.gsa) THAT YtlamkbggfbancaaProg.lean LOADS. Nothing in Lean hashes anything: it is a label: what it is worth is what the hold of that sum in a sandbox is worth. -/
noncomputable def Try.pinned : Pinned := { name := "ytlamkbggfbancaa", sum := "149a977ce678d19897d41522ff1ae0b71a0dcc0f11f61f27823620380074f100", checked := Try.checked }
namespace Rows
def none {H : Type} : Left H := { results := [], args := [] }

/-- 'laws.FnGlobals': WHATEVER THE INPUT: true; the input reads as it did. -/
def fnGlobalsSpec : ChangeSpec := { name := "fnGlobals", fn := fun _ => fun
  | [d] => { results := [.lit (.bool true)], args := [d] }
  | _ => none }
def fnGlobalsRow : OpenClaim := { program := "ytlamkbggfbancaa", sum := "149a977ce678d19897d41522ff1ae0b71a0dcc0f11f61f27823620380074f100", func := "loop.example/g00349/laws.FnGlobals", spec := "fnGlobals", inPlace := ["internal/bytealg.IndexByteString", "maps.clone"], unfollowed := true, recurses := true, plainKeys := false, apart := false }
def FnGlobalsSaid : Prop := fnGlobalsRow.holds Try.pinned (OpenSpec.ofChange fnGlobalsSpec)

/-- ITS FALSE NEIGHBOUR: 'it returns false'. Refute it at one input. -/
def fnGlobalsWrong : ChangeSpec := { name := "fnGlobals", fn := fun _ => fun
  | [d] => { results := [.lit (.bool false)], args := [d] }
  | _ => none }
def FnGlobalsWrongFalsely : Prop := fnGlobalsRow.holds Try.pinned (OpenSpec.ofChange fnGlobalsWrong)

/-- 'laws.FnSites': WHATEVER THE INPUT: true; the input reads as it did. -/
def fnSitesSpec : ChangeSpec := { name := "fnSites", fn := fun _ => fun
  | [d] => { results := [.lit (.bool true)], args := [d] }
  | _ => none }
def fnSitesRow : OpenClaim := { program := "ytlamkbggfbancaa", sum := "149a977ce678d19897d41522ff1ae0b71a0dcc0f11f61f27823620380074f100", func := "loop.example/g00349/laws.FnSites", spec := "fnSites", inPlace := ["internal/bytealg.IndexByteString", "maps.clone"], unfollowed := true, recurses := true, plainKeys := false, apart := false }
def FnSitesSaid : Prop := fnSitesRow.holds Try.pinned (OpenSpec.ofChange fnSitesSpec)

/-- ITS FALSE NEIGHBOUR: 'it returns false'. Refute it at one input. -/
def fnSitesWrong : ChangeSpec := { name := "fnSites", fn := fun _ => fun
  | [d] => { results := [.lit (.bool false)], args := [d] }
  | _ => none }
def FnSitesWrongFalsely : Prop := fnSitesRow.holds Try.pinned (OpenSpec.ofChange fnSitesWrong)

/-- 'laws.FnExactGlobalsFault': WHATEVER THE INPUT: true; the input reads as it did. -/
def fnExactGlobalsFaultSpec : ChangeSpec := { name := "fnExactGlobalsFault", fn := fun _ => fun
  | [d] => { results := [.lit (.bool true)], args := [d] }
  | _ => none }
def fnExactGlobalsFaultRow : OpenClaim := { program := "ytlamkbggfbancaa", sum := "149a977ce678d19897d41522ff1ae0b71a0dcc0f11f61f27823620380074f100", func := "loop.example/g00349/laws.FnExactGlobalsFault", spec := "fnExactGlobalsFault", inPlace := ["internal/bytealg.IndexByteString"], plainKeys := false, apart := false }
def FnExactGlobalsFaultSaid : Prop := fnExactGlobalsFaultRow.holds Try.pinned (OpenSpec.ofChange fnExactGlobalsFaultSpec)

/-- ITS FALSE NEIGHBOUR: 'it returns false'. Refute it at one input. -/
def fnExactGlobalsFaultWrong : ChangeSpec := { name := "fnExactGlobalsFault", fn := fun _ => fun
  | [d] => { results := [.lit (.bool false)], args := [d] }
  | _ => none }
def FnExactGlobalsFaultWrongFalsely : Prop := fnExactGlobalsFaultRow.holds Try.pinned (OpenSpec.ofChange fnExactGlobalsFaultWrong)

/-- 'laws.FnExactLookGlobal': WHATEVER THE INPUT: true; the input reads as it did. -/
def fnExactLookGlobalSpec : ChangeSpec := { name := "fnExactLookGlobal", fn := fun _ => fun
  | [d1, d2] => { results := [.lit (.bool true)], args := [d1, d2] }
  | _ => none }
def fnExactLookGlobalRow : OpenClaim := { program := "ytlamkbggfbancaa", sum := "149a977ce678d19897d41522ff1ae0b71a0dcc0f11f61f27823620380074f100", func := "loop.example/g00349/laws.FnExactLookGlobal", spec := "fnExactLookGlobal", inPlace := ["internal/bytealg.IndexByteString"], plainKeys := false, apart := false }
def FnExactLookGlobalSaid : Prop := fnExactLookGlobalRow.holds Try.pinned (OpenSpec.ofChange fnExactLookGlobalSpec)

/-- ITS FALSE NEIGHBOUR: 'it returns false'. Refute it at one input. -/
def fnExactLookGlobalWrong : ChangeSpec := { name := "fnExactLookGlobal", fn := fun _ => fun
  | [d1, d2] => { results := [.lit (.bool false)], args := [d1, d2] }
  | _ => none }
def FnExactLookGlobalWrongFalsely : Prop := fnExactLookGlobalRow.holds Try.pinned (OpenSpec.ofChange fnExactLookGlobalWrong)

/-- 'laws.FnExactDefineGlobal': WHATEVER THE INPUT: true; the input reads as it did. -/
def fnExactDefineGlobalSpec : ChangeSpec := { name := "fnExactDefineGlobal", fn := fun _ => fun
  | [d1, d2, d3] => { results := [.lit (.bool true)], args := [d1, d2, d3] }
  | _ => none }
def fnExactDefineGlobalRow : OpenClaim := { program := "ytlamkbggfbancaa", sum := "149a977ce678d19897d41522ff1ae0b71a0dcc0f11f61f27823620380074f100", func := "loop.example/g00349/laws.FnExactDefineGlobal", spec := "fnExactDefineGlobal", inPlace := ["internal/bytealg.IndexByteString", "maps.clone"], unfollowed := true, recurses := true, plainKeys := false, apart := false }
def FnExactDefineGlobalSaid : Prop := fnExactDefineGlobalRow.holds Try.pinned (OpenSpec.ofChange fnExactDefineGlobalSpec)

/-- ITS FALSE NEIGHBOUR: 'it returns false'. Refute it at one input. -/
def fnExactDefineGlobalWrong : ChangeSpec := { name := "fnExactDefineGlobal", fn := fun _ => fun
  | [d1, d2, d3] => { results := [.lit (.bool false)], args := [d1, d2, d3] }
  | _ => none }
def FnExactDefineGlobalWrongFalsely : Prop := fnExactDefineGlobalRow.holds Try.pinned (OpenSpec.ofChange fnExactDefineGlobalWrong)

/-- 'laws.FnExactSetGlobal': WHATEVER THE INPUT: true; the input reads as it did. -/
def fnExactSetGlobalSpec : ChangeSpec := { name := "fnExactSetGlobal", fn := fun _ => fun
  | [d1, d2, d3] => { results := [.lit (.bool true)], args := [d1, d2, d3] }
  | _ => none }
def fnExactSetGlobalRow : OpenClaim := { program := "ytlamkbggfbancaa", sum := "149a977ce678d19897d41522ff1ae0b71a0dcc0f11f61f27823620380074f100", func := "loop.example/g00349/laws.FnExactSetGlobal", spec := "fnExactSetGlobal", inPlace := ["internal/bytealg.IndexByteString", "maps.clone"], unfollowed := true, recurses := true, plainKeys := false, apart := false }
def FnExactSetGlobalSaid : Prop := fnExactSetGlobalRow.holds Try.pinned (OpenSpec.ofChange fnExactSetGlobalSpec)

/-- ITS FALSE NEIGHBOUR: 'it returns false'. Refute it at one input. -/
def fnExactSetGlobalWrong : ChangeSpec := { name := "fnExactSetGlobal", fn := fun _ => fun
  | [d1, d2, d3] => { results := [.lit (.bool false)], args := [d1, d2, d3] }
  | _ => none }
def FnExactSetGlobalWrongFalsely : Prop := fnExactSetGlobalRow.holds Try.pinned (OpenSpec.ofChange fnExactSetGlobalWrong)

/-- 'laws.FnExactSiteFault': WHATEVER THE INPUT: true; the input reads as it did. -/
def fnExactSiteFaultSpec : ChangeSpec := { name := "fnExactSiteFault", fn := fun _ => fun
  | [d1, d2, d3] => { results := [.lit (.bool true)], args := [d1, d2, d3] }
  | _ => none }
def fnExactSiteFaultRow : OpenClaim := { program := "ytlamkbggfbancaa", sum := "149a977ce678d19897d41522ff1ae0b71a0dcc0f11f61f27823620380074f100", func := "loop.example/g00349/laws.FnExactSiteFault", spec := "fnExactSiteFault", inPlace := ["internal/bytealg.IndexByteString"], plainKeys := false, apart := false }
def FnExactSiteFaultSaid : Prop := fnExactSiteFaultRow.holds Try.pinned (OpenSpec.ofChange fnExactSiteFaultSpec)

/-- ITS FALSE NEIGHBOUR: 'it returns false'. Refute it at one input. -/
def fnExactSiteFaultWrong : ChangeSpec := { name := "fnExactSiteFault", fn := fun _ => fun
  | [d1, d2, d3] => { results := [.lit (.bool false)], args := [d1, d2, d3] }
  | _ => none }
def FnExactSiteFaultWrongFalsely : Prop := fnExactSiteFaultRow.holds Try.pinned (OpenSpec.ofChange fnExactSiteFaultWrong)

/-- 'laws.FnExactFetchSite': WHATEVER THE INPUT: true; the input reads as it did. -/
def fnExactFetchSiteSpec : ChangeSpec := { name := "fnExactFetchSite", fn := fun _ => fun
  | [d1, d2, d3] => { results := [.lit (.bool true)], args := [d1, d2, d3] }
  | _ => none }
def fnExactFetchSiteRow : OpenClaim := { program := "ytlamkbggfbancaa", sum := "149a977ce678d19897d41522ff1ae0b71a0dcc0f11f61f27823620380074f100", func := "loop.example/g00349/laws.FnExactFetchSite", spec := "fnExactFetchSite", inPlace := ["internal/bytealg.IndexByteString"], plainKeys := false, apart := false }
def FnExactFetchSiteSaid : Prop := fnExactFetchSiteRow.holds Try.pinned (OpenSpec.ofChange fnExactFetchSiteSpec)

/-- ITS FALSE NEIGHBOUR: 'it returns false'. Refute it at one input. -/
def fnExactFetchSiteWrong : ChangeSpec := { name := "fnExactFetchSite", fn := fun _ => fun
  | [d1, d2, d3] => { results := [.lit (.bool false)], args := [d1, d2, d3] }
  | _ => none }
def FnExactFetchSiteWrongFalsely : Prop := fnExactFetchSiteRow.holds Try.pinned (OpenSpec.ofChange fnExactFetchSiteWrong)

/- THE SECOND FORM. 'bulk': how many values and letters a reading holds, each counted each time it is reached (what is shared counts as often as it is met; a slice's spare places count too). A statement '..UptoSaid' is the law's where the arguments, and the package variables that the reading takes, are together of bulk at most 1048576: NARROWER than '..Said'. Prove '..Said' where nothing that the law and all that it calls make is longer than what came in: it says more and counts as full. Else prove '..UptoSaid'. A law counts once. -/
mutual
def uptoBulk {H : Type} : DataW H → Nat
  | .lit (.string bytes) => bytes.length + 1
  | .lit _ => 1
  | .nil => 1
  | .ptr d => uptoBulk d + 1
  | .slice elems spare => uptoBulkAll elems + uptoBulkAll spare + 1
  | .agg parts => uptoBulkAll parts + 1
  | .iface _ d => uptoBulk d + 1
  | .map entries => uptoBulkEntries entries + 1
  | .held _ => 1
def uptoBulkAll {H : Type} : List (DataW H) → Nat
  | [] => 0
  | d :: r => uptoBulk d + uptoBulkAll r
def uptoBulkEntries {H : Type} : List (Lit × DataW H) → Nat
  | [] => 0
  | x :: r => uptoBulkEntry x + uptoBulkEntries r
def uptoBulkEntry {H : Type} : Lit × DataW H → Nat
  | (.string bytes, d) => bytes.length + uptoBulk d + 1
  | (_, d) => uptoBulk d + 1
 end
def uptoSmall : (H : Type) → List (DataW H) → Bool := fun _ ds => decide (uptoBulkAll ds ≤ 1048576)
def OpenSpec.upto (s : _root_.Go.ChangeSpec) : _root_.Go.OpenSpec := { _root_.Go.OpenSpec.ofChange s with cond := some uptoSmall }

/-- 'laws.FnGlobals', WHERE WHAT IT READS IS OF BULK AT MOST 1048576: true; the input reads as it did. -/
def fnGlobalsUptoRow : OpenClaim := { program := "ytlamkbggfbancaa", sum := "149a977ce678d19897d41522ff1ae0b71a0dcc0f11f61f27823620380074f100", func := "loop.example/g00349/laws.FnGlobals", spec := "fnGlobals", inPlace := ["internal/bytealg.IndexByteString", "maps.clone"], unfollowed := true, recurses := true, plainKeys := false, apart := false, narrowed := true }
def FnGlobalsUptoSaid : Prop := fnGlobalsUptoRow.holds Try.pinned (OpenSpec.upto fnGlobalsSpec)

/-- 'laws.FnSites', WHERE WHAT IT READS IS OF BULK AT MOST 1048576: true; the input reads as it did. -/
def fnSitesUptoRow : OpenClaim := { program := "ytlamkbggfbancaa", sum := "149a977ce678d19897d41522ff1ae0b71a0dcc0f11f61f27823620380074f100", func := "loop.example/g00349/laws.FnSites", spec := "fnSites", inPlace := ["internal/bytealg.IndexByteString", "maps.clone"], unfollowed := true, recurses := true, plainKeys := false, apart := false, narrowed := true }
def FnSitesUptoSaid : Prop := fnSitesUptoRow.holds Try.pinned (OpenSpec.upto fnSitesSpec)

/-- 'laws.FnExactGlobalsFault', WHERE WHAT IT READS IS OF BULK AT MOST 1048576: true; the input reads as it did. -/
def fnExactGlobalsFaultUptoRow : OpenClaim := { program := "ytlamkbggfbancaa", sum := "149a977ce678d19897d41522ff1ae0b71a0dcc0f11f61f27823620380074f100", func := "loop.example/g00349/laws.FnExactGlobalsFault", spec := "fnExactGlobalsFault", inPlace := ["internal/bytealg.IndexByteString"], plainKeys := false, apart := false, narrowed := true }
def FnExactGlobalsFaultUptoSaid : Prop := fnExactGlobalsFaultUptoRow.holds Try.pinned (OpenSpec.upto fnExactGlobalsFaultSpec)

/-- 'laws.FnExactLookGlobal', WHERE WHAT IT READS IS OF BULK AT MOST 1048576: true; the input reads as it did. -/
def fnExactLookGlobalUptoRow : OpenClaim := { program := "ytlamkbggfbancaa", sum := "149a977ce678d19897d41522ff1ae0b71a0dcc0f11f61f27823620380074f100", func := "loop.example/g00349/laws.FnExactLookGlobal", spec := "fnExactLookGlobal", inPlace := ["internal/bytealg.IndexByteString"], plainKeys := false, apart := false, narrowed := true }
def FnExactLookGlobalUptoSaid : Prop := fnExactLookGlobalUptoRow.holds Try.pinned (OpenSpec.upto fnExactLookGlobalSpec)

/-- 'laws.FnExactDefineGlobal', WHERE WHAT IT READS IS OF BULK AT MOST 1048576: true; the input reads as it did. -/
def fnExactDefineGlobalUptoRow : OpenClaim := { program := "ytlamkbggfbancaa", sum := "149a977ce678d19897d41522ff1ae0b71a0dcc0f11f61f27823620380074f100", func := "loop.example/g00349/laws.FnExactDefineGlobal", spec := "fnExactDefineGlobal", inPlace := ["internal/bytealg.IndexByteString", "maps.clone"], unfollowed := true, recurses := true, plainKeys := false, apart := false, narrowed := true }
def FnExactDefineGlobalUptoSaid : Prop := fnExactDefineGlobalUptoRow.holds Try.pinned (OpenSpec.upto fnExactDefineGlobalSpec)

/-- 'laws.FnExactSetGlobal', WHERE WHAT IT READS IS OF BULK AT MOST 1048576: true; the input reads as it did. -/
def fnExactSetGlobalUptoRow : OpenClaim := { program := "ytlamkbggfbancaa", sum := "149a977ce678d19897d41522ff1ae0b71a0dcc0f11f61f27823620380074f100", func := "loop.example/g00349/laws.FnExactSetGlobal", spec := "fnExactSetGlobal", inPlace := ["internal/bytealg.IndexByteString", "maps.clone"], unfollowed := true, recurses := true, plainKeys := false, apart := false, narrowed := true }
def FnExactSetGlobalUptoSaid : Prop := fnExactSetGlobalUptoRow.holds Try.pinned (OpenSpec.upto fnExactSetGlobalSpec)

/-- 'laws.FnExactSiteFault', WHERE WHAT IT READS IS OF BULK AT MOST 1048576: true; the input reads as it did. -/
def fnExactSiteFaultUptoRow : OpenClaim := { program := "ytlamkbggfbancaa", sum := "149a977ce678d19897d41522ff1ae0b71a0dcc0f11f61f27823620380074f100", func := "loop.example/g00349/laws.FnExactSiteFault", spec := "fnExactSiteFault", inPlace := ["internal/bytealg.IndexByteString"], plainKeys := false, apart := false, narrowed := true }
def FnExactSiteFaultUptoSaid : Prop := fnExactSiteFaultUptoRow.holds Try.pinned (OpenSpec.upto fnExactSiteFaultSpec)

/-- 'laws.FnExactFetchSite', WHERE WHAT IT READS IS OF BULK AT MOST 1048576: true; the input reads as it did. -/
def fnExactFetchSiteUptoRow : OpenClaim := { program := "ytlamkbggfbancaa", sum := "149a977ce678d19897d41522ff1ae0b71a0dcc0f11f61f27823620380074f100", func := "loop.example/g00349/laws.FnExactFetchSite", spec := "fnExactFetchSite", inPlace := ["internal/bytealg.IndexByteString"], plainKeys := false, apart := false, narrowed := true }
def FnExactFetchSiteUptoSaid : Prop := fnExactFetchSiteUptoRow.holds Try.pinned (OpenSpec.upto fnExactFetchSiteSpec)

end Rows
end Go.Proofs.Ytlamkbggfbancaa
