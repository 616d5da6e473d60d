/-
  No cell of these rows narrows 'for every input' (looked for: loops, veiled, ifaces, maps, wideKeys, modest, calm, conditions, laid).
  DERIVED. THE GIVEN ROWS OF THIS SEAT. 5 by the template 'for every input the law returns true; each argument reads behind the call as it read before'; 0 by the template 'total and deterministic' (their statements: YtgfienijabkpjaaTotals.lean).
  GIVEN WITH THE SEED: the statements are not yours to turn. If you find one false, say at which input.
  Laid BY PROGRAM, IN A SANDBOX (cutbox-rows.mjs): the forced cells as the released guide's own fill.sh prints them over the translation c0d086d30baae943… (all of the seat's roots in one cut). By AI agents, Wed Nov 11 2026. No macro, syntax, notation, axiom, sorry.
-/
import Derived.Test.YtgfienijabkpjaaChecked
import GoSem.Claim
import GoSem.ClaimJoined
import GoSem.ClaimMapViews
import Derived.JoinedTies
import Derived.KernelRfl
namespace Go.Proofs.Ytgfienijabkpjaa
/- THE CELL 'sum', in the pinned program and in every row, IS THE sha256 OF THE DUMP (.gsa) THAT YtgfienijabkpjaaProg.lean LOADS. Nothing in Lean hashes anything: it is a label: what it is worth is what the hold of that sum in a sandbox is worth. -/
noncomputable def Try.pinned : Pinned := { name := "ytgfienijabkpjaa", sum := "c0d086d30baae943ef56a8d78a4150d99e0118d7211ec3a0f66a907eff1a996d", checked := Try.checked }
namespace Rows
def none {H : Type} : Left H := { results := [], args := [] }

/-- 'laws.FnGlobals': WHATEVER THE INPUT: true; the input reads as it did. -/
def fnGlobalsSpec : ChangeSpec := { name := "fnGlobals", fn := fun _ => fun
  | [d] => { results := [.lit (.bool true)], args := [d] }
  | _ => none }
def fnGlobalsRow : OpenClaim := { program := "ytgfienijabkpjaa", sum := "c0d086d30baae943ef56a8d78a4150d99e0118d7211ec3a0f66a907eff1a996d", func := "loop.example/g00349/laws.FnGlobals", spec := "fnGlobals", inPlace := ["internal/bytealg.IndexByteString", "maps.clone"], unfollowed := true, recurses := true, plainKeys := false, apart := false }
def FnGlobalsSaid : Prop := fnGlobalsRow.holds Try.pinned (OpenSpec.ofChange fnGlobalsSpec)

/-- ITS FALSE NEIGHBOUR: 'it returns false'. Refute it at one input. -/
def fnGlobalsWrong : ChangeSpec := { name := "fnGlobals", fn := fun _ => fun
  | [d] => { results := [.lit (.bool false)], args := [d] }
  | _ => none }
def FnGlobalsWrongFalsely : Prop := fnGlobalsRow.holds Try.pinned (OpenSpec.ofChange fnGlobalsWrong)

/-- 'laws.FnSites': WHATEVER THE INPUT: true; the input reads as it did. -/
def fnSitesSpec : ChangeSpec := { name := "fnSites", fn := fun _ => fun
  | [d] => { results := [.lit (.bool true)], args := [d] }
  | _ => none }
def fnSitesRow : OpenClaim := { program := "ytgfienijabkpjaa", sum := "c0d086d30baae943ef56a8d78a4150d99e0118d7211ec3a0f66a907eff1a996d", func := "loop.example/g00349/laws.FnSites", spec := "fnSites", inPlace := ["internal/bytealg.IndexByteString", "maps.clone"], unfollowed := true, recurses := true, plainKeys := false, apart := false }
def FnSitesSaid : Prop := fnSitesRow.holds Try.pinned (OpenSpec.ofChange fnSitesSpec)

/-- ITS FALSE NEIGHBOUR: 'it returns false'. Refute it at one input. -/
def fnSitesWrong : ChangeSpec := { name := "fnSites", fn := fun _ => fun
  | [d] => { results := [.lit (.bool false)], args := [d] }
  | _ => none }
def FnSitesWrongFalsely : Prop := fnSitesRow.holds Try.pinned (OpenSpec.ofChange fnSitesWrong)

/-- 'laws.FnExactDefineGlobal': WHATEVER THE INPUT: true; the input reads as it did. -/
def fnExactDefineGlobalSpec : ChangeSpec := { name := "fnExactDefineGlobal", fn := fun _ => fun
  | [d1, d2, d3] => { results := [.lit (.bool true)], args := [d1, d2, d3] }
  | _ => none }
def fnExactDefineGlobalRow : OpenClaim := { program := "ytgfienijabkpjaa", sum := "c0d086d30baae943ef56a8d78a4150d99e0118d7211ec3a0f66a907eff1a996d", func := "loop.example/g00349/laws.FnExactDefineGlobal", spec := "fnExactDefineGlobal", inPlace := ["internal/bytealg.IndexByteString", "maps.clone"], unfollowed := true, recurses := true, plainKeys := false, apart := false }
def FnExactDefineGlobalSaid : Prop := fnExactDefineGlobalRow.holds Try.pinned (OpenSpec.ofChange fnExactDefineGlobalSpec)

/-- ITS FALSE NEIGHBOUR: 'it returns false'. Refute it at one input. -/
def fnExactDefineGlobalWrong : ChangeSpec := { name := "fnExactDefineGlobal", fn := fun _ => fun
  | [d1, d2, d3] => { results := [.lit (.bool false)], args := [d1, d2, d3] }
  | _ => none }
def FnExactDefineGlobalWrongFalsely : Prop := fnExactDefineGlobalRow.holds Try.pinned (OpenSpec.ofChange fnExactDefineGlobalWrong)

/-- 'laws.FnExactSetGlobal': WHATEVER THE INPUT: true; the input reads as it did. -/
def fnExactSetGlobalSpec : ChangeSpec := { name := "fnExactSetGlobal", fn := fun _ => fun
  | [d1, d2, d3] => { results := [.lit (.bool true)], args := [d1, d2, d3] }
  | _ => none }
def fnExactSetGlobalRow : OpenClaim := { program := "ytgfienijabkpjaa", sum := "c0d086d30baae943ef56a8d78a4150d99e0118d7211ec3a0f66a907eff1a996d", func := "loop.example/g00349/laws.FnExactSetGlobal", spec := "fnExactSetGlobal", inPlace := ["internal/bytealg.IndexByteString", "maps.clone"], unfollowed := true, recurses := true, plainKeys := false, apart := false }
def FnExactSetGlobalSaid : Prop := fnExactSetGlobalRow.holds Try.pinned (OpenSpec.ofChange fnExactSetGlobalSpec)

/-- ITS FALSE NEIGHBOUR: 'it returns false'. Refute it at one input. -/
def fnExactSetGlobalWrong : ChangeSpec := { name := "fnExactSetGlobal", fn := fun _ => fun
  | [d1, d2, d3] => { results := [.lit (.bool false)], args := [d1, d2, d3] }
  | _ => none }
def FnExactSetGlobalWrongFalsely : Prop := fnExactSetGlobalRow.holds Try.pinned (OpenSpec.ofChange fnExactSetGlobalWrong)

/-- 'laws.FnExactLinesFault': WHATEVER THE INPUT: true; the input reads as it did. -/
def fnExactLinesFaultSpec : ChangeSpec := { name := "fnExactLinesFault", fn := fun _ => fun
  | [d1, d2] => { results := [.lit (.bool true)], args := [d1, d2] }
  | _ => none }
def fnExactLinesFaultRow : OpenClaim := { program := "ytgfienijabkpjaa", sum := "c0d086d30baae943ef56a8d78a4150d99e0118d7211ec3a0f66a907eff1a996d", func := "loop.example/g00349/laws.FnExactLinesFault", spec := "fnExactLinesFault", plainKeys := false, apart := false }
def FnExactLinesFaultSaid : Prop := fnExactLinesFaultRow.holds Try.pinned (OpenSpec.ofChange fnExactLinesFaultSpec)

/-- ITS FALSE NEIGHBOUR: 'it returns false'. Refute it at one input. -/
def fnExactLinesFaultWrong : ChangeSpec := { name := "fnExactLinesFault", fn := fun _ => fun
  | [d1, d2] => { results := [.lit (.bool false)], args := [d1, d2] }
  | _ => none }
def FnExactLinesFaultWrongFalsely : Prop := fnExactLinesFaultRow.holds Try.pinned (OpenSpec.ofChange fnExactLinesFaultWrong)

/- THE SECOND FORM. 'bulk': how many values and letters a reading holds, each counted each time it is reached (what is shared counts as often as it is met; a slice's spare places count too). A statement '..UptoSaid' is the law's where the arguments, and the package variables that the reading takes, are together of bulk at most 1048576: NARROWER than '..Said'. Prove '..Said' where nothing that the law and all that it calls make is longer than what came in: it says more and counts as full. Else prove '..UptoSaid'. A law counts once. -/
mutual
def uptoBulk {H : Type} : DataW H → Nat
  | .lit (.string bytes) => bytes.length + 1
  | .lit _ => 1
  | .nil => 1
  | .ptr d => uptoBulk d + 1
  | .slice elems spare => uptoBulkAll elems + uptoBulkAll spare + 1
  | .agg parts => uptoBulkAll parts + 1
  | .iface _ d => uptoBulk d + 1
  | .map entries => uptoBulkEntries entries + 1
  | .held _ => 1
def uptoBulkAll {H : Type} : List (DataW H) → Nat
  | [] => 0
  | d :: r => uptoBulk d + uptoBulkAll r
def uptoBulkEntries {H : Type} : List (Lit × DataW H) → Nat
  | [] => 0
  | x :: r => uptoBulkEntry x + uptoBulkEntries r
def uptoBulkEntry {H : Type} : Lit × DataW H → Nat
  | (.string bytes, d) => bytes.length + uptoBulk d + 1
  | (_, d) => uptoBulk d + 1
 end
def uptoSmall : (H : Type) → List (DataW H) → Bool := fun _ ds => decide (uptoBulkAll ds ≤ 1048576)
def OpenSpec.upto (s : _root_.Go.ChangeSpec) : _root_.Go.OpenSpec := { _root_.Go.OpenSpec.ofChange s with cond := some uptoSmall }

/-- 'laws.FnGlobals', WHERE WHAT IT READS IS OF BULK AT MOST 1048576: true; the input reads as it did. -/
def fnGlobalsUptoRow : OpenClaim := { program := "ytgfienijabkpjaa", sum := "c0d086d30baae943ef56a8d78a4150d99e0118d7211ec3a0f66a907eff1a996d", func := "loop.example/g00349/laws.FnGlobals", spec := "fnGlobals", inPlace := ["internal/bytealg.IndexByteString", "maps.clone"], unfollowed := true, recurses := true, plainKeys := false, apart := false, narrowed := true }
def FnGlobalsUptoSaid : Prop := fnGlobalsUptoRow.holds Try.pinned (OpenSpec.upto fnGlobalsSpec)

/-- 'laws.FnSites', WHERE WHAT IT READS IS OF BULK AT MOST 1048576: true; the input reads as it did. -/
def fnSitesUptoRow : OpenClaim := { program := "ytgfienijabkpjaa", sum := "c0d086d30baae943ef56a8d78a4150d99e0118d7211ec3a0f66a907eff1a996d", func := "loop.example/g00349/laws.FnSites", spec := "fnSites", inPlace := ["internal/bytealg.IndexByteString", "maps.clone"], unfollowed := true, recurses := true, plainKeys := false, apart := false, narrowed := true }
def FnSitesUptoSaid : Prop := fnSitesUptoRow.holds Try.pinned (OpenSpec.upto fnSitesSpec)

/-- 'laws.FnExactDefineGlobal', WHERE WHAT IT READS IS OF BULK AT MOST 1048576: true; the input reads as it did. -/
def fnExactDefineGlobalUptoRow : OpenClaim := { program := "ytgfienijabkpjaa", sum := "c0d086d30baae943ef56a8d78a4150d99e0118d7211ec3a0f66a907eff1a996d", func := "loop.example/g00349/laws.FnExactDefineGlobal", spec := "fnExactDefineGlobal", inPlace := ["internal/bytealg.IndexByteString", "maps.clone"], unfollowed := true, recurses := true, plainKeys := false, apart := false, narrowed := true }
def FnExactDefineGlobalUptoSaid : Prop := fnExactDefineGlobalUptoRow.holds Try.pinned (OpenSpec.upto fnExactDefineGlobalSpec)

/-- 'laws.FnExactSetGlobal', WHERE WHAT IT READS IS OF BULK AT MOST 1048576: true; the input reads as it did. -/
def fnExactSetGlobalUptoRow : OpenClaim := { program := "ytgfienijabkpjaa", sum := "c0d086d30baae943ef56a8d78a4150d99e0118d7211ec3a0f66a907eff1a996d", func := "loop.example/g00349/laws.FnExactSetGlobal", spec := "fnExactSetGlobal", inPlace := ["internal/bytealg.IndexByteString", "maps.clone"], unfollowed := true, recurses := true, plainKeys := false, apart := false, narrowed := true }
def FnExactSetGlobalUptoSaid : Prop := fnExactSetGlobalUptoRow.holds Try.pinned (OpenSpec.upto fnExactSetGlobalSpec)

/-- 'laws.FnExactLinesFault', WHERE WHAT IT READS IS OF BULK AT MOST 1048576: true; the input reads as it did. -/
def fnExactLinesFaultUptoRow : OpenClaim := { program := "ytgfienijabkpjaa", sum := "c0d086d30baae943ef56a8d78a4150d99e0118d7211ec3a0f66a907eff1a996d", func := "loop.example/g00349/laws.FnExactLinesFault", spec := "fnExactLinesFault", plainKeys := false, apart := false, narrowed := true }
def FnExactLinesFaultUptoSaid : Prop := fnExactLinesFaultUptoRow.holds Try.pinned (OpenSpec.upto fnExactLinesFaultSpec)

end Rows
end Go.Proofs.Ytgfienijabkpjaa
