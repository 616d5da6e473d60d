/-
  No cell of these rows narrows 'for every input' (looked for: loops, veiled, ifaces, maps, wideKeys, modest, calm, conditions, laid).
  DERIVED. THE GIVEN ROWS OF THIS SEAT. 9 by the template 'for every input the law returns true; each argument reads behind the call as it read before'; 0 by the template 'total and deterministic' (their statements: YtienmmgkiphkdaaTotals.lean).
  GIVEN WITH THE SEED: the statements are not yours to turn. If you find one false, say at which input.
  Laid BY PROGRAM, IN A SANDBOX (cutbox-rows.mjs): the forced cells as the released guide's own fill.sh prints them over the translation 075e70c45c2ded46… (all of the seat's roots in one cut). By AI agents, Wed Nov 11 2026. No macro, syntax, notation, axiom, sorry.
-/
import Derived.Test.YtienmmgkiphkdaaChecked
import GoSem.Claim
import GoSem.ClaimJoined
import GoSem.ClaimMapViews
import Derived.JoinedTies
import Derived.KernelRfl
namespace Go.Proofs.Ytienmmgkiphkdaa
/- THE CELL 'sum', in the pinned program and in every row, IS THE sha256 OF THE DUMP (.gsa) THAT YtienmmgkiphkdaaProg.lean LOADS. Nothing in Lean hashes anything: it is a label: what it is worth is what the hold of that sum in a sandbox is worth. -/
noncomputable def Try.pinned : Pinned := { name := "ytienmmgkiphkdaa", sum := "075e70c45c2ded4648fc7814123aa98fb2f35103a07d3d3c7c3ea91c118c7cfa", checked := Try.checked }
namespace Rows
def none {H : Type} : Left H := { results := [], args := [] }

/-- 'laws.FnStacks': WHATEVER THE INPUT: true; the input reads as it did. -/
def fnStacksSpec : ChangeSpec := { name := "fnStacks", fn := fun _ => fun
  | [d] => { results := [.lit (.bool true)], args := [d] }
  | _ => none }
def fnStacksRow : OpenClaim := { program := "ytienmmgkiphkdaa", sum := "075e70c45c2ded4648fc7814123aa98fb2f35103a07d3d3c7c3ea91c118c7cfa", func := "loop.example/g00349/laws.FnStacks", spec := "fnStacks", unfollowed := true, recurses := true, apart := false }
def FnStacksSaid : Prop := fnStacksRow.holds Try.pinned (OpenSpec.ofChange fnStacksSpec)

/-- ITS FALSE NEIGHBOUR: 'it returns false'. Refute it at one input. -/
def fnStacksWrong : ChangeSpec := { name := "fnStacks", fn := fun _ => fun
  | [d] => { results := [.lit (.bool false)], args := [d] }
  | _ => none }
def FnStacksWrongFalsely : Prop := fnStacksRow.holds Try.pinned (OpenSpec.ofChange fnStacksWrong)

/-- 'laws.FnResizes': WHATEVER THE INPUT: true; the input reads as it did. -/
def fnResizesSpec : ChangeSpec := { name := "fnResizes", fn := fun _ => fun
  | [d] => { results := [.lit (.bool true)], args := [d] }
  | _ => none }
def fnResizesRow : OpenClaim := { program := "ytienmmgkiphkdaa", sum := "075e70c45c2ded4648fc7814123aa98fb2f35103a07d3d3c7c3ea91c118c7cfa", func := "loop.example/g00349/laws.FnResizes", spec := "fnResizes", unfollowed := true, recurses := true, apart := false }
def FnResizesSaid : Prop := fnResizesRow.holds Try.pinned (OpenSpec.ofChange fnResizesSpec)

/-- ITS FALSE NEIGHBOUR: 'it returns false'. Refute it at one input. -/
def fnResizesWrong : ChangeSpec := { name := "fnResizes", fn := fun _ => fun
  | [d] => { results := [.lit (.bool false)], args := [d] }
  | _ => none }
def FnResizesWrongFalsely : Prop := fnResizesRow.holds Try.pinned (OpenSpec.ofChange fnResizesWrong)

/-- 'laws.FnExactSegsFault': WHATEVER THE INPUT: true; the input reads as it did. -/
def fnExactSegsFaultSpec : ChangeSpec := { name := "fnExactSegsFault", fn := fun _ => fun
  | [d] => { results := [.lit (.bool true)], args := [d] }
  | _ => none }
def fnExactSegsFaultRow : OpenClaim := { program := "ytienmmgkiphkdaa", sum := "075e70c45c2ded4648fc7814123aa98fb2f35103a07d3d3c7c3ea91c118c7cfa", func := "loop.example/g00349/laws.FnExactSegsFault", spec := "fnExactSegsFault", apart := false }
def FnExactSegsFaultSaid : Prop := fnExactSegsFaultRow.holds Try.pinned (OpenSpec.ofChange fnExactSegsFaultSpec)

/-- ITS FALSE NEIGHBOUR: 'it returns false'. Refute it at one input. -/
def fnExactSegsFaultWrong : ChangeSpec := { name := "fnExactSegsFault", fn := fun _ => fun
  | [d] => { results := [.lit (.bool false)], args := [d] }
  | _ => none }
def FnExactSegsFaultWrongFalsely : Prop := fnExactSegsFaultRow.holds Try.pinned (OpenSpec.ofChange fnExactSegsFaultWrong)

/-- 'laws.FnExactOpenSegs': WHATEVER THE INPUT: true; the input reads as it did. -/
def fnExactOpenSegsSpec : ChangeSpec := { name := "fnExactOpenSegs", fn := fun _ => fun
  | [d1, d2] => { results := [.lit (.bool true)], args := [d1, d2] }
  | _ => none }
def fnExactOpenSegsRow : OpenClaim := { program := "ytienmmgkiphkdaa", sum := "075e70c45c2ded4648fc7814123aa98fb2f35103a07d3d3c7c3ea91c118c7cfa", func := "loop.example/g00349/laws.FnExactOpenSegs", spec := "fnExactOpenSegs", unfollowed := true, recurses := true, apart := false }
def FnExactOpenSegsSaid : Prop := fnExactOpenSegsRow.holds Try.pinned (OpenSpec.ofChange fnExactOpenSegsSpec)

/-- ITS FALSE NEIGHBOUR: 'it returns false'. Refute it at one input. -/
def fnExactOpenSegsWrong : ChangeSpec := { name := "fnExactOpenSegs", fn := fun _ => fun
  | [d1, d2] => { results := [.lit (.bool false)], args := [d1, d2] }
  | _ => none }
def FnExactOpenSegsWrongFalsely : Prop := fnExactOpenSegsRow.holds Try.pinned (OpenSpec.ofChange fnExactOpenSegsWrong)

/-- 'laws.FnExactPushSegs': WHATEVER THE INPUT: true; the input reads as it did. -/
def fnExactPushSegsSpec : ChangeSpec := { name := "fnExactPushSegs", fn := fun _ => fun
  | [d1, d2] => { results := [.lit (.bool true)], args := [d1, d2] }
  | _ => none }
def fnExactPushSegsRow : OpenClaim := { program := "ytienmmgkiphkdaa", sum := "075e70c45c2ded4648fc7814123aa98fb2f35103a07d3d3c7c3ea91c118c7cfa", func := "loop.example/g00349/laws.FnExactPushSegs", spec := "fnExactPushSegs", unfollowed := true, recurses := true, apart := false }
def FnExactPushSegsSaid : Prop := fnExactPushSegsRow.holds Try.pinned (OpenSpec.ofChange fnExactPushSegsSpec)

/-- ITS FALSE NEIGHBOUR: 'it returns false'. Refute it at one input. -/
def fnExactPushSegsWrong : ChangeSpec := { name := "fnExactPushSegs", fn := fun _ => fun
  | [d1, d2] => { results := [.lit (.bool false)], args := [d1, d2] }
  | _ => none }
def FnExactPushSegsWrongFalsely : Prop := fnExactPushSegsRow.holds Try.pinned (OpenSpec.ofChange fnExactPushSegsWrong)

/-- 'laws.FnExactPopSegs': WHATEVER THE INPUT: true; the input reads as it did. -/
def fnExactPopSegsSpec : ChangeSpec := { name := "fnExactPopSegs", fn := fun _ => fun
  | [d] => { results := [.lit (.bool true)], args := [d] }
  | _ => none }
def fnExactPopSegsRow : OpenClaim := { program := "ytienmmgkiphkdaa", sum := "075e70c45c2ded4648fc7814123aa98fb2f35103a07d3d3c7c3ea91c118c7cfa", func := "loop.example/g00349/laws.FnExactPopSegs", spec := "fnExactPopSegs", unfollowed := true, recurses := true, apart := false }
def FnExactPopSegsSaid : Prop := fnExactPopSegsRow.holds Try.pinned (OpenSpec.ofChange fnExactPopSegsSpec)

/-- ITS FALSE NEIGHBOUR: 'it returns false'. Refute it at one input. -/
def fnExactPopSegsWrong : ChangeSpec := { name := "fnExactPopSegs", fn := fun _ => fun
  | [d] => { results := [.lit (.bool false)], args := [d] }
  | _ => none }
def FnExactPopSegsWrongFalsely : Prop := fnExactPopSegsRow.holds Try.pinned (OpenSpec.ofChange fnExactPopSegsWrong)

/-- 'laws.FnExactListSegs': WHATEVER THE INPUT: true; the input reads as it did. -/
def fnExactListSegsSpec : ChangeSpec := { name := "fnExactListSegs", fn := fun _ => fun
  | [d] => { results := [.lit (.bool true)], args := [d] }
  | _ => none }
def fnExactListSegsRow : OpenClaim := { program := "ytienmmgkiphkdaa", sum := "075e70c45c2ded4648fc7814123aa98fb2f35103a07d3d3c7c3ea91c118c7cfa", func := "loop.example/g00349/laws.FnExactListSegs", spec := "fnExactListSegs", apart := false }
def FnExactListSegsSaid : Prop := fnExactListSegsRow.holds Try.pinned (OpenSpec.ofChange fnExactListSegsSpec)

/-- ITS FALSE NEIGHBOUR: 'it returns false'. Refute it at one input. -/
def fnExactListSegsWrong : ChangeSpec := { name := "fnExactListSegs", fn := fun _ => fun
  | [d] => { results := [.lit (.bool false)], args := [d] }
  | _ => none }
def FnExactListSegsWrongFalsely : Prop := fnExactListSegsRow.holds Try.pinned (OpenSpec.ofChange fnExactListSegsWrong)

/-- 'laws.FnExactDepthSegs': WHATEVER THE INPUT: true; the input reads as it did. -/
def fnExactDepthSegsSpec : ChangeSpec := { name := "fnExactDepthSegs", fn := fun _ => fun
  | [d] => { results := [.lit (.bool true)], args := [d] }
  | _ => none }
def fnExactDepthSegsRow : OpenClaim := { program := "ytienmmgkiphkdaa", sum := "075e70c45c2ded4648fc7814123aa98fb2f35103a07d3d3c7c3ea91c118c7cfa", func := "loop.example/g00349/laws.FnExactDepthSegs", spec := "fnExactDepthSegs", apart := false }
def FnExactDepthSegsSaid : Prop := fnExactDepthSegsRow.holds Try.pinned (OpenSpec.ofChange fnExactDepthSegsSpec)

/-- ITS FALSE NEIGHBOUR: 'it returns false'. Refute it at one input. -/
def fnExactDepthSegsWrong : ChangeSpec := { name := "fnExactDepthSegs", fn := fun _ => fun
  | [d] => { results := [.lit (.bool false)], args := [d] }
  | _ => none }
def FnExactDepthSegsWrongFalsely : Prop := fnExactDepthSegsRow.holds Try.pinned (OpenSpec.ofChange fnExactDepthSegsWrong)

/-- 'laws.FnExactResizeSegs': WHATEVER THE INPUT: true; the input reads as it did. -/
def fnExactResizeSegsSpec : ChangeSpec := { name := "fnExactResizeSegs", fn := fun _ => fun
  | [d1, d2] => { results := [.lit (.bool true)], args := [d1, d2] }
  | _ => none }
def fnExactResizeSegsRow : OpenClaim := { program := "ytienmmgkiphkdaa", sum := "075e70c45c2ded4648fc7814123aa98fb2f35103a07d3d3c7c3ea91c118c7cfa", func := "loop.example/g00349/laws.FnExactResizeSegs", spec := "fnExactResizeSegs", unfollowed := true, recurses := true, apart := false }
def FnExactResizeSegsSaid : Prop := fnExactResizeSegsRow.holds Try.pinned (OpenSpec.ofChange fnExactResizeSegsSpec)

/-- ITS FALSE NEIGHBOUR: 'it returns false'. Refute it at one input. -/
def fnExactResizeSegsWrong : ChangeSpec := { name := "fnExactResizeSegs", fn := fun _ => fun
  | [d1, d2] => { results := [.lit (.bool false)], args := [d1, d2] }
  | _ => none }
def FnExactResizeSegsWrongFalsely : Prop := fnExactResizeSegsRow.holds Try.pinned (OpenSpec.ofChange fnExactResizeSegsWrong)

/- THE SECOND FORM. 'bulk': how many values and letters a reading holds, each counted each time it is reached (what is shared counts as often as it is met; a slice's spare places count too). A statement '..UptoSaid' is the law's where the arguments, and the package variables that the reading takes, are together of bulk at most 1048576: NARROWER than '..Said'. Prove '..Said' where nothing that the law and all that it calls make is longer than what came in: it says more and counts as full. Else prove '..UptoSaid'. A law counts once. -/
mutual
def uptoBulk {H : Type} : DataW H → Nat
  | .lit (.string bytes) => bytes.length + 1
  | .lit _ => 1
  | .nil => 1
  | .ptr d => uptoBulk d + 1
  | .slice elems spare => uptoBulkAll elems + uptoBulkAll spare + 1
  | .agg parts => uptoBulkAll parts + 1
  | .iface _ d => uptoBulk d + 1
  | .map entries => uptoBulkEntries entries + 1
  | .held _ => 1
def uptoBulkAll {H : Type} : List (DataW H) → Nat
  | [] => 0
  | d :: r => uptoBulk d + uptoBulkAll r
def uptoBulkEntries {H : Type} : List (Lit × DataW H) → Nat
  | [] => 0
  | x :: r => uptoBulkEntry x + uptoBulkEntries r
def uptoBulkEntry {H : Type} : Lit × DataW H → Nat
  | (.string bytes, d) => bytes.length + uptoBulk d + 1
  | (_, d) => uptoBulk d + 1
 end
def uptoSmall : (H : Type) → List (DataW H) → Bool := fun _ ds => decide (uptoBulkAll ds ≤ 1048576)
def OpenSpec.upto (s : _root_.Go.ChangeSpec) : _root_.Go.OpenSpec := { _root_.Go.OpenSpec.ofChange s with cond := some uptoSmall }

/-- 'laws.FnStacks', WHERE WHAT IT READS IS OF BULK AT MOST 1048576: true; the input reads as it did. -/
def fnStacksUptoRow : OpenClaim := { program := "ytienmmgkiphkdaa", sum := "075e70c45c2ded4648fc7814123aa98fb2f35103a07d3d3c7c3ea91c118c7cfa", func := "loop.example/g00349/laws.FnStacks", spec := "fnStacks", unfollowed := true, recurses := true, apart := false, narrowed := true }
def FnStacksUptoSaid : Prop := fnStacksUptoRow.holds Try.pinned (OpenSpec.upto fnStacksSpec)

/-- 'laws.FnResizes', WHERE WHAT IT READS IS OF BULK AT MOST 1048576: true; the input reads as it did. -/
def fnResizesUptoRow : OpenClaim := { program := "ytienmmgkiphkdaa", sum := "075e70c45c2ded4648fc7814123aa98fb2f35103a07d3d3c7c3ea91c118c7cfa", func := "loop.example/g00349/laws.FnResizes", spec := "fnResizes", unfollowed := true, recurses := true, apart := false, narrowed := true }
def FnResizesUptoSaid : Prop := fnResizesUptoRow.holds Try.pinned (OpenSpec.upto fnResizesSpec)

/-- 'laws.FnExactSegsFault', WHERE WHAT IT READS IS OF BULK AT MOST 1048576: true; the input reads as it did. -/
def fnExactSegsFaultUptoRow : OpenClaim := { program := "ytienmmgkiphkdaa", sum := "075e70c45c2ded4648fc7814123aa98fb2f35103a07d3d3c7c3ea91c118c7cfa", func := "loop.example/g00349/laws.FnExactSegsFault", spec := "fnExactSegsFault", apart := false, narrowed := true }
def FnExactSegsFaultUptoSaid : Prop := fnExactSegsFaultUptoRow.holds Try.pinned (OpenSpec.upto fnExactSegsFaultSpec)

/-- 'laws.FnExactOpenSegs', WHERE WHAT IT READS IS OF BULK AT MOST 1048576: true; the input reads as it did. -/
def fnExactOpenSegsUptoRow : OpenClaim := { program := "ytienmmgkiphkdaa", sum := "075e70c45c2ded4648fc7814123aa98fb2f35103a07d3d3c7c3ea91c118c7cfa", func := "loop.example/g00349/laws.FnExactOpenSegs", spec := "fnExactOpenSegs", unfollowed := true, recurses := true, apart := false, narrowed := true }
def FnExactOpenSegsUptoSaid : Prop := fnExactOpenSegsUptoRow.holds Try.pinned (OpenSpec.upto fnExactOpenSegsSpec)

/-- 'laws.FnExactPushSegs', WHERE WHAT IT READS IS OF BULK AT MOST 1048576: true; the input reads as it did. -/
def fnExactPushSegsUptoRow : OpenClaim := { program := "ytienmmgkiphkdaa", sum := "075e70c45c2ded4648fc7814123aa98fb2f35103a07d3d3c7c3ea91c118c7cfa", func := "loop.example/g00349/laws.FnExactPushSegs", spec := "fnExactPushSegs", unfollowed := true, recurses := true, apart := false, narrowed := true }
def FnExactPushSegsUptoSaid : Prop := fnExactPushSegsUptoRow.holds Try.pinned (OpenSpec.upto fnExactPushSegsSpec)

/-- 'laws.FnExactPopSegs', WHERE WHAT IT READS IS OF BULK AT MOST 1048576: true; the input reads as it did. -/
def fnExactPopSegsUptoRow : OpenClaim := { program := "ytienmmgkiphkdaa", sum := "075e70c45c2ded4648fc7814123aa98fb2f35103a07d3d3c7c3ea91c118c7cfa", func := "loop.example/g00349/laws.FnExactPopSegs", spec := "fnExactPopSegs", unfollowed := true, recurses := true, apart := false, narrowed := true }
def FnExactPopSegsUptoSaid : Prop := fnExactPopSegsUptoRow.holds Try.pinned (OpenSpec.upto fnExactPopSegsSpec)

/-- 'laws.FnExactListSegs', WHERE WHAT IT READS IS OF BULK AT MOST 1048576: true; the input reads as it did. -/
def fnExactListSegsUptoRow : OpenClaim := { program := "ytienmmgkiphkdaa", sum := "075e70c45c2ded4648fc7814123aa98fb2f35103a07d3d3c7c3ea91c118c7cfa", func := "loop.example/g00349/laws.FnExactListSegs", spec := "fnExactListSegs", apart := false, narrowed := true }
def FnExactListSegsUptoSaid : Prop := fnExactListSegsUptoRow.holds Try.pinned (OpenSpec.upto fnExactListSegsSpec)

/-- 'laws.FnExactDepthSegs', WHERE WHAT IT READS IS OF BULK AT MOST 1048576: true; the input reads as it did. -/
def fnExactDepthSegsUptoRow : OpenClaim := { program := "ytienmmgkiphkdaa", sum := "075e70c45c2ded4648fc7814123aa98fb2f35103a07d3d3c7c3ea91c118c7cfa", func := "loop.example/g00349/laws.FnExactDepthSegs", spec := "fnExactDepthSegs", apart := false, narrowed := true }
def FnExactDepthSegsUptoSaid : Prop := fnExactDepthSegsUptoRow.holds Try.pinned (OpenSpec.upto fnExactDepthSegsSpec)

/-- 'laws.FnExactResizeSegs', WHERE WHAT IT READS IS OF BULK AT MOST 1048576: true; the input reads as it did. -/
def fnExactResizeSegsUptoRow : OpenClaim := { program := "ytienmmgkiphkdaa", sum := "075e70c45c2ded4648fc7814123aa98fb2f35103a07d3d3c7c3ea91c118c7cfa", func := "loop.example/g00349/laws.FnExactResizeSegs", spec := "fnExactResizeSegs", unfollowed := true, recurses := true, apart := false, narrowed := true }
def FnExactResizeSegsUptoSaid : Prop := fnExactResizeSegsUptoRow.holds Try.pinned (OpenSpec.upto fnExactResizeSegsSpec)

end Rows
end Go.Proofs.Ytienmmgkiphkdaa
