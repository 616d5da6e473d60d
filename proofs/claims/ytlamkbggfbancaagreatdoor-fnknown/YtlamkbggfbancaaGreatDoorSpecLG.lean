/-
  The model's l7Asked and LookGlobal; nothing that was there is turned.
-/
import Derived.Test.YtlamkbggfbancaaGreatDoorSpecGF
import Derived.Test.YtlamkbggfbancaaGreatDoorGlobKit
namespace Go.Proofs.YtlamkbggfbancaaGreatDoor
open Go.RowKit Go.Extern.Stop Go.Stop Go.Extern Num Go.Lib

/-- What is wrong with globals, or with a name. -/
def askG (l : List Glb) (s : ByteArray) : Int := if globFault l ≠ 0 then globFault l else symC s
/-- What LookGlobal answers. -/
def gZ : Glb := ⟨⟨#[]⟩, ⟨0, 0, ⟨#[]⟩⟩, 0⟩
def codeLG (l : List Glb) (s : ByteArray) : Int := if askG l s ≠ 0 then askG l s else if (atG l s).isSome = true then 0 else 4
def valLG (l : List Glb) (s : ByteArray) : Glb := if askG l s ≠ 0 then gZ else match atG l s with | some k => l.getD k gZ | none => gZ
abbrev GR (c : Int) (t : Glb) : Value := .agg #[.int .i64 c, .string t.name, .int .i64 t.value.kind, .int .i64 t.value.num, .string t.value.name, .int .i64 t.ver]
theorem lg_bad {l : List Glb} {s : ByteArray} (h : askG l s ≠ 0) : codeLG l s = askG l s ∧ valLG l s = gZ := ⟨if_pos h, if_pos h⟩
theorem lg_none {l : List Glb} {s : ByteArray} (h : askG l s = 0) (hn : atG l s = none) : codeLG l s = 4 ∧ valLG l s = gZ := by
  unfold codeLG valLG; rw [h, hn]; simp
theorem lg_some {l : List Glb} {s : ByteArray} {k : Nat} (h : askG l s = 0) (hn : atG l s = some k) (hk : k < l.length) : codeLG l s = 0 ∧ valLG l s = l[k]'hk := by
  unfold codeLG valLG; rw [h, hn]; simp [List.getD, hk]
end Go.Proofs.YtlamkbggfbancaaGreatDoor
