/-
  Parts of the proof laid into one text, one behind the other: SpecSymF, SpecFault, SpecTText. Contracts of the program's and the model's functions, and what they are proved of, as their theorems say.
-/
import Derived.Test.YtoafolefecddmaaGreatDoorSpecSymHv
import Derived.Test.YtoafolefecddmaaGreatDoorOfA
import Derived.Test.YtoafolefecddmaaGreatDoorUiA
import Derived.Test.YtoafolefecddmaaGreatDoorDigitsHv
namespace Go.Proofs.YtoafolefecddmaaGreatDoor
open Go.RowKit Go.Extern.Stop Go.Stop Go.Extern Num
end Go.Proofs.YtoafolefecddmaaGreatDoor
namespace Go.Proofs.YtoafolefecddmaaGreatDoor
open Go.RowKit Go.Extern.Stop Go.Stop Go.Extern Num Go.Lib
structure TokAt (b o : Nat) (t : Tok) (w : World) : Prop where
  c0 : w.cell? ⟨b, o, none⟩ = some (.int .i64 t.kind)
  c1 : w.cell? ⟨b, o + 1, none⟩ = some (.int .i64 t.num)
  c2 : w.cell? ⟨b, o + 2, none⟩ = some (.string t.name)
def tokFault (t : Tok) : Int :=
  if ¬ (1 ≤ t.kind ∧ t.kind ≤ 6) then 1
  else if (t.kind ≠ 4 ∧ t.kind ≠ 5) ∧ t.num ≠ 0 then 1
  else if t.kind ≠ 6 ∧ t.name.data.toList ≠ [] then 1
  else if t.kind = 4 then (if inB t.num = true then 0 else 3)
  else if t.kind = 5 then (if 0 ≤ t.num ∧ t.num ≤ 1 then 0 else 3)
  else if t.kind = 6 then (if symL t.name.data.toList = true then 0 else 5)
  else 0
theorem nil_yes {z : ByteArray} (h : z.data.toList = []) : (z.toList == []) = true := by rw [ByteArray.toList_eq, h]; rfl
theorem nil_no {z : ByteArray} (h : z.data.toList ≠ []) : (z.toList == []) = false := ne_list h
def tokText (t : Tok) : ByteArray :=
  if t.kind = 1 then ⟨#[40]⟩ else if t.kind = 2 then ⟨#[41]⟩ else if t.kind = 3 then ⟨#[39]⟩
  else if t.kind = 4 then ⟨(itoa t.num).toArray⟩ else if t.kind = 5 then (if t.num = 0 then ⟨#[35, 102]⟩ else ⟨#[35, 116]⟩) else t.name
end Go.Proofs.YtoafolefecddmaaGreatDoor
