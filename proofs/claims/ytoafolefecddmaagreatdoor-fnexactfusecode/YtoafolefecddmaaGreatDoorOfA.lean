/-
  Parts of the proof laid into one text, one behind the other: SpecSkip, SpecSkip2, SpecEnd, Tok. Contracts of the program's and the model's functions, and what they are proved of, as their theorems say.
-/
import Derived.Test.YtoafolefecddmaaGreatDoorSpecSymHv
namespace Go.Proofs.YtoafolefecddmaaGreatDoor
open Go.RowKit Go.Extern.Stop Go.Stop Go.Extern Num
def lineEnd (l : List UInt8) : Nat → Nat → Nat
  | 0, k => k
  | f + 1, k => if k < l.length ∧ l.getD k 0 ≠ 10 then lineEnd l f (k + 1) else k
def skipAt (l : List UInt8) : Nat → Nat → Nat
  | 0, k => k
  | f + 1, k => if k < l.length then (if l.getD k 0 = 59 then skipAt l f (lineEnd l l.length k) else if l.getD k 0 ≠ 32 ∧ l.getD k 0 ≠ 10 then k else skipAt l f (k + 1)) else k
def skip (l : List UInt8) (k : Nat) : Nat := skipAt l l.length k
end Go.Proofs.YtoafolefecddmaaGreatDoor
namespace Go.Proofs.YtoafolefecddmaaGreatDoor
open Go.RowKit Go.Extern.Stop Go.Stop Go.Extern Num Go.Lib
structure Tok where
  kind : Int
  num : Int
  name : ByteArray
abbrev Tok.val (t : Tok) : Value := .agg #[.int .i64 t.kind, .int .i64 t.num, .string t.name]
def Tok.cells (t : Tok) : List Value := [.int .i64 t.kind, .int .i64 t.num, .string t.name]
def cellsOf : List Tok → List Value
  | [] => []
  | t :: r => t.cells ++ cellsOf r
abbrev E0 : ByteArray := ⟨#[]⟩
theorem ne_list {s : ByteArray} {l : List UInt8} (h : s.data.toList ≠ l) : (s.toList == l) = false := by
  rw [ByteArray.toList_eq]; simpa using h
end Go.Proofs.YtoafolefecddmaaGreatDoor
