/-
  Answers that hold lists and stacks: where they lie; the laws' eq, mark and held of them; boxes.
-/
import Derived.Test.YtdohpfckiahlcaaSgMark
import Derived.Test.YtdohpfckiahlcaaResIntsResult
namespace Go.Proofs.Ytdohpfckiahlcaa
open Go.RowKit Go.Extern.Stop Go.Stop Go.Extern Num Go.Lib

/-- A box and its cells. -/
def Cells (u : World) (b : Nat) (vs : List Value) : Prop := ∀ j x, vs[j]? = some x → u.cell? ⟨b, j, none⟩ = some x
theorem Cells.below {u u' : World} {b : Nat} {vs : List Value} (h : Cells u b vs) (hb : Below u.heap.size u u') : Cells u' b vs := fun j x hj => cell_keep hb (h j x hj)
theorem Cells.keeps {F : Nat → Prop} {u u' : World} {b : Nat} {vs : List Value} (h : Cells u b vs) (hk : Keeps F u u') (hn : ¬ F b) : Cells u' b vs := fun j x hj => hk.cell (h j x hj) hn
theorem Cells.new (u : World) (vs : Array Value) (T : TypeId) : Cells (u.alloc (.cells vs T)) u.heap.size vs.toList := fun j x hj => by
  rw [World.cell?_alloc_at _ _ _ _ rfl]
  simpa using hj
theorem keepsB {F : Nat → Prop} {B : Nat} {a w w' : World} (h : Below B a w) (hB : B ≤ w.heap.size) (hk : Keeps F w w') (hf : ∀ b, F b → B ≤ b) : Below B a w' :=
  ⟨hk.os.trans h.os, hk.tape.trans h.tape, hk.output.trans h.output, Nat.le_trans h.size hk.size, fun k hk' => (hk.block k (by omega) (fun q => by have := hf k q; omega)).trans (h.block k hk')⟩
theorem bnewK (u : World) (o : Obj) : Below u.heap.size u (u.alloc o) := (Below.refl _ _).alloc (Nat.le_refl _) _
/-- Lists. -/
def OwnL (u : World) (B : Nat) (x : Value) (L : List Int) : Prop := u.ownsRow B 2 1 x L.length (cellsI L)
def MarL (u : World) (B : Nat) (x : Value) (L : List Int) : Prop := u.ownsRow B 2 1 x L.length (cellsI (marksI 1 L.length))
def ftL (x : Value) (_ : List Int) (b : Nat) : Prop := x.ownBlock = some b
def endL (L : List Int) : Nat := 1 + L.length
theorem OwnL.below {u u' : World} {B : Nat} {x : Value} {L : List Int} (h : OwnL u B x L) (hb : Below u.heap.size u u') : OwnL u' B x L := own_below h hb
theorem OwnL.base {u : World} {B B' : Nat} {x : Value} {L : List Int} (h : OwnL u B x L) (hb : B' ≤ B) : OwnL u B' x L := own_base h hb
theorem OwnL.keeps {F : Nat → Prop} {u u' : World} {B : Nat} {x : Value} {L : List Int} (h : OwnL u B x L) (hk : Keeps F u u') (hf : ∀ b, ftL x L b → ¬ F b) : OwnL u' B x L := hk.own h hf
theorem OwnL.foot {u : World} {B : Nat} {x : Value} {L : List Int} (h : OwnL u B x L) {b : Nat} (hb : ftL x L b) : B ≤ b ∧ b < u.heap.size := World.ownsRow.lt h b hb
theorem OwnL.see {u : World} {B : Nat} {x : Value} {L : List Int} (h : OwnL u B x L) : SeeI u x L := seeI_own h
theorem OwnL.form {u : World} {B : Nat} {x : Value} {L : List Int} (h : OwnL u B x L) : ∃ a n c, x = .slice a n c := by obtain ⟨a, c, e⟩ := own_form h; exact ⟨a, _, c, e⟩
theorem MarL.below {u u' : World} {B : Nat} {x : Value} {L : List Int} (h : MarL u B x L) (hb : Below u.heap.size u u') : MarL u' B x L := own_below h hb
/-- Stacks. -/
def OwnS (u : World) (B : Nat) (x : Value) (P : List (List Int × Value)) : Prop := PV 54 u B x P
def MarS (u : World) (B : Nat) (x : Value) (P : List (List Int × Value)) : Prop := PV 54 u B x (marksP 1 P)
def endS (P : List (List Int × Value)) : Nat := 1 + totP P
theorem OwnS.below {u u' : World} {B : Nat} {x : Value} {P : List (List Int × Value)} (h : OwnS u B x P) (hb : Below u.heap.size u u') : OwnS u' B x P := PV.below h hb
theorem OwnS.base {u : World} {B B' : Nat} {x : Value} {P : List (List Int × Value)} (h : OwnS u B x P) (hb : B' ≤ B) : OwnS u B' x P := PV.base h hb
theorem OwnS.keeps {F : Nat → Prop} {u u' : World} {B : Nat} {x : Value} {P : List (List Int × Value)} (h : OwnS u B x P) (hk : Keeps F u u') (hf : ∀ b, footP x P b → ¬ F b) : OwnS u' B x P := PV.keeps h hk hf
theorem OwnS.foot {u : World} {B : Nat} {x : Value} {P : List (List Int × Value)} (h : OwnS u B x P) {b : Nat} (hb : footP x P b) : B ≤ b ∧ b < u.heap.size := PV.foot h hb
theorem OwnS.see {u : World} {B : Nat} {x : Value} {P : List (List Int × Value)} (h : OwnS u B x P) : SeeP u x (P.map Prod.fst) := PV.see h
theorem OwnS.form {u : World} {B : Nat} {x : Value} {P : List (List Int × Value)} (h : OwnS u B x P) : ∃ a n c, x = .slice a n c := by obtain ⟨a, c, e⟩ := PV.form h; exact ⟨a, _, c, e⟩
theorem MarS.below {u u' : World} {B : Nat} {x : Value} {P : List (List Int × Value)} (h : MarS u B x P) (hb : Below u.heap.size u u') : MarS u' B x P := PV.below h hb
/-- An answer that holds a stack. -/
def AnsS (R N Z : Int) (PS : List (List Int)) (w : World) (e : Ending) (w' : World) : Prop := ∃ v P, e = .returned (srV R N Z v) ∧ PV 54 w' w.heap.size v P ∧ P.map Prod.fst = PS ∧ Below w.heap.size w w'
end Go.Proofs.Ytdohpfckiahlcaa
