/-
  Parts of the proof laid into one text, one behind the other; each says at its head what is proved in it.
-/
import Derived.Test.YteboaiklibaomaaGreatDoorSpecSymHt
import Derived.Test.YteboaiklibaomaaGreatDoorOfA
import Derived.Test.YteboaiklibaomaaGreatDoorRowKit0Ht
import Derived.Test.YteboaiklibaomaaGreatDoorDigitsHt
/-
  The model's SymFault answers what the plain function tells, whatever the world; nothing is turned.
-/
namespace Go.Proofs.YteboaiklibaomaaGreatDoor
open Go.RowKit Go.Extern.Stop Go.Stop Go.Extern Num

end Go.Proofs.YteboaiklibaomaaGreatDoor
/-
  The model's l2Fault and l2Text: what is wrong with a token, and the text of one with which nothing is wrong; nothing that was there is turned.
-/
namespace Go.Proofs.YteboaiklibaomaaGreatDoor
open Go.RowKit Go.Extern.Stop Go.Stop Go.Extern Num Go.Lib

/-- The cells of a token behind a pointer. -/
structure TokAt (b o : Nat) (t : Tok) (w : World) : Prop where
  c0 : w.cell? ⟨b, o, none⟩ = some (.int .i64 t.kind)
  c1 : w.cell? ⟨b, o + 1, none⟩ = some (.int .i64 t.num)
  c2 : w.cell? ⟨b, o + 2, none⟩ = some (.string t.name)
/-- What is wrong with a token. -/
def tokFault (t : Tok) : Int :=
  if ¬ (1 ≤ t.kind ∧ t.kind ≤ 6) then 1
  else if (t.kind ≠ 4 ∧ t.kind ≠ 5) ∧ t.num ≠ 0 then 1
  else if t.kind ≠ 6 ∧ t.name.data.toList ≠ [] then 1
  else if t.kind = 4 then (if inB t.num = true then 0 else 3)
  else if t.kind = 5 then (if 0 ≤ t.num ∧ t.num ≤ 1 then 0 else 3)
  else if t.kind = 6 then (if symL t.name.data.toList = true then 0 else 5)
  else 0
end Go.Proofs.YteboaiklibaomaaGreatDoor
/-
  The model's l2Fault, l2Text and TokenText at every token; nothing that was there is turned.
-/
namespace Go.Proofs.YteboaiklibaomaaGreatDoor
open Go.RowKit Go.Extern.Stop Go.Stop Go.Extern Num Go.Lib

theorem nil_yes {z : ByteArray} (h : z.data.toList = []) : (z.toList == []) = true := by rw [ByteArray.toList_eq, h]; rfl
theorem nil_no {z : ByteArray} (h : z.data.toList ≠ []) : (z.toList == []) = false := ne_list h
/-- The text of a token. -/
def tokText (t : Tok) : ByteArray :=
  if t.kind = 1 then ⟨#[40]⟩ else if t.kind = 2 then ⟨#[41]⟩ else if t.kind = 3 then ⟨#[39]⟩
  else if t.kind = 4 then ⟨(itoa t.num).toArray⟩ else if t.kind = 5 then (if t.num = 0 then ⟨#[35, 102]⟩ else ⟨#[35, 116]⟩) else t.name
theorem fault_zero {t : Tok} (h : tokFault t = 0) : (t.kind = 1 ∨ t.kind = 2 ∨ t.kind = 3 ∨ (t.kind = 4 ∧ inB t.num = true) ∨ (t.kind = 5 ∧ (t.num = 0 ∨ t.num = 1)) ∨ t.kind = 6) := by
  unfold tokFault at h
  split at h
  · cases h
  · rename_i h1
    split at h
    · cases h
    · split at h
      · cases h
      · split at h
        · rename_i h4
          split at h
          · rename_i h5; exact Or.inr (Or.inr (Or.inr (Or.inl ⟨h4, h5⟩)))
          · cases h
        · split at h
          · rename_i h5
            split at h
            · exact Or.inr (Or.inr (Or.inr (Or.inr (Or.inl ⟨h5, by omega⟩))))
            · cases h
          · omega
end Go.Proofs.YteboaiklibaomaaGreatDoor
