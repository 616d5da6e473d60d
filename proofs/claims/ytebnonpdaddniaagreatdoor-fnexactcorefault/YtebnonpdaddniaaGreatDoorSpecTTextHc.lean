/-
  Parts of the proof laid into one text, one behind the other; each says at its head what is proved in it.
-/
import Derived.Test.YtebnonpdaddniaaGreatDoorDigits
import Derived.Test.YtebnonpdaddniaaGreatDoorSpecFaultHc
/-
  The model's l2Fault, l2Text and TokenText at every token; nothing that was there is turned.
-/
namespace Go.Proofs.YtebnonpdaddniaaGreatDoor
open Go.RowKit Go.Extern.Stop Go.Stop Go.Extern Num Go.Lib

theorem nil_yes {z : ByteArray} (h : z.data.toList = []) : (z.toList == []) = true := by rw [ByteArray.toList_eq, h]; rfl
theorem nil_no {z : ByteArray} (h : z.data.toList ≠ []) : (z.toList == []) = false := ne_list h
/-- The text of a token. -/
def tokText (t : Tok) : ByteArray :=
  if t.kind = 1 then ⟨#[40]⟩ else if t.kind = 2 then ⟨#[41]⟩ else if t.kind = 3 then ⟨#[39]⟩
  else if t.kind = 4 then ⟨(itoa t.num).toArray⟩ else if t.kind = 5 then (if t.num = 0 then ⟨#[35, 102]⟩ else ⟨#[35, 116]⟩) else t.name
theorem fault_zero {t : Tok} (h : tokFault t = 0) : (t.kind = 1 ∨ t.kind = 2 ∨ t.kind = 3 ∨ (t.kind = 4 ∧ inB t.num = true) ∨ (t.kind = 5 ∧ (t.num = 0 ∨ t.num = 1)) ∨ t.kind = 6) := by
  unfold tokFault at h
  split at h
  · cases h
  · rename_i h1
    split at h
    · cases h
    · split at h
      · cases h
      · split at h
        · rename_i h4
          split at h
          · rename_i h5; exact Or.inr (Or.inr (Or.inr (Or.inl ⟨h4, h5⟩)))
          · cases h
        · split at h
          · rename_i h5
            split at h
            · exact Or.inr (Or.inr (Or.inr (Or.inr (Or.inl ⟨h5, by omega⟩))))
            · cases h
          · omega
end Go.Proofs.YtebnonpdaddniaaGreatDoor
