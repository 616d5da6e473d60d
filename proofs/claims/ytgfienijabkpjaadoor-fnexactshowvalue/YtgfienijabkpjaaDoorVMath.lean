/-
  What is wrong with a value, in plain words: no program in it. A value as a tag and a rest.
-/
import Derived.Test.YtgfienijabkpjaaDoorVluBase
import Derived.Test.YtgfienijabkpjaaDoorSpecSym
namespace Go.Proofs.YtgfienijabkpjaaDoor
open Go.RowKit Go.Extern.Stop Go.Stop Go.Extern Num Go.Lib

/-- What is wrong with a value. -/
def vfault (t : Vlu) : Int :=
  if ¬ (1 ≤ t.kind ∧ t.kind ≤ 9) then 1
  else if (t.kind = 3 ∨ t.kind = 4 ∨ t.kind = 9) ∧ t.num ≠ 0 then 1
  else if t.kind ≠ 4 ∧ t.name.data.toList ≠ [] then 1
  else if t.kind = 1 then (if inB t.num = true then 0 else 3)
  else if t.kind = 2 then (if 0 ≤ t.num ∧ t.num ≤ 1 then 0 else 3)
  else if t.kind = 4 then (if symL t.name.data.toList = true then 0 else 5)
  else if 5 ≤ t.kind ∧ t.kind ≤ 8 then (if 0 ≤ t.num ∧ t.num ≤ 99999 then 0 else 3)
  else 0
theorem name_nil (z : ByteArray) : (z.toList == []) = true ↔ z.data.toList = [] := by
  rw [ByteArray.toList_eq]; simp
theorem name_not (z : ByteArray) : (z.toList == []) = false ↔ z.data.toList ≠ [] := by
  rw [ByteArray.toList_eq]; simp
/-- A kind is one of the nine, or none of them. -/
theorem vkinds (k : Int) : k = 1 ∨ k = 2 ∨ k = 3 ∨ k = 4 ∨ k = 5 ∨ k = 6 ∨ k = 7 ∨ k = 8 ∨ k = 9 ∨ (¬ (1 ≤ k ∧ k ≤ 9)) := by omega
theorem vout (k : Int) (h : ¬ (1 ≤ k ∧ k ≤ 9)) : (decide (1 ≤ k) && decide (k ≤ 9)) = false ∧ (decide (5 ≤ k) && decide (k ≤ 8)) = false ∧ (k == 1) = false ∧ (k == 2) = false ∧ (k == 3) = false ∧ (k == 4) = false ∧ (k == 5) = false ∧ (k == 6) = false ∧ (k == 7) = false ∧ (k == 8) = false ∧ (k == 9) = false := by
  refine ⟨?_, ?_, ?_⟩
  · rw [Bool.and_eq_false_iff]; simp; omega
  · rw [Bool.and_eq_false_iff]; simp; omega
  · simp; omega
end Go.Proofs.YtgfienijabkpjaaDoor
