/-
  How many operations code has.
-/
import Derived.Test.YtkdhmijebkhmaaaGreatDoorOpMath
namespace Go.Proofs.YtkdhmijebkhmaaaGreatDoor

def sumTo (l : List Blk) (k : Nat) : Nat := ((l.take k).map (fun b => b.ops.length)).sum
theorem sumTo_zero (l : List Blk) : sumTo l 0 = 0 := rfl
theorem sumTo_next (l : List Blk) (k : Nat) (h : k < l.length) : sumTo l (k + 1) = sumTo l k + l[k].ops.length := by
  unfold sumTo
  rw [List.take_add_one, List.getElem?_eq_getElem h, List.map_append, List.sum_append]
  simp only [Option.toList, List.map_cons, List.map_nil, List.sum_cons, List.sum_nil, Nat.add_zero]
theorem sumTo_le (l : List Blk) (hz : ∀ (k : Nat) (h : k < l.length), l[k].small) : ∀ k, k ≤ l.length → sumTo l k ≤ k * 1048576
  | 0, _ => by simp [sumTo_zero]
  | k + 1, h => by
    rw [sumTo_next l k (by omega)]
    have h1 := sumTo_le l hz k (by omega)
    have h2 := (hz k (by omega)).len
    omega
/-- What CountOps tells. -/
def cntC (l : List Blk) : Int := if codeFault9 l = 0 then (sumTo l l.length : Int) else 0
theorem fault_60 {l : List Blk} (h : codeFault9 l = 0) : l.length ≤ 60 := by
  unfold codeFault9 at h
  by_cases e : 60 < l.length
  · rw [if_pos e] at h; cases h
  · omega
end Go.Proofs.YtkdhmijebkhmaaaGreatDoor
