/-
  The text of code.
-/
import Derived.Test.YtkdhmijebkhmaaaGreatDoorImplOp1
import Derived.Test.YtkdhmijebkhmaaaGreatDoorCtE
import Derived.Test.YtkdhmijebkhmaaaGreatDoorCtA
namespace Go.Proofs.YtkdhmijebkhmaaaGreatDoor
open Go.RowKit Go.Extern.Stop Go.Stop Go.Extern Num Go.Lib

/-- The numbers of an operation, each behind a blank. -/
def numsTo (t : Opr) (n : Nat) : List UInt8 := ((numsL t).take n).flatMap (fun x => 32 :: itoa x)
def nameT (t : Opr) : List UInt8 := if namedO t.kind then 32 :: t.name.data.toList else []
def dataT (t : Opr) : List UInt8 := if constO t.kind then 32 :: writeF t.data t.data.length 0 else []
def opT (t : Opr) : List UInt8 := (((wordO t.kind).data.toList ++ nameT t) ++ dataT t) ++ numsTo t (numsO t.kind)
def opLine (k : Nat) (t : Opr) : List UInt8 := itoa (k : Int) ++ ([58, 32] ++ (opT t ++ [10]))
def blkLine (i : Nat) (b : Blk) : List UInt8 := [98, 108, 111, 99, 107, 32] ++ (itoa (i : Int) ++ ([32] ++ (itoa b.args ++ [10])))
/-- The operations of a block up to a place. -/
def opsTo (l : List Opr) : Nat → List UInt8
  | 0 => []
  | k + 1 => opsTo l k ++ (if h : k < l.length then opLine k l[k] else [])
def blkT (i : Nat) (b : Blk) : List UInt8 := blkLine i b ++ opsTo b.ops b.ops.length
def codeTo (l : List Blk) : Nat → List UInt8
  | 0 => []
  | i + 1 => codeTo l i ++ (if h : i < l.length then blkT i l[i] else [])
def codeT (l : List Blk) : List UInt8 := codeTo l l.length
theorem opsTo_next (l : List Opr) (k : Nat) (h : k < l.length) : opsTo l (k + 1) = opsTo l k ++ opLine k l[k] := by simp [opsTo, h]
theorem codeTo_next (l : List Blk) (i : Nat) (h : i < l.length) : codeTo l (i + 1) = codeTo l i ++ blkT i l[i] := by simp [codeTo, h]
theorem opsTo_pre (l : List Opr) : ∀ (n k : Nat), k ≤ n → ∃ r, opsTo l n = opsTo l k ++ r
  | 0, k, h => ⟨[], by obtain rfl : k = 0 := by omega
                       simp⟩
  | n + 1, k, h => by
    by_cases e : k = n + 1
    · subst e; exact ⟨[], by simp⟩
    · obtain ⟨r, hr⟩ := opsTo_pre l n k (by omega)
      exact ⟨r ++ (if h : n < l.length then opLine n l[n] else []), by rw [opsTo, hr, List.append_assoc]⟩
theorem codeTo_pre (l : List Blk) : ∀ (n k : Nat), k ≤ n → ∃ r, codeTo l n = codeTo l k ++ r
  | 0, k, h => ⟨[], by obtain rfl : k = 0 := by omega
                       simp⟩
  | n + 1, k, h => by
    by_cases e : k = n + 1
    · subst e; exact ⟨[], by simp⟩
    · obtain ⟨r, hr⟩ := codeTo_pre l n k (by omega)
      exact ⟨r ++ (if h : n < l.length then blkT n l[n] else []), by rw [codeTo, hr, List.append_assoc]⟩
/-- What is written up to an operation of a block is no longer than the whole. -/
theorem code_len (l : List Blk) (i : Nat) (h : i < l.length) (k : Nat) (hk : k ≤ l[i].ops.length) : (codeTo l i ++ (blkLine i l[i] ++ opsTo l[i].ops k)).length ≤ (codeT l).length := by
  obtain ⟨r, hr⟩ := codeTo_pre l l.length (i + 1) (by omega)
  obtain ⟨r2, hr2⟩ := opsTo_pre l[i].ops l[i].ops.length k hk
  unfold codeT
  rw [hr, codeTo_next l i h]
  unfold blkT
  rw [hr2]
  simp only [List.length_append]
  omega
theorem itoa_nat_len (n : Nat) (h : n ≤ 999) : (itoa (n : Int)).length ≤ 3 := by
  rw [itoa_nonneg, decDigits_length]
  exact nDigits_le_of_lt n 2 (by omega)
theorem itoa_len3 (x : Int) (h0 : 0 ≤ x) (h1 : x ≤ 999) : (itoa x).length ≤ 3 := by
  obtain ⟨n, rfl⟩ : ∃ n : Nat, x = (n : Int) := ⟨x.toNat, by omega⟩
  exact itoa_nat_len n (by omega)
end Go.Proofs.YtkdhmijebkhmaaaGreatDoor
