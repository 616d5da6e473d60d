/-
  The bytes of symbols, and a name as one number: its bytes are digits from 1 on, so that the name comes back from the number. No program in it.
-/
import Derived.Test.YtebnonpdaddniaaGreatDoorSpecSym
import Derived.Lib.Bytealg
namespace Go.Proofs.YtebnonpdaddniaaGreatDoor
open Go.RowKit Go.Extern.Stop Go.Stop Go.Extern Num

theorem indexByte_iff (l : List UInt8) (b : UInt8) : 0 ≤ Lib.indexByte l b ↔ l.any (· == b) = true := by
  induction l with
  | nil => simp [Lib.indexByte]
  | cons a r ih =>
    have hge := Lib.indexByte_ge r b
    have e : Lib.indexByte (a :: r) b = if a == b then 0 else if Lib.indexByte r b == -1 then -1 else Lib.indexByte r b + 1 := rfl
    rw [e, List.any_cons, Bool.or_eq_true, ← ih]
    by_cases h : (a == b) = true
    · rw [if_pos h]; simp [h]
    · rw [if_neg h]
      by_cases h1 : (Lib.indexByte r b == -1) = true
      · rw [if_pos h1]; have := eq_of_beq h1; simp [h, this]
      · rw [if_neg h1]
        have h2 : Lib.indexByte r b ≠ -1 := by simpa using h1
        constructor
        · intro _; exact Or.inr (by omega)
        · intro _; omega
theorem indexByte_any (l : List UInt8) (b : UInt8) : decide (0 ≤ Lib.indexByte l b) = l.any (· == b) := by
  rw [Bool.eq_iff_iff, decide_eq_true_iff]; exact indexByte_iff l b
/-- The bytes that a symbol may have. -/
def symAll : List UInt8 := [97, 98, 99, 100, 101, 102, 103, 104, 105, 106, 107, 108, 109, 110, 111, 112, 113, 114, 115, 116, 117, 118, 119, 120, 121, 122, 43, 45, 42, 47, 60, 61, 63, 33]
theorem symAll_any (b : UInt8) : symAll.any (· == b) = symB b := by
  have h : ∀ n : Fin 256, symAll.any (· == UInt8.ofFin n) = symB (UInt8.ofFin n) := by decide +kernel
  have := h b.toFin
  simpa using this
/-- The digit of a byte. -/
def dig (b : UInt8) : Nat := (Lib.indexByte symAll b + 1).toNat
theorem dig_facts (b : UInt8) (h : symB b = true) : 1 ≤ dig b ∧ dig b ≤ 34 ∧ Lib.indexByte symAll b = ((dig b : Nat) : Int) - 1 ∧ symAll[dig b - 1]? = some b := by
  have k : ∀ n : Fin 256, symB (UInt8.ofFin n) = true → 1 ≤ dig (UInt8.ofFin n) ∧ dig (UInt8.ofFin n) ≤ 34 ∧ Lib.indexByte symAll (UInt8.ofFin n) = ((dig (UInt8.ofFin n) : Nat) : Int) - 1 ∧ symAll[dig (UInt8.ofFin n) - 1]? = some (UInt8.ofFin n) := by decide +kernel
  have := k b.toFin (by simpa using h)
  simpa using this
/-- A name as a number. -/
def bitsL (l : List UInt8) : Nat := l.foldl (fun n b => n * 35 + dig b) 0
theorem bitsL_snoc (l : List UInt8) (b : UInt8) : bitsL (l ++ [b]) = bitsL l * 35 + dig b := by simp [bitsL]
theorem foldl_lt (l : List UInt8) (h : l.all symB = true) : ∀ n, l.foldl (fun n b => n * 35 + dig b) n < (n + 1) * 35 ^ l.length := by
  induction l with
  | nil => intro n; simp
  | cons b r ih =>
    intro n
    rw [List.all_cons, Bool.and_eq_true] at h
    have h1 := ih h.2 (n * 35 + dig b)
    have h2 := dig_facts b h.1
    rw [List.foldl_cons, List.length_cons, Nat.pow_succ, Nat.mul_comm (35 ^ r.length) 35, ← Nat.mul_assoc]
    refine Nat.lt_of_lt_of_le h1 (Nat.mul_le_mul_right _ ?_)
    omega
theorem bitsL_lt (l : List UInt8) (h : l.all symB = true) : bitsL l < 35 ^ l.length := by
  have := foldl_lt l h 0
  simpa [bitsL] using this
theorem pow35 (n : Nat) (h : n ≤ 12) : 35 ^ n ≤ 3379220508056640625 := by
  have : 35 ^ n ≤ 35 ^ 12 := Nat.pow_le_pow_right (by omega) h
  simpa using this
theorem bitsL_pos (l : List UInt8) (b : UInt8) (h : symB b = true) : 0 < bitsL (l ++ [b]) ∧ bitsL (l ++ [b]) % 35 = dig b ∧ bitsL (l ++ [b]) / 35 = bitsL l := by
  have h2 := dig_facts b h
  rw [bitsL_snoc]
  omega
end Go.Proofs.YtebnonpdaddniaaGreatDoor
