/-
  Plain facts on bounded numbers and their decimal texts: the digits of a number spell that number, and a text is the text of at most one number; no program in it.
-/
import Derived.Lib.AtoiTie
import Derived.Lib.ItoaNum
import Derived.Lib.ItoaMem
import Derived.Lib.ItoaLen
import Derived.Lib.ParseIntBTie
namespace Go.Proofs.Ytdohpfckiahlcaa.Num
open Go.Lib

/-- A number that is within the document's bounds. -/
def inB (n : Int) : Bool := decide (-1000000000 ≤ n ∧ n ≤ 1000000000)
theorem inB_iff (n : Int) : inB n = true ↔ -1000000000 ≤ n ∧ n ≤ 1000000000 := by simp [inB]
theorem inB_not (n : Int) : inB n = false ↔ n < -1000000000 ∨ 1000000000 < n := by
  rw [← Bool.not_eq_true, inB_iff]; omega

theorem digitVal_ofNat (d : Nat) (h : d < 10) : digitVal (UInt8.ofNat (48 + d)) = some d := by
  have e : (UInt8.ofNat (48 + d)).toNat = 48 + d := by simp [UInt8.toNat_ofNat']; omega
  unfold digitVal
  rw [e, if_pos (by omega)]
  congr 1; omega

theorem decFrom_append : ∀ (a b : List UInt8) (acc m : Nat), decFrom acc a = some m → decFrom acc (a ++ b) = decFrom m b
  | [], b, acc, m, h => by simp [decFrom] at h; subst h; rfl
  | c :: r, b, acc, m, h => by
    simp only [decFrom, List.cons_append] at h ⊢
    cases hd : digitVal c with
    | none => rw [hd] at h; cases h
    | some d => rw [hd] at h; simp only at h ⊢; exact decFrom_append r b _ m h

theorem decFrom_decDigits (u : Nat) : decFrom 0 (decDigits u) = some u := by
  induction u using Nat.strongRecOn with
  | _ u ih =>
    by_cases h : u < 10
    · rw [decDigits, dif_pos h]
      simp only [decFrom, digitVal_ofNat u h]
      congr 1; omega
    · rw [decDigits, dif_neg h, decFrom_append _ _ _ _ (ih (u / 10) (by omega))]
      simp only [decFrom, digitVal_ofNat (u % 10) (by omega)]
      congr 1; omega

theorem decDigits_cons (u : Nat) : ∃ c r, decDigits u = c :: r ∧ 48 ≤ c.toNat ∧ c.toNat ≤ 57 := by
  induction u using Nat.strongRecOn with
  | _ u ih =>
    by_cases h : u < 10
    · refine ⟨_, [], by rw [decDigits, dif_pos h], ?_⟩
      have e : (UInt8.ofNat (48 + u)).toNat = 48 + u := by simp [UInt8.toNat_ofNat']; omega
      rw [e]; omega
    · obtain ⟨c, r, e, h1, h2⟩ := ih (u / 10) (by omega)
      exact ⟨c, r ++ [UInt8.ofNat (48 + u % 10)], by rw [decDigits, dif_neg h, e]; rfl, h1, h2⟩

theorem decNat_decDigits (u : Nat) : decNat (decDigits u) = some u := by
  obtain ⟨c, r, e, _, _⟩ := decDigits_cons u
  unfold decNat
  rw [decFrom_decDigits, e]; simp

theorem u8_beq (c : UInt8) (n : Nat) (hn : n < 256) (h : c.toNat ≠ n) : (c == UInt8.ofNat n) = false := by
  rw [beq_eq_false_iff_ne]
  intro e; apply h; rw [e]; simp [UInt8.toNat_ofNat']; omega

theorem atoi_itoa (n : Int) : atoi (itoa n) = some n := by
  unfold itoa
  by_cases h : n < 0
  · rw [if_pos h]
    have : atoi (45 :: decDigits n.natAbs) = (decNat (decDigits n.natAbs)).map fun (m : Nat) => -(m : Int) := by simp [atoi]
    rw [this, decNat_decDigits]
    simp; omega
  · rw [if_neg h]
    obtain ⟨c, r, e, h1, h2⟩ := decDigits_cons n.toNat
    have hd := decNat_decDigits n.toNat
    rw [e] at hd ⊢
    have a := u8_beq c 45 (by omega) (by omega)
    have b := u8_beq c 43 (by omega) (by omega)
    simp only [atoi]
    rw [show (c == 45) = false from a, show (c == 43) = false from b]
    simp [hd]; omega

theorem nDigits_le_of_lt (u k : Nat) (h : u < 10 ^ (k + 1)) : nDigits u ≤ k + 1 := by
  induction k generalizing u with
  | zero => rw [nDigits_small (by simpa using h)]; exact Nat.le_refl _
  | succ k ih =>
    by_cases h2 : u < 10
    · rw [nDigits_small h2]; omega
    · rw [nDigits_big h2]
      have := ih (u / 10) (by rw [Nat.pow_succ] at h; omega)
      omega

theorem itoa_len (n : Int) (h : inB n = true) : (itoa n).length ≤ 11 := by
  rw [inB_iff] at h
  have a : ∀ u, u ≤ 1000000000 → (decDigits u).length ≤ 10 := fun u hu => by
    rw [decDigits_length]; exact nDigits_le_of_lt u 9 (by omega)
  unfold itoa
  by_cases hn : n < 0
  · rw [if_pos hn]; have := a n.natAbs (by omega); simp; omega
  · rw [if_neg hn]; have := a n.toNat (by omega); omega

/-- What ParseInt tells of the text of a number. -/
theorem parse_itoa (n : Int) (h : inB n = true) : parseIntB 64 (itoa n) = .ok n := by
  rw [parseIntB_64, atoiAll_short _ (by have := itoa_len n h; omega), atoi_itoa]; rfl

theorem itoa_inj {a b : Int} (h : itoa a = itoa b) : a = b := by
  have := atoi_itoa a; rw [h, atoi_itoa] at this; exact (Option.some.inj this).symm
end Go.Proofs.Ytdohpfckiahlcaa.Num
