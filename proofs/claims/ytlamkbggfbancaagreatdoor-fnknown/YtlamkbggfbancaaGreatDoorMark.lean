/-
  The laws' markText: the text of a number that marks a place; nothing that was there is turned.
-/
import Derived.Test.YtlamkbggfbancaaGreatDoorDigits
namespace Go.Proofs.YtlamkbggfbancaaGreatDoor
open Go.RowKit Go.Extern.Stop Go.Stop Go.Extern Num Go.Lib

theorem add_cons (d : Nat) (o : List UInt8) (ho : o.length ≤ 1000) (w : World) : (Op.stringOp .add ⟨[digB d].toArray⟩ ⟨o.toArray⟩).run Tryz.prog w = .ok (S (digB d :: o)) w :=
  run_string_add_lists w [digB d] o (by simp) (by omega)
theorem add_m (o : List UInt8) (ho : o.length ≤ 1000) (w : World) : (Op.stringOp .add ⟨#[109]⟩ ⟨o.toArray⟩).run Tryz.prog w = .ok (S (109 :: o)) w :=
  run_string_add_lists w [109] o (by simp) (by omega)
theorem mark_len {k m : Nat} {o : List UInt8} (hk : k ≤ 10000000) (he : (if m = 0 then o else decDigits m ++ o) = decDigits k) : o.length ≤ 8 := by
  have h : (decDigits k).length ≤ 8 := by rw [decDigits_length]; exact nDigits_le_of_lt k 7 (by omega)
  rw [← he] at h
  split at h
  · exact h
  · rw [List.length_append] at h; omega
theorem mark_step {k m : Nat} {o : List UInt8} (h0 : ¬ m = 0) (he : (if m = 0 then o else decDigits m ++ o) = decDigits k) : (if m / 10 = 0 then digB (m % 10) :: o else decDigits (m / 10) ++ (digB (m % 10) :: o)) = decDigits k := by
  rw [if_neg h0] at he
  rw [← he]
  by_cases h : m < 10
  · rw [if_pos (by omega), decDigits_one h, Nat.mod_eq_of_lt h]; rfl
  · rw [if_neg (by omega), ← dig_step m (m / 10) (m % 10) h rfl rfl]; simp
end Go.Proofs.YtlamkbggfbancaaGreatDoor
