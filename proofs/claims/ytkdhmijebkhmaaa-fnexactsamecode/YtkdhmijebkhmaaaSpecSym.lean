/-
  The model's l2Byte and l2Sym answer what the plain functions tell, whatever the world; nothing is turned.
-/
import Derived.Test.YtkdhmijebkhmaaaSpecNum
namespace Go.Proofs.Ytkdhmijebkhmaaa
open Go.RowKit Go.Extern.Stop Go.Stop Go.Extern Num

/-- The signs that a symbol may have besides letters. -/
def signs : List UInt8 := [43, 45, 42, 47, 60, 61, 63, 33]
def symB (b : UInt8) : Bool := (decide (97 ≤ b.toNat) && decide (b.toNat ≤ 122)) || signs.any (· == b)
def symL (l : List UInt8) : Bool := l.all symB && (decide (1 ≤ l.length) && decide (l.length ≤ 12))

theorem sign_at (k : Nat) (h : k < 8) : signs[k]'h = (({ data := #[43, 45, 42, 47, 60, 61, 63, 33] } : ByteArray)[k]'h) := rfl
theorem sign_yes (k : Nat) (b : UInt8) (h : k < 8) (ht : (((({ data := #[43, 45, 42, 47, 60, 61, 63, 33] } : ByteArray)[k]'h).toNat : Int) == (b.toNat : Int)) = true) : signs.any (· == b) = true := by
  have e : (signs[k]'h) = b := by
    rw [sign_at k h]
    have := eq_of_beq ht
    rw [← UInt8.toNat_inj]; omega
  rw [List.any_eq_true]
  exact ⟨b, by rw [← e]; exact List.getElem_mem _, by simp⟩
theorem sign_no (k : Nat) (b : UInt8) (h : k < 8) (hn : (signs.take k).any (· == b) = false) (ht : (((({ data := #[43, 45, 42, 47, 60, 61, 63, 33] } : ByteArray)[k]'h).toNat : Int) == (b.toNat : Int)) = false) : (signs.take (k + 1)).any (· == b) = false := by
  rw [List.take_succ_eq_append_getElem (by exact h), List.any_append, hn, sign_at k h]
  have : ((({ data := #[43, 45, 42, 47, 60, 61, 63, 33] } : ByteArray)[k]'h) == b) = false := by
    rw [beq_eq_false_iff_ne] at ht ⊢
    intro e; apply ht; rw [e]
  simp only [List.any_cons, List.any_nil, this, Bool.or_false]
theorem take_all (s : ByteArray) (k : Nat) (h : k < s.size) (ha : ((s.data.toList.take k).all symB) = true) : ((s.data.toList.take (k + 1)).all symB) = symB (s[k]'h) := by
  have hk : k < s.data.toList.length := by rw [Array.length_toList]; exact h
  rw [List.take_succ_eq_append_getElem hk, List.all_append, ha]
  simp only [List.all_cons, List.all_nil, Bool.and_true, Bool.true_and]
  rfl
theorem not_all (s : ByteArray) (k : Nat) (h : k < s.size) (hb : symB (s[k]'h) = false) : symL s.data.toList = false := by
  have hk : k < s.data.toList.length := by rw [Array.length_toList]; exact h
  unfold symL
  have : s.data.toList.all symB = false := by
    rw [List.all_eq_false]
    exact ⟨s.data.toList[k], List.getElem_mem _, by show ¬ symB (s[k]'h) = true; rw [hb]; simp⟩
  rw [this, Bool.false_and]
theorem all_len (s : ByteArray) (ha : s.data.toList.all symB = true) : symL s.data.toList = (decide (1 ≤ (s.size : Int)) && decide ((s.size : Int) ≤ 12)) := by
  unfold symL
  have hl : s.data.toList.length = s.size := by rw [Array.length_toList]; rfl
  rw [ha, Bool.true_and, hl]
  congr 1 <;> (rw [decide_eq_decide]; omega)
end Go.Proofs.Ytkdhmijebkhmaaa
