/-
  The model's DataFault: what is wrong with data, datum by datum; nothing is turned.
-/
import Derived.Test.YtkdhmijebkhmaaaSpecDat
import Derived.Deep.CutRange
namespace Go.Proofs.Ytkdhmijebkhmaaa
open Go.RowKit Go.Extern.Stop Go.Stop Go.Extern Num Go.Lib

def rangeBad (t : Dat) : Bool := (t.kind == 1 && !(inB t.num)) || (t.kind == 2 && !(decide (0 ≤ t.num) && decide (t.num ≤ 1)))
def symBad (t : Dat) : Bool := t.kind == 3 && !(symL t.name.data.toList)
def parBad (i : Nat) (p : Int) : Bool := (i == 0 && p != -1) || (decide (0 < i) && !(decide (0 ≤ p) && decide (p ≤ (i : Int) - 1)))
/-- What is wrong with the datum at a place. -/
def chkD (l : List Dat) (i : Nat) (t : Dat) : Int :=
  if bareB t = false then 1 else if rangeBad t = true then 3 else if symBad t = true then 5 else if parBad i t.parent = true then 3 else if (decide (0 < i) && !(lineB l i)) = true then 1 else if 12 < deepF l 100 (i : Int) then 2 else 0
/-- The first fault, from a place on. -/
def faultFrom (l : List Dat) : Nat → List Dat → Int
  | _, [] => 0
  | i, t :: r => if chkD l i t = 0 then faultFrom l (i + 1) r else chkD l i t
def dataFault (l : List Dat) : Int := if l.length < 1 ∨ 80 < l.length then 2 else faultFrom l 0 l
/-- All is well up to a place. -/
def okUpto (l : List Dat) (k : Nat) : Prop := ∀ (j : Nat) (h : j < l.length), j < k → chkD l j l[j] = 0
theorem faultFrom_drop (l : List Dat) (k : Nat) (hok : okUpto l k) (hk : k ≤ l.length) : faultFrom l 0 l = faultFrom l k (l.drop k) := by
  induction k with
  | zero => simp
  | succ k ih =>
    have hk' : k < l.length := by omega
    rw [ih (fun j h hj => hok j h (by omega)) (by omega), List.drop_eq_getElem_cons hk', faultFrom, if_pos (hok k hk' (by omega))]
theorem fault_hit (l : List Dat) (k : Nat) (hk : k < l.length) (hok : okUpto l k) (hc : chkD l k l[k] ≠ 0) : faultFrom l 0 l = chkD l k l[k] := by
  rw [faultFrom_drop l k hok (by omega), List.drop_eq_getElem_cons hk, faultFrom, if_neg hc]
theorem fault_end (l : List Dat) (hok : okUpto l l.length) : faultFrom l 0 l = 0 := by
  rw [faultFrom_drop l l.length hok (Nat.le_refl _)]; simp [faultFrom]
theorem okUpto_next {l : List Dat} {k : Nat} (h : okUpto l k) (hk : k < l.length) (hc : chkD l k l[k] = 0) : okUpto l (k + 1) := by
  intro j hj hjk
  by_cases e : j < k
  · exact h j hj e
  · have : j = k := by omega
    subst this; exact hc
theorem parBad_lt {i : Nat} {p : Int} (h : parBad i p = false) : p < (i : Int) ∧ -1 ≤ p := by
  unfold parBad at h
  by_cases h0 : i = 0
  · subst h0
    simp at h
    omega
  · have h1 : 0 < i := by omega
    have h2 : (i == 0) = false := by simpa using h0
    rw [h2] at h
    simp [h1] at h
    omega
theorem chk_par {l : List Dat} {i : Nat} {t : Dat} (h : chkD l i t = 0) : t.parent < (i : Int) ∧ -1 ≤ t.parent := by
  apply parBad_lt
  unfold chkD at h
  cases hp : parBad i t.parent with
  | false => rfl
  | true =>
    exfalso
    rw [hp] at h
    split at h
    · cases h
    · split at h
      · cases h
      · split at h
        · cases h
        · simp at h
theorem chk_bare {l : List Dat} {k : Nat} {t : Dat} (h : bareB t = false) : chkD l k t = 1 := by simp [chkD, h]
theorem chk_range {l : List Dat} {k : Nat} {t : Dat} (h : bareB t = true) (h2 : rangeBad t = true) : chkD l k t = 3 := by simp [chkD, h, h2]
theorem chk_sym {l : List Dat} {k : Nat} {t : Dat} (h : bareB t = true) (h2 : rangeBad t = false) (h3 : symBad t = true) : chkD l k t = 5 := by simp [chkD, h, h2, h3]
theorem chk_parent {l : List Dat} {k : Nat} {t : Dat} (h : bareB t = true) (h2 : rangeBad t = false) (h3 : symBad t = false) (h4 : parBad k t.parent = true) : chkD l k t = 3 := by simp [chkD, h, h2, h3, h4]
theorem chk_line {l : List Dat} {k : Nat} {t : Dat} (h : bareB t = true) (h2 : rangeBad t = false) (h3 : symBad t = false) (h4 : parBad k t.parent = false) (h5 : (decide (0 < k) && !(lineB l k)) = true) : chkD l k t = 1 := by
  unfold chkD
  rw [h, h2, h3, h4, if_neg (by decide), if_neg (by decide), if_neg (by decide), if_neg (by decide), if_pos h5]
theorem chk_deep {l : List Dat} {k : Nat} {t : Dat} (h : bareB t = true) (h2 : rangeBad t = false) (h3 : symBad t = false) (h4 : parBad k t.parent = false) (h5 : (decide (0 < k) && !(lineB l k)) = false) : chkD l k t = if 12 < deepF l 100 (k : Int) then 2 else 0 := by
  unfold chkD
  rw [h, h2, h3, h4, h5, if_neg (by decide), if_neg (by decide), if_neg (by decide), if_neg (by decide), if_neg (by decide)]
def KF (t : Dat) : Prop := ((t.kind == 1) = true ∧ (t.kind == 2) = false ∧ (t.kind == 3) = false) ∨ ((t.kind == 1) = false ∧ (t.kind == 2) = true ∧ (t.kind == 3) = false) ∨ ((t.kind == 1) = false ∧ (t.kind == 2) = false ∧ (t.kind == 3) = true) ∨ ((t.kind == 1) = false ∧ (t.kind == 2) = false ∧ (t.kind == 3) = false)
theorem kf (t : Dat) : KF t := by
  unfold KF
  by_cases h1 : t.kind = 1
  · simp [h1]
  · by_cases h2 : t.kind = 2
    · simp [h2]
    · by_cases h3 : t.kind = 3
      · simp [h3]
      · simp [h1, h2, h3]
theorem name_le {l : List Dat} (h : ∀ (k : Nat) (h : k < l.length), l[k].name.size ≤ 1048576) : ∀ (k : Nat) (h : k < l.length), l[k].name.size ≤ 9223372036854775807 := fun k hk => by have := h k hk; omega
end Go.Proofs.Ytkdhmijebkhmaaa
