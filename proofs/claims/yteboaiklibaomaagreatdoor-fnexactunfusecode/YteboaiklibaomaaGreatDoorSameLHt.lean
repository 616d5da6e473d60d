/-
  Parts of the proof laid into one text, one behind the other; each says at its head what is proved in it.
-/
import Derived.Test.YteboaiklibaomaaGreatDoorStDatumHt
/-
  Whether two lists are the same, element by element.
-/
namespace Go.Proofs.YteboaiklibaomaaGreatDoor

def sameL {α : Type} (eq : α → α → Bool) : List α → List α → Bool
  | [], [] => true
  | t :: r, u :: s => eq t u && sameL eq r s
  | _, _ => false
theorem sameL_len {α : Type} (eq : α → α → Bool) : ∀ (a b : List α), a.length ≠ b.length → sameL eq a b = false
  | [], [], h => absurd rfl h
  | [], _ :: _, _ => rfl
  | _ :: _, [], _ => rfl
  | t :: r, u :: s, h => by
    have : r.length ≠ s.length := by simpa using h
    simp [sameL, sameL_len eq r s this]
def sameToL {α : Type} (eq : α → α → Bool) (a b : List α) (k : Nat) : Prop := ∀ (j : Nat) (h : j < a.length) (h' : j < b.length), j < k → eq a[j] b[j] = true
theorem sameL_drop {α : Type} (eq : α → α → Bool) : ∀ (k : Nat) (a b : List α), k ≤ a.length → k ≤ b.length → sameToL eq a b k → sameL eq a b = sameL eq (a.drop k) (b.drop k)
  | 0, _, _, _, _, _ => by simp
  | k + 1, [], _, h, _, _ => by simp at h
  | k + 1, _ :: _, [], _, h, _ => by simp at h
  | k + 1, t :: r, u :: s, h, h', hs => by
    have h0 := hs 0 (by simp) (by simp) (by omega)
    have e : eq t u = true := h0
    simp only [List.drop_succ_cons, sameL, e, Bool.true_and]
    exact sameL_drop eq k r s (by simpa using h) (by simpa using h') (fun j hj hj' hjk => hs (j + 1) (by simpa using hj) (by simpa using hj') (by omega))
theorem sameL_no {α : Type} {eq : α → α → Bool} (a b : List α) (k : Nat) (h : k < a.length) (h' : k < b.length) (hs : sameToL eq a b k) (he : eq a[k] b[k] = false) : sameL eq a b = false := by
  rw [sameL_drop eq k a b (by omega) (by omega) hs, List.drop_eq_getElem_cons h, List.drop_eq_getElem_cons h']
  simp [sameL, he]
theorem sameL_yes {α : Type} {eq : α → α → Bool} (a b : List α) (h : a.length = b.length) (hs : sameToL eq a b a.length) : sameL eq a b = true := by
  rw [sameL_drop eq a.length a b (Nat.le_refl _) (by omega) hs]
  rw [List.drop_of_length_le (Nat.le_refl _), List.drop_of_length_le (by omega)]
  rfl
theorem sameToL_next {α : Type} {eq : α → α → Bool} {a b : List α} {k : Nat} (hs : sameToL eq a b k) (h : k < a.length) (h' : k < b.length) (he : eq a[k] b[k] = true) : sameToL eq a b (k + 1) := by
  intro j hj hj' hjk
  by_cases e : j < k
  · exact hs j hj hj' e
  · have : j = k := by omega
    subst this; exact he
/-- The first code that is not 0. -/
def firstC {α : Type} (f : α → Int) : List α → Int
  | [] => 0
  | t :: r => if f t = 0 then firstC f r else f t
theorem firstC_drop {α : Type} (f : α → Int) : ∀ (k : Nat) (l : List α), (∀ (j : Nat) (h : j < l.length), j < k → f l[j] = 0) → firstC f l = firstC f (l.drop k)
  | 0, _, _ => by simp
  | k + 1, [], _ => by simp
  | k + 1, t :: r, hs => by
    have h0 : f t = 0 := hs 0 (by simp) (by omega)
    simp only [List.drop_succ_cons, firstC, if_pos h0]
    exact firstC_drop f k r (fun j hj hjk => hs (j + 1) (by simpa using hj) (by omega))
theorem firstC_hit {α : Type} {f : α → Int} (l : List α) (k : Nat) (h : k < l.length) (hs : ∀ (j : Nat) (h : j < l.length), j < k → f l[j] = 0) (he : f l[k] ≠ 0) : firstC f l = f l[k] := by
  rw [firstC_drop f k l hs, List.drop_eq_getElem_cons h]
  simp [firstC, he]
theorem firstC_none {α : Type} {f : α → Int} (l : List α) (hs : ∀ (j : Nat) (h : j < l.length), j < l.length → f l[j] = 0) : firstC f l = 0 := by
  rw [firstC_drop f l.length l hs, List.drop_of_length_le (Nat.le_refl _)]; rfl
theorem firstC_zero {α : Type} {f : α → Int} : ∀ (l : List α), firstC f l = 0 → ∀ x ∈ l, f x = 0
  | [], _, _, h => by cases h
  | t :: r, h, x, hx => by
    by_cases e : f t = 0
    · simp only [firstC, if_pos e] at h
      rcases List.mem_cons.1 hx with rfl | hx
      · exact e
      · exact firstC_zero r h x hx
    · simp only [firstC, if_neg e] at h
      exact absurd h e
end Go.Proofs.YteboaiklibaomaaGreatDoor
