/-
  Parts of the proof laid into one text, one behind the other; each says at its head what is proved in it.
-/
import Derived.Test.YteboaiklibaomaaGreatDoorTiF
/-
  The model's SameData: whether two lists of data are the same; nothing is turned.
-/
namespace Go.Proofs.YteboaiklibaomaaGreatDoor
open Go.RowKit Go.Extern.Stop Go.Stop Go.Extern Num Go.Lib

def eqB (t u : Dat) : Bool := t.kind == u.kind && (t.parent == u.parent && (t.num == u.num && (t.name.toList == u.name.toList)))
def sameB : List Dat → List Dat → Bool
  | [], [] => true
  | t :: r, u :: s => eqB t u && sameB r s
  | _, _ => false
theorem sameB_len : ∀ (a b : List Dat), a.length ≠ b.length → sameB a b = false
  | [], [], h => absurd rfl h
  | [], _ :: _, _ => rfl
  | _ :: _, [], _ => rfl
  | t :: r, u :: s, h => by
    have : r.length ≠ s.length := by simpa using h
    simp [sameB, sameB_len r s this]
/-- The same, up to a place. -/
def sameTo (a b : List Dat) (k : Nat) : Prop := ∀ (j : Nat) (h : j < a.length) (h' : j < b.length), j < k → eqB a[j] b[j] = true
theorem sameB_drop : ∀ (k : Nat) (a b : List Dat), k ≤ a.length → k ≤ b.length → sameTo a b k → sameB a b = sameB (a.drop k) (b.drop k)
  | 0, _, _, _, _, _ => by simp
  | k + 1, [], _, h, _, _ => by simp at h
  | k + 1, _ :: _, [], _, h, _ => by simp at h
  | k + 1, t :: r, u :: s, h, h', hs => by
    have h0 := hs 0 (by simp) (by simp) (by omega)
    have e : eqB t u = true := h0
    simp only [List.drop_succ_cons, sameB, e, Bool.true_and]
    exact sameB_drop k r s (by simpa using h) (by simpa using h') (fun j hj hj' hjk => hs (j + 1) (by simpa using hj) (by simpa using hj') (by omega))
theorem sameB_no (a b : List Dat) (k : Nat) (h : k < a.length) (h' : k < b.length) (hs : sameTo a b k) (he : eqB a[k] b[k] = false) : sameB a b = false := by
  rw [sameB_drop k a b (by omega) (by omega) hs, List.drop_eq_getElem_cons h, List.drop_eq_getElem_cons h']
  simp [sameB, he]
theorem sameB_yes (a b : List Dat) (h : a.length = b.length) (hs : sameTo a b a.length) : sameB a b = true := by
  rw [sameB_drop a.length a b (Nat.le_refl _) (by omega) hs]
  rw [List.drop_of_length_le (Nat.le_refl _), List.drop_of_length_le (by omega)]
  rfl
theorem sameTo_next {a b : List Dat} {k : Nat} (hs : sameTo a b k) (h : k < a.length) (h' : k < b.length) (he : eqB a[k] b[k] = true) : sameTo a b (k + 1) := by
  intro j hj hj' hjk
  by_cases e : j < k
  · exact hs j hj hj' e
  · have : j = k := by omega
    subst this; exact he
theorem eqB_same (a : List Dat) : sameB a a = true := by
  induction a with
  | nil => rfl
  | cons t r ih => simp [sameB, ih, eqB]
end Go.Proofs.YteboaiklibaomaaGreatDoor
