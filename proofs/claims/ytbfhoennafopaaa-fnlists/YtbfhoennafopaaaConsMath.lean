/-
  A pair put in front, in plain words: its code, the pairs there are then, and the value that is the pair.
-/
import Derived.Test.YtbfhoennafopaaaImplIn
namespace Go.Proofs.Ytbfhoennafopaaa
open Go.RowKit Go.Extern.Stop Go.Stop Go.Extern Num Go.Lib

def codeCT (l : List Pai) (a b : Vlu) : Int :=
  if askV l a ≠ 0 then askV l a else if inC l.length b ≠ 0 then inC l.length b else if 4000 ≤ l.length then 2 else 0
def outCT (l : List Pai) (a b : Vlu) : List Pai := if codeCT l a b = 0 then l ++ [⟨a, b⟩] else []
def valCT (l : List Pai) (a b : Vlu) : Vlu := if codeCT l a b = 0 then ⟨5, (l.length : Int), ⟨#[]⟩⟩ else ⟨0, 0, ⟨#[]⟩⟩
theorem ct_zero {l : List Pai} {a b : Vlu} (h : codeCT l a b = 0) : askV l a = 0 ∧ inC l.length b = 0 ∧ l.length < 4000 := by
  unfold codeCT at h
  by_cases h1 : askV l a = 0
  · by_cases h2 : inC l.length b = 0
    · by_cases h3 : 4000 ≤ l.length
      · rw [if_neg (by rw [h1]; decide), if_neg (by rw [h2]; decide), if_pos h3] at h; cases h
      · exact ⟨h1, h2, by omega⟩
    · rw [if_neg (by rw [h1]; decide), if_pos h2] at h; exact absurd h h2
  · rw [if_pos h1] at h; exact absurd h h1
theorem outCT_len (l : List Pai) (a b : Vlu) : (outCT l a b).length ≤ 4000 := by
  unfold outCT
  split
  · rename_i h; have := (ct_zero h).2.2; simp; omega
  · simp
theorem askV_zero {l : List Pai} {t : Vlu} (h : askV l t = 0) : heapFault l = 0 ∧ inC l.length t = 0 := by
  unfold askV at h
  by_cases h1 : heapFault l = 0
  · rw [if_neg (by rw [h1]; decide)] at h; exact ⟨h1, h⟩
  · rw [if_pos h1] at h; exact absurd h h1
theorem pfault_zero {i : Nat} {p : Pai} (h : pfault i p = 0) : vfault p.head = 0 ∧ vfault p.tail = 0 := by
  unfold pfault at h
  by_cases h1 : vfault p.head = 0
  · by_cases h2 : vfault p.tail = 0
    · exact ⟨h1, h2⟩
    · rw [if_neg (by rw [h1]; decide), if_pos h2] at h; exact absurd h h2
  · rw [if_pos h1] at h; exact absurd h h1
theorem heapFrom_each : ∀ (l : List Pai) (i : Nat), heapFrom i l = 0 → ∀ (k : Nat) (h : k < l.length), pfault (i + k) l[k] = 0
  | [], _, _, _, h => by cases h
  | p :: r, i, h, k, hk => by
    by_cases h0 : pfault i p = 0
    · rw [heapFrom, if_neg (by rw [h0]; decide)] at h
      cases k with
      | zero => simpa using h0
      | succ k =>
        have := heapFrom_each r (i + 1) h k (by simpa using hk)
        simpa [Nat.add_assoc, Nat.add_comm 1 k] using this
    · rw [heapFrom, if_pos h0] at h; exact absurd h h0
theorem heap_fine {l : List Pai} (h : heapFault l = 0) : ∀ (k : Nat) (h : k < l.length), vfault l[k].head = 0 ∧ vfault l[k].tail = 0 := by
  have h1 : ¬ 4000 < l.length := fun h1 => by rw [heapFault, if_pos h1] at h; cases h
  rw [heapFault, if_neg h1] at h
  intro k hk
  exact pfault_zero (heapFrom_each l 0 h k hk)
end Go.Proofs.Ytbfhoennafopaaa
