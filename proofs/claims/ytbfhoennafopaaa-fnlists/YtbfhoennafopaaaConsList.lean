/-
  What stands from a new pair on: its head, and what stands from its tail on; the pairs with the new one have no fault. No program in it.
-/
import Derived.Test.YtbfhoennafopaaaListMath
namespace Go.Proofs.Ytbfhoennafopaaa
open Go.RowKit Go.Extern.Stop Go.Stop Go.Extern Num Go.Lib

theorem heapFrom_snoc (p : Pai) : ∀ (l : List Pai) (i : Nat), heapFrom i l = 0 → pfault (i + l.length) p = 0 → heapFrom i (l ++ [p]) = 0
  | [], i, _, h => by
    have h' : pfault i p = 0 := by simpa using h
    simp [heapFrom, h']
  | q :: r, i, h, hp => by
    by_cases h0 : pfault i q = 0
    · rw [heapFrom, if_neg (by rw [h0]; decide)] at h
      rw [List.cons_append, heapFrom, if_neg (by rw [h0]; decide)]
      exact heapFrom_snoc p r (i + 1) h (by rw [show i + 1 + r.length = i + (q :: r).length by simp; omega]; exact hp)
    · rw [heapFrom, if_pos h0] at h; exact absurd h h0
theorem inC_parts {n : Nat} {t : Vlu} (h : inC n t = 0) : vfault t = 0 ∧ inH n t = true := by
  have h0 := inC_zero h
  refine ⟨h0, ?_⟩
  unfold inC at h
  rw [if_neg (by rw [h0]; decide)] at h
  by_cases e : inH n t = true
  · exact e
  · rw [if_neg e] at h; cases h
theorem heap_snoc {l : List Pai} {a b : Vlu} (hl : heapFault l = 0) (hn : l.length < 4000) (ha : inC l.length a = 0) (hb : inC l.length b = 0) : heapFault (l ++ [⟨a, b⟩]) = 0 := by
  have h1 : ¬ 4000 < l.length := by omega
  rw [heapFault, if_neg h1] at hl
  rw [heapFault, if_neg (by simp; omega)]
  refine heapFrom_snoc _ l 0 hl ?_
  obtain ⟨f1, i1⟩ := inC_parts ha
  obtain ⟨f2, i2⟩ := inC_parts hb
  rw [Nat.zero_add, pfault, if_neg (by rw [f1]; decide), if_neg (by rw [f2]; decide), if_pos (by rw [i1, i2]; rfl)]
/-- The value of a pair at a place. -/
def pairV (n : Nat) : Vlu := ⟨5, (n : Int), ⟨#[]⟩⟩
theorem pairV_in {n m : Nat} (hn : n < m) (h4 : n ≤ 4000) : inC m (pairV n) = 0 := by
  have h0 : vfault (pairV n) = 0 := by
    unfold vfault pairV
    simp
    omega
  unfold inC
  rw [if_neg (by rw [h0]; decide), if_pos]
  unfold inH pairV
  simp
  omega
theorem atV_more {l : List Pai} {x : List Pai} {v : Vlu} (h : aheadV l.length v) : atV (l ++ x) v = atV l v := by
  unfold atV
  by_cases hk : v.kind = 5
  · have := h.2 hk
    rw [if_pos hk, if_pos hk, List.getElem?_append_left (by omega)]
  · rw [if_neg hk, if_neg hk]
theorem goV_more {l x : List Pai} (hl : heapFault l = 0) : ∀ (j : Nat) (v : Vlu), aheadV l.length v → goV (l ++ x) j v = goV l j v ∧ headsV (l ++ x) j v = headsV l j v
  | 0, _, _ => ⟨rfl, rfl⟩
  | j + 1, v, h => by
    have e := atV_more (x := x) h
    by_cases hk : v.kind = 5
    · obtain ⟨hi, hlt, he, _, ht⟩ := atV_some hl (Nat.le_refl _) h hk
      have ih := goV_more (x := x) hl j (l[v.num.toNat]'hi).tail (ht.mono (by omega))
      simp [goV, headsV, e, he, ih.1, ih.2]
    · have h2 := atV_none (l := l) hk
      simp [goV, headsV, e, h2]
theorem allV_cons {l : List Pai} {a b : Vlu} (hl : heapFault l = 0) (hb : aheadV l.length b) : allV (l ++ [⟨a, b⟩]) (pairV l.length) = a :: allV l b ∧ restV (l ++ [⟨a, b⟩]) (pairV l.length) = restV l b := by
  have e0 : atV (l ++ [⟨a, b⟩]) (pairV l.length) = some ⟨a, b⟩ := by simp [atV, pairV]
  have e1 : (l ++ [(⟨a, b⟩ : Pai)]).length = l.length + 1 := by simp
  have h := goV_more (x := [⟨a, b⟩]) hl l.length b hb
  refine ⟨?_, ?_⟩
  · unfold allV
    rw [e1, headsV, e0]
    simp only
    rw [h.2]
  · unfold restV
    rw [e1, goV, e0]
    simp only
    exact h.1
/-- What comes of ListFrom behind ConsTo. -/
theorem lists_math {l : List Pai} {a b : Vlu} (h : codeCT l a b = 0) :
    outCT l a b = l ++ [⟨a, b⟩] ∧ valCT l a b = pairV l.length ∧ heapFault (outCT l a b) = 0 ∧ askV (outCT l a b) (valCT l a b) = 0 ∧ askV l b = 0 ∧ allV (outCT l a b) (valCT l a b) = a :: allV l b ∧ restV (outCT l a b) (valCT l a b) = restV l b := by
  obtain ⟨h1, h2, h3⟩ := ct_zero h
  obtain ⟨hh, hia⟩ := askV_zero h1
  have e1 : outCT l a b = l ++ [⟨a, b⟩] := by unfold outCT; rw [if_pos h]
  have e2 : valCT l a b = pairV l.length := by unfold valCT; rw [if_pos h]; rfl
  have e3 := heap_snoc hh h3 hia h2
  have e4 : askV (l ++ [⟨a, b⟩]) (pairV l.length) = 0 := by
    unfold askV
    rw [if_neg (by rw [e3]; decide)]
    exact pairV_in (by simp) (by omega)
  have e5 : askV l b = 0 := by unfold askV; rw [if_neg (by rw [hh]; decide)]; exact h2
  rw [e1, e2]
  exact ⟨rfl, rfl, e3, e4, e5, allV_cons hh (aheadV_of h2)⟩
theorem codeLF_of {l : List Pai} {v : Vlu} (h : askV l v = 0) : codeLF l v = if 200 < (allV l v).length then 2 else 0 := by unfold codeLF; rw [if_neg (by rw [h]; decide)]
end Go.Proofs.Ytbfhoennafopaaa
