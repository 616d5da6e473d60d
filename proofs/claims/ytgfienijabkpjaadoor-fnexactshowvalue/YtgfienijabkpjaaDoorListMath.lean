/-
  What stands from a value on among pairs, in plain words: the heads, step by step, and what is behind them; how far it goes.
-/
import Derived.Test.YtgfienijabkpjaaDoorSvH
namespace Go.Proofs.YtgfienijabkpjaaDoor
open Go.RowKit Go.Extern.Stop Go.Stop Go.Extern Num Go.Lib

/-- The pair that a value is. -/
def atV (l : List Pai) (v : Vlu) : Option Pai := if v.kind = 5 then l[v.num.toNat]? else none
/-- What stands so many steps behind. -/
def goV (l : List Pai) : Nat → Vlu → Vlu
  | 0, v => v
  | j + 1, v => match atV l v with | some p => goV l j p.tail | none => v
def headsV (l : List Pai) : Nat → Vlu → List Vlu
  | 0, _ => []
  | j + 1, v => match atV l v with | some p => p.head :: headsV l j p.tail | none => []
theorem goV_on (l : List Pai) : ∀ (j : Nat) (v : Vlu) (p : Pai), atV l (goV l j v) = some p → goV l (j + 1) v = p.tail ∧ headsV l (j + 1) v = headsV l j v ++ [p.head]
  | 0, v, p, h => by
    have h' : atV l v = some p := h
    simp [goV, headsV, h']
  | j + 1, v, p, h => by
    cases e : atV l v with
    | none =>
      have : goV l (j + 1) v = v := by simp [goV, e]
      rw [this, e] at h; cases h
    | some q =>
      have e1 : ∀ i, goV l (i + 1) v = goV l i q.tail := fun i => by simp [goV, e]
      have e2 : ∀ i, headsV l (i + 1) v = q.head :: headsV l i q.tail := fun i => by simp [headsV, e]
      rw [e1] at h
      obtain ⟨g1, g2⟩ := goV_on l j q.tail p h
      refine ⟨by rw [e1]; exact g1, ?_⟩
      rw [e2, e2, g2]; rfl
theorem goV_end (l : List Pai) : ∀ (j : Nat) (v : Vlu), atV l (goV l j v) = none → ∀ k, goV l (j + k) v = goV l j v ∧ headsV l (j + k) v = headsV l j v
  | 0, v, h, k => by
    have h' : atV l v = none := h
    cases k with
    | zero => exact ⟨rfl, rfl⟩
    | succ k => simp [goV, headsV, h']
  | j + 1, v, h, k => by
    cases e : atV l v with
    | none => rw [show j + 1 + k = (j + k) + 1 by omega]; simp [goV, headsV, e]
    | some q =>
      have e1 : ∀ i, goV l (i + 1) v = goV l i q.tail := fun i => by simp [goV, e]
      have e2 : ∀ i, headsV l (i + 1) v = q.head :: headsV l i q.tail := fun i => by simp [headsV, e]
      rw [e1] at h
      obtain ⟨g1, g2⟩ := goV_end l j q.tail h k
      rw [show j + 1 + k = (j + k) + 1 by omega, e1, e1, e2, e2, g1, g2]
      exact ⟨rfl, rfl⟩
theorem headsV_len (l : List Pai) : ∀ (j : Nat) (v : Vlu), (headsV l j v).length ≤ j
  | 0, _ => Nat.le_refl _
  | j + 1, v => by
    rw [headsV]
    split
    · rename_i p _; have := headsV_len l j p.tail; simp; omega
    · simp
theorem headsV_full (l : List Pai) : ∀ (j : Nat) (v : Vlu) (p : Pai), atV l (goV l j v) = some p → (headsV l j v).length = j
  | 0, _, _, _ => rfl
  | j + 1, v, p, h => by
    cases e : atV l v with
    | none =>
      have : goV l (j + 1) v = v := by simp [goV, e]
      rw [this, e] at h; cases h
    | some q =>
      have e1 : ∀ i, goV l (i + 1) v = goV l i q.tail := fun i => by simp [goV, e]
      have e2 : ∀ i, headsV l (i + 1) v = q.head :: headsV l i q.tail := fun i => by simp [headsV, e]
      rw [e1] at h
      rw [e2, List.length_cons, headsV_full l j q.tail p h]
/-- Of a place ahead, if it is a pair; without fault. -/
def aheadV (n : Nat) (v : Vlu) : Prop := vfault v = 0 ∧ (v.kind = 5 → 0 ≤ v.num ∧ v.num < (n : Int))
theorem pair_num {v : Vlu} (h : vfault v = 0) (hk : v.kind = 5) : 0 ≤ v.num ∧ v.num ≤ 99999 := by
  obtain ⟨k, n, z⟩ := v
  simp only at hk
  subst hk
  have := fine_5 n z h
  exact ⟨this.1, this.2.1⟩
theorem inH_ahead {n : Nat} {v : Vlu} (h : vfault v = 0) (hi : inH n v = true) : aheadV n v := by
  refine ⟨h, fun hk => ⟨(pair_num h hk).1, ?_⟩⟩
  unfold inH at hi
  rw [hk] at hi
  simpa using hi
theorem aheadV_of {l : List Pai} {v : Vlu} (h : inC l.length v = 0) : aheadV l.length v := by
  have h0 := inC_zero h
  refine inH_ahead h0 ?_
  unfold inC at h
  rw [if_neg (by rw [h0]; decide)] at h
  by_cases e : inH l.length v = true
  · exact e
  · rw [if_neg e] at h; cases h
theorem pair_ahead {l : List Pai} (h : heapFault l = 0) (k : Nat) (hk : k < l.length) : aheadV k l[k].head ∧ aheadV k l[k].tail := by
  have h1 : ¬ 4000 < l.length := fun h1 => by rw [heapFault, if_pos h1] at h; cases h
  rw [heapFault, if_neg h1] at h
  have hp := heapFrom_each l 0 h k hk
  rw [Nat.zero_add] at hp
  obtain ⟨f1, f2⟩ := pfault_zero hp
  unfold pfault at hp
  rw [if_neg (by rw [f1]; decide), if_neg (by rw [f2]; decide)] at hp
  by_cases e : (inH k l[k].head && inH k l[k].tail) = true
  · rw [Bool.and_eq_true] at e
    exact ⟨inH_ahead f1 e.1, inH_ahead f2 e.2⟩
  · rw [if_neg e] at hp; cases hp
theorem aheadV.mono {n m : Nat} {v : Vlu} (h : aheadV n v) (hm : n ≤ m) : aheadV m v := ⟨h.1, fun hk => by have := h.2 hk; omega⟩
/-- A pair of a place ahead is there, and what it is made of is ahead of it. -/
theorem atV_some {l : List Pai} {n : Nat} {v : Vlu} (hl : heapFault l = 0) (hn : n ≤ l.length) (h : aheadV n v) (hk : v.kind = 5) : ∃ hi : v.num.toNat < l.length, v.num.toNat < n ∧ atV l v = some (l[v.num.toNat]'hi) ∧ aheadV v.num.toNat (l[v.num.toNat]'hi).head ∧ aheadV v.num.toNat (l[v.num.toNat]'hi).tail := by
  have h1 := h.2 hk
  have hi : v.num.toNat < l.length := by omega
  refine ⟨hi, by omega, by simp [atV, hk, hi], pair_ahead hl _ hi⟩
theorem atV_none {l : List Pai} {v : Vlu} (hk : v.kind ≠ 5) : atV l v = none := by simp [atV, hk]
theorem goV_ahead {l : List Pai} (hl : heapFault l = 0) : ∀ (j n : Nat) (v : Vlu), n ≤ l.length → aheadV n v → aheadV n (goV l j v) ∧ ((goV l j v).kind = 5 → (goV l j v).num.toNat + j < n)
  | 0, n, v, _, h => ⟨h, fun hk => by have := h.2 hk; simp only [goV]; omega⟩
  | j + 1, n, v, hn, h => by
    by_cases hk : v.kind = 5
    · obtain ⟨hi, hlt, he, _, ht⟩ := atV_some hl hn h hk
      have e1 : goV l (j + 1) v = goV l j (l[v.num.toNat]'hi).tail := by simp [goV, he]
      rw [e1]
      have := goV_ahead hl j v.num.toNat _ (by omega) ht
      exact ⟨this.1.mono (by omega), fun hk => by have := this.2 hk; omega⟩
    · have e1 : goV l (j + 1) v = v := by simp [goV, atV_none hk]
      rw [e1]
      exact ⟨h, fun h5 => absurd h5 hk⟩
/-- The heads have no fault. -/
theorem headsV_fine {l : List Pai} (hl : heapFault l = 0) : ∀ (j n : Nat) (v : Vlu), n ≤ l.length → aheadV n v → ∀ x ∈ headsV l j v, vfault x = 0
  | 0, _, _, _, _, _, hx => by cases hx
  | j + 1, n, v, hn, h, x, hx => by
    by_cases hk : v.kind = 5
    · obtain ⟨hi, hlt, he, hh, ht⟩ := atV_some hl hn h hk
      have e2 : headsV l (j + 1) v = (l[v.num.toNat]'hi).head :: headsV l j (l[v.num.toNat]'hi).tail := by simp [headsV, he]
      rw [e2] at hx
      rcases List.mem_cons.1 hx with rfl | hx
      · exact hh.1
      · exact headsV_fine hl j v.num.toNat _ (by omega) ht x hx
    · have e2 : headsV l (j + 1) v = [] := by simp [headsV, atV_none hk]
      rw [e2] at hx; cases hx
/-- All of them. -/
def allV (l : List Pai) (v : Vlu) : List Vlu := headsV l l.length v
def restV (l : List Pai) (v : Vlu) : Vlu := goV l l.length v
theorem restV_end {l : List Pai} (hl : heapFault l = 0) {v : Vlu} (h : aheadV l.length v) : (restV l v).kind ≠ 5 := fun hk => by
  have := (goV_ahead hl l.length l.length v (Nat.le_refl _) h).2 hk
  unfold restV at this; omega
theorem allV_at {l : List Pai} (hl : heapFault l = 0) {v : Vlu} (h : aheadV l.length v) {j : Nat} (hj : (goV l j v).kind ≠ 5) : allV l v = headsV l j v ∧ restV l v = goV l j v := by
  have h1 := goV_end l j v (atV_none hj) l.length
  have h2 := goV_end l l.length v (atV_none (restV_end hl h)) j
  rw [Nat.add_comm l.length j] at h2
  exact ⟨h2.2.symm.trans h1.2, h2.1.symm.trans h1.1⟩
theorem headsV_pre {l : List Pai} (j k : Nat) (v : Vlu) : headsV l j v <+: headsV l (j + k) v := by
  induction k with
  | zero => exact List.prefix_refl _
  | succ k ih =>
    refine ih.trans ?_
    cases e : atV l (goV l (j + k) v) with
    | none => rw [← Nat.add_assoc, (goV_end l (j + k) v e 1).2]; exact List.prefix_refl _
    | some p => rw [← Nat.add_assoc, (goV_on l (j + k) v p e).2]; exact List.prefix_append _ _
/-- The code of ListFrom, its values, and what is behind them. -/
def codeLF (l : List Pai) (v : Vlu) : Int := if askV l v ≠ 0 then askV l v else if 200 < (allV l v).length then 2 else 0
def outLF (l : List Pai) (v : Vlu) : List Vlu := if codeLF l v = 0 then allV l v else []
def restLF (l : List Pai) (v : Vlu) : Vlu := if codeLF l v = 0 then restV l v else ⟨0, 0, ⟨#[]⟩⟩
theorem outLF_len (l : List Pai) (v : Vlu) : (outLF l v).length ≤ 200 := by
  unfold outLF
  split
  · rename_i h
    unfold codeLF at h
    by_cases h1 : askV l v = 0
    · rw [if_neg (by rw [h1]; decide)] at h
      by_cases h2 : 200 < (allV l v).length
      · rw [if_pos h2] at h; cases h
      · omega
    · rw [if_pos h1] at h; exact absurd h h1
  · simp
end Go.Proofs.YtgfienijabkpjaaDoor
