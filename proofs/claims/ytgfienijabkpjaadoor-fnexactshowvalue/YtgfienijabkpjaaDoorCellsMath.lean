/-
  The places of the pairs from a value on, in plain words; a word's tag and rest.
-/
import Derived.Test.YtgfienijabkpjaaDoorListMath
namespace Go.Proofs.YtgfienijabkpjaaDoor
open Go.RowKit Go.Extern.Stop Go.Stop Go.Extern Num Go.Lib

def idxV (l : List Pai) : Nat → Vlu → List Nat
  | 0, _ => []
  | j + 1, v => match atV l v with | some p => v.num.toNat :: idxV l j p.tail | none => []
theorem idxV_on (l : List Pai) : ∀ (j : Nat) (v : Vlu) (p : Pai), atV l (goV l j v) = some p → idxV l (j + 1) v = idxV l j v ++ [(goV l j v).num.toNat]
  | 0, v, p, h => by
    have h' : atV l v = some p := h
    simp [idxV, goV, h']
  | j + 1, v, p, h => by
    cases e : atV l v with
    | none =>
      have : goV l (j + 1) v = v := by simp [goV, e]
      rw [this, e] at h; cases h
    | some q =>
      have e1 : ∀ i, goV l (i + 1) v = goV l i q.tail := fun i => by simp [goV, e]
      have e2 : ∀ i, idxV l (i + 1) v = v.num.toNat :: idxV l i q.tail := fun i => by simp [idxV, e]
      rw [e1] at h ⊢
      rw [e2, e2, idxV_on l j q.tail p h]; rfl
theorem idxV_end (l : List Pai) : ∀ (j : Nat) (v : Vlu), atV l (goV l j v) = none → ∀ k, idxV l (j + k) v = idxV l j v
  | 0, v, h, k => by
    have h' : atV l v = none := h
    cases k with
    | zero => rfl
    | succ k => simp [idxV, h']
  | j + 1, v, h, k => by
    cases e : atV l v with
    | none => rw [show j + 1 + k = (j + k) + 1 by omega]; simp [idxV, e]
    | some q =>
      have e1 : ∀ i, goV l (i + 1) v = goV l i q.tail := fun i => by simp [goV, e]
      have e2 : ∀ i, idxV l (i + 1) v = v.num.toNat :: idxV l i q.tail := fun i => by simp [idxV, e]
      rw [e1] at h
      rw [show j + 1 + k = (j + k) + 1 by omega, e2, e2, idxV_end l j q.tail h k]
theorem idxV_len (l : List Pai) : ∀ (j : Nat) (v : Vlu), (idxV l j v).length = (headsV l j v).length
  | 0, _ => rfl
  | j + 1, v => by
    cases e : atV l v with
    | none => simp [idxV, headsV, e]
    | some p => simp [idxV, headsV, e, idxV_len l j p.tail]
theorem idxV_pre {l : List Pai} (j k : Nat) (v : Vlu) : idxV l j v <+: idxV l (j + k) v := by
  induction k with
  | zero => exact List.prefix_refl _
  | succ k ih =>
    refine ih.trans ?_
    cases e : atV l (goV l (j + k) v) with
    | none => rw [← Nat.add_assoc, idxV_end l (j + k) v e 1]; exact List.prefix_refl _
    | some p => rw [← Nat.add_assoc, idxV_on l (j + k) v p e]; exact List.prefix_append _ _
/-- All places. -/
def allI (l : List Pai) (v : Vlu) : List Nat := idxV l l.length v
theorem allI_at {l : List Pai} (hl : heapFault l = 0) {v : Vlu} (h : aheadV l.length v) {j : Nat} (hj : (goV l j v).kind ≠ 5) : allI l v = idxV l j v := by
  have h1 := idxV_end l j v (atV_none hj) l.length
  have h2 := idxV_end l l.length v (atV_none (restV_end hl h)) j
  rw [Nat.add_comm l.length j] at h2
  exact h2.symm.trans h1
/-- A step from a pair: its place, what is next. -/
theorem step_at {l : List Pai} (hl : heapFault l = 0) {v : Vlu} (h : aheadV l.length v) (j : Nat) (hj : (goV l j v).kind = 5) : ∃ (k : Nat) (hk : k < l.length), (goV l j v).num = (k : Int) ∧ k + j < l.length ∧ goV l (j + 1) v = (l[k]'hk).tail ∧ headsV l (j + 1) v = headsV l j v ++ [(l[k]'hk).head] ∧ idxV l (j + 1) v = idxV l j v ++ [k] := by
  obtain ⟨h1, h2⟩ := goV_ahead hl j l.length v (Nat.le_refl _) h
  obtain ⟨hi, _, he, _, _⟩ := atV_some hl (Nat.le_refl _) h1 hj
  have h3 := h1.2 hj
  refine ⟨_, hi, by omega, h2 hj, (goV_on l j v _ he).1, (goV_on l j v _ he).2, idxV_on l j v _ he⟩
/-- Which step a place that is told belongs to. -/
theorem idx_step {l : List Pai} (hl : heapFault l = 0) {v : Vlu} (h : aheadV l.length v) {pre : List Nat} {k : Nat} (hp : pre ++ [k] <+: allI l v) : ∃ hk : k < l.length, pre = idxV l pre.length v ∧ (goV l pre.length v).kind = 5 ∧ (goV l pre.length v).num = (k : Int) ∧ goV l (pre.length + 1) v = (l[k]'hk).tail ∧ headsV l (pre.length + 1) v = headsV l pre.length v ++ [(l[k]'hk).head] := by
  have hlen := hp.length_le
  simp only [List.length_append, List.length_cons, List.length_nil] at hlen
  have hall : (allI l v).length ≤ l.length := by unfold allI; rw [idxV_len]; exact headsV_len l _ v
  have full : ∀ j, j ≤ (allI l v).length → idxV l j v = (allI l v).take j := fun j hj => by
    have h1 : idxV l j v <+: allI l v := by unfold allI; have := idxV_pre (l := l) j (l.length - j) v; rwa [show j + (l.length - j) = l.length by omega] at this
    have h2 : (idxV l j v).length = j := by
      by_cases e : (goV l j v).kind = 5
      · obtain ⟨h3, h4⟩ := goV_ahead hl j l.length v (Nat.le_refl _) h
        obtain ⟨hi, _, he, _, _⟩ := atV_some hl (Nat.le_refl _) h3 e
        rw [idxV_len]; exact headsV_full l j v _ he
      · have h3 := allI_at hl h e
        have h4 := headsV_len l j v
        rw [← idxV_len, ← h3] at h4
        rw [← h3]; omega
    have := List.prefix_iff_eq_take.1 h1
    rw [h2] at this; exact this
  have hpl : pre.length ≤ (allI l v).length := by omega
  have e1 : pre = (allI l v).take pre.length := List.prefix_iff_eq_take.1 ((List.prefix_append pre [k]).trans hp)
  have e2 : pre ++ [k] = (allI l v).take (pre.length + 1) := by have := List.prefix_iff_eq_take.1 hp; simpa using this
  have hk5 : (goV l pre.length v).kind = 5 := by
    by_cases e : (goV l pre.length v).kind = 5
    · exact e
    · exfalso
      have h3 := allI_at hl h e
      rw [← full _ hpl] at e1
      rw [h3, ← e1] at hlen
      omega
  obtain ⟨k', hk', hnum, _, hgo, hhd, hix⟩ := step_at hl h pre.length hk5
  have : k' = k := by
    rw [full _ hlen, ← e2, full _ hpl, ← e1] at hix
    have := List.append_cancel_left hix
    simpa using this.symm
  subst this
  exact ⟨hk', by rw [full _ hpl]; exact e1, hk5, hnum, hgo, hhd⟩
theorem idxV_full {l : List Pai} (hl : heapFault l = 0) {v : Vlu} (h : aheadV l.length v) (j : Nat) (hj : j ≤ (allI l v).length) : (idxV l j v).length = j := by
  by_cases e : (goV l j v).kind = 5
  · obtain ⟨h3, h4⟩ := goV_ahead hl j l.length v (Nat.le_refl _) h
    obtain ⟨hi, _, he, _, _⟩ := atV_some hl (Nat.le_refl _) h3 e
    rw [idxV_len]; exact headsV_full l j v _ he
  · have h3 := allI_at hl h e
    have h4 := headsV_len l j v
    rw [← idxV_len, ← h3] at h4
    rw [← h3]; omega
theorem allI_done {l : List Pai} (hl : heapFault l = 0) {v : Vlu} (h : aheadV l.length v) : (goV l (allI l v).length v).kind ≠ 5 := fun e => by
  obtain ⟨k, hk, _, hkj, _, _, hix⟩ := step_at hl h (allI l v).length e
  have h1 := idxV_full hl h (allI l v).length (Nat.le_refl _)
  have h2 : idxV l ((allI l v).length + 1) v <+: allI l v := by
    have := idxV_pre (l := l) ((allI l v).length + 1) (l.length - ((allI l v).length + 1)) v
    rw [show (allI l v).length + 1 + (l.length - ((allI l v).length + 1)) = l.length by omega] at this
    exact this
  have h3 := h2.length_le
  rw [hix, List.length_append, h1] at h3
  simp at h3
  omega
theorem wd_tag {v : Vlu} (h : vfault v = 0) : (wdOf v).tag = v.kind := by unfold wdOf; rw [if_pos h]
theorem wd_rest {v : Vlu} (h : vfault v = 0) (hk : v.kind = 5) : (wdOf v).rest = v.num := by
  unfold wdOf
  rw [if_pos h]
  simp [hk, least]
end Go.Proofs.YtgfienijabkpjaaDoor
