/-
  Data with which nothing is wrong, as a tree, plainly: who is above whom; a datum and all below it stand side by side; its parts divide what stands behind it. No program in it.
-/
import Derived.Test.YtllcnkghakaifaaDoorSpecSubD
namespace Go.Proofs.YtllcnkghakaifaaDoor
open Go.RowKit Go.Extern.Stop Go.Stop Go.Extern Num Go.Lib

/-- Whether a is met from b up. -/
def inCh (l : List Dat) (a : Nat) : Nat → Int → Prop
  | 0, _ => False
  | f + 1, b => 0 ≤ b ∧ (b = (a : Int) ∨ inCh l a f (par l b.toNat))
/-- a is k, or above it. -/
def Abv (l : List Dat) (a k : Nat) : Prop := ∃ f, inCh l a f (k : Int)
theorem abv_self (l : List Dat) (k : Nat) : Abv l k k := ⟨1, by omega, Or.inl rfl⟩
theorem abv_up {l : List Dat} {a k p : Nat} (hp : par l k = (p : Int)) (h : Abv l a p) : Abv l a k := by
  obtain ⟨f, hf⟩ := h
  refine ⟨f + 1, by omega, Or.inr ?_⟩
  rw [Int.toNat_natCast, hp]; exact hf
theorem abv_inv {l : List Dat} {a k : Nat} (h : Abv l a k) : k = a ∨ ∃ p : Nat, par l k = (p : Int) ∧ Abv l a p := by
  obtain ⟨f, hf⟩ := h
  cases f with
  | zero => exact hf.elim
  | succ f =>
    obtain ⟨_, h | h⟩ := hf
    · left; omega
    · right
      rw [Int.toNat_natCast] at h
      cases f with
      | zero => exact h.elim
      | succ f =>
        obtain ⟨p, hp⟩ := Int.eq_ofNat_of_zero_le h.1
        exact ⟨p, hp, f + 1, by rw [← hp]; exact h⟩
section
variable {l : List Dat}
theorem Fine.parlt (F : Fine l) {k p : Nat} (hk : k < l.length) (hp : par l k = (p : Int)) : p < k := by
  have := (F.parent k hk).1
  rw [par_at l k hk] at hp
  omega
theorem Fine.parneg (F : Fine l) {k : Nat} (hk : k < l.length) (h : ¬ ∃ p : Nat, par l k = (p : Int)) : par l k = -1 := by
  have h2 := (F.parent k hk).2
  rw [par_at l k hk] at h ⊢
  by_cases h0 : 0 ≤ l[k].parent
  · obtain ⟨p, hp⟩ := Int.eq_ofNat_of_zero_le h0
    exact absurd ⟨p, hp⟩ h
  · omega
theorem abv_le (F : Fine l) {a : Nat} : ∀ (k : Nat), k < l.length → Abv l a k → a ≤ k := by
  intro k
  induction k using Nat.strongRecOn with
  | _ k ih =>
    intro hk h
    rcases abv_inv h with h | ⟨p, hp, h⟩
    · omega
    · have hlt := F.parlt hk hp
      have := ih p hlt (by omega) h
      omega
/-- How deep. -/
def dep (l : List Dat) (k : Nat) : Nat := deepF l 100 (k : Int)
theorem deep_fuel (F : Fine l) : ∀ (k : Nat), k < l.length → ∀ f g, k < f → k < g → deepF l f (k : Int) = deepF l g (k : Int) := by
  intro k
  induction k using Nat.strongRecOn with
  | _ k ih =>
    intro hk f g hf hg
    obtain ⟨f', rfl⟩ : ∃ f', f = f' + 1 := ⟨f - 1, by omega⟩
    obtain ⟨g', rfl⟩ : ∃ g', g = g' + 1 := ⟨g - 1, by omega⟩
    rw [deepF_at l f' k hk, deepF_at l g' k hk]
    by_cases h : ∃ p : Nat, par l k = (p : Int)
    · obtain ⟨p, hp⟩ := h
      have hlt := F.parlt hk hp
      rw [par_at l k hk] at hp
      rw [hp, ih p hlt (by omega) f' g' (by omega) (by omega)]
    · have := F.parneg hk h
      rw [par_at l k hk] at this
      rw [this, deepF_neg l _ _ (by omega), deepF_neg l _ _ (by omega)]
theorem dep_par (F : Fine l) {k p : Nat} (hk : k < l.length) (hp : par l k = (p : Int)) : dep l k = dep l p + 1 := by
  have hlt := F.parlt hk hp
  have h80 := F.len
  rw [par_at l k hk] at hp
  unfold dep
  rw [deepF_at l 99 k hk, hp, deep_fuel F p (by omega) 99 100 (by omega) (by omega)]
theorem dep_pos (l : List Dat) {k : Nat} (hk : k < l.length) : 1 ≤ dep l k := by
  unfold dep
  rw [deepF_at l 99 k hk]; omega
theorem abv_dep (F : Fine l) {a : Nat} : ∀ (k : Nat), k < l.length → Abv l a k → k = a ∨ dep l a < dep l k := by
  intro k
  induction k using Nat.strongRecOn with
  | _ k ih =>
    intro hk h
    rcases abv_inv h with h | ⟨p, hp, h⟩
    · exact Or.inl h
    · right
      have hlt := F.parlt hk hp
      have hd := dep_par F hk hp
      rcases ih p hlt (by omega) h with h | h
      · subst h; omega
      · omega
/-- The line: whose part a datum is, is above the one ahead of it, and a list. -/
theorem line_abv : ∀ (f : Nat) (p : Int) (k : Nat), k < l.length → lineF l p f (k : Int) = true → ∃ q : Nat, p = (q : Int) ∧ Abv l q k := by
  intro f
  induction f with
  | zero => intro p k _ h; cases h
  | succ f ih =>
    intro p k hk h
    by_cases he : (k : Int) = p
    · exact ⟨k, he.symm, abv_self l k⟩
    · rw [lineF_on l p f k hk he] at h
      have hpk := par_at l k hk
      by_cases hn : 0 ≤ l[k].parent
      · obtain ⟨j, hj⟩ := Int.eq_ofNat_of_zero_le hn
        rw [hj] at h hpk
        by_cases hjl : j < l.length
        · obtain ⟨q, hq, hab⟩ := ih p j hjl h
          exact ⟨q, hq, abv_up hpk hab⟩
        · exfalso
          cases f with
          | zero => cases h
          | succ f =>
            have h0 : ¬ ((j : Int) < 0) := by omega
            simp only [lineF, if_neg h0, Int.toNat_natCast] at h
            have hnone : l[j]? = none := List.getElem?_eq_none (by omega)
            simp only [hnone, Option.map_none, Option.getD_none] at h
            split at h
            · cases h
            · have : par l j = -1 := by simp [par, hnone]
              rw [this, lineF_neg l p f (-1) (by omega)] at h
              cases h
      · rw [lineF_neg l p f _ (by omega)] at h; cases h
theorem Fine.line (F : Fine l) {k : Nat} (hk : k + 1 < l.length) : ∃ q : Nat, par l (k + 1) = (q : Int) ∧ Abv l q k := by
  have hc := F.ok (k + 1) hk hk
  have h1 : lineB l (k + 1) = true := by
    cases hl : lineB l (k + 1) with
    | true => rfl
    | false =>
      exfalso
      unfold chkD at hc
      have hb : (decide (0 < k + 1) && !(lineB l (k + 1))) = true := by simp [hl]
      rw [hb] at hc
      split at hc
      · cases hc
      · split at hc
        · cases hc
        · split at hc
          · cases hc
          · split at hc
            · cases hc
            · simp at hc
  unfold lineB at h1
  have e : ((k + 1 : Nat) : Int) - 1 = (k : Int) := by omega
  rw [e] at h1
  exact line_abv _ _ k (by omega) h1
/-- Where all that is below a datum ends. -/
def endD (l : List Dat) (a : Nat) : Nat := a + (subD l a).length
/-- What subFrom tells of a run of places. -/
theorem run_of (l : List Dat) (a : Nat) : ∀ (f i : Nat), i ≤ l.length → l.length - i ≤ f → a < i →
    (∀ j, i ≤ j → j < i + (subFrom l a f i).length → j < l.length ∧ dep l a < dep l j) ∧ (i + (subFrom l a f i).length < l.length → dep l (i + (subFrom l a f i).length) ≤ dep l a) ∧ i + (subFrom l a f i).length ≤ l.length := by
  intro f
  induction f with
  | zero =>
    intro i hi hf _
    have : i = l.length := by omega
    refine ⟨fun j h1 h2 => ?_, fun h => ?_, ?_⟩
    · simp [subFrom] at h2; omega
    · simp [subFrom] at h; omega
    · simp [subFrom]; omega
  | succ f ih =>
    intro i hi hf hai
    by_cases h : i < l.length
    · by_cases hd : i = a ∨ deepF l 100 (a : Int) < deepF l 100 (i : Int)
      · rw [subFrom_on l a f i h hd]
        obtain ⟨h1, h2, h3⟩ := ih (i + 1) (by omega) (by omega) (by omega)
        have e : i + (shiftD a i l[i] :: subFrom l a f (i + 1)).length = i + 1 + (subFrom l a f (i + 1)).length := by simp; omega
        rw [e]
        refine ⟨fun j hj1 hj2 => ?_, h2, h3⟩
        by_cases hij : j = i
        · subst hij
          refine ⟨h, ?_⟩
          rcases hd with hd | hd
          · omega
          · exact hd
        · exact h1 j (by omega) hj2
      · rw [subFrom_off l a f i h hd]
        refine ⟨fun j hj1 hj2 => ?_, fun _ => ?_, ?_⟩
        · simp at hj2; omega
        · have : ¬ deepF l 100 (a : Int) < deepF l 100 (i : Int) := fun h => hd (Or.inr h)
          simp only [List.length_nil, Nat.add_zero]
          unfold dep; omega
        · simp; omega
    · rw [subFrom_end l a _ i (by omega)]
      refine ⟨fun j hj1 hj2 => ?_, fun h' => ?_, ?_⟩
      · simp at hj2; omega
      · simp at h'; omega
      · simp; omega
theorem end_facts (l : List Dat) (a : Nat) (ha : a < l.length) : a < endD l a ∧ endD l a ≤ l.length ∧ (∀ j, a < j → j < endD l a → dep l a < dep l j) ∧ (endD l a < l.length → dep l (endD l a) ≤ dep l a) := by
  have hs : ∃ f, l.length = f + 1 := ⟨l.length - 1, by omega⟩
  obtain ⟨f, hf⟩ := hs
  have e : subD l a = shiftD a a l[a] :: subFrom l a f (a + 1) := by
    unfold subD
    rw [hf, subFrom_on l a f a ha (Or.inl rfl)]
  obtain ⟨h1, h2, h3⟩ := run_of l a f (a + 1) (by omega) (by omega) (by omega)
  have e2 : endD l a = a + 1 + (subFrom l a f (a + 1)).length := by unfold endD; rw [e]; simp; omega
  rw [e2]
  exact ⟨by omega, h3, fun j hj1 hj2 => (h1 j (by omega) hj2).2, h2⟩
/-- All between a datum and its end is below it. -/
theorem below_abv (F : Fine l) (a : Nat) (ha : a < l.length) : ∀ j, a ≤ j → j < endD l a → Abv l a j := by
  obtain ⟨h1, h2, h3, h4⟩ := end_facts l a ha
  intro j
  induction j with
  | zero =>
    intro hj _
    have : a = 0 := by omega
    subst this; exact abv_self l 0
  | succ j ih =>
    intro hj he
    by_cases hja : j + 1 = a
    · rw [hja]; exact abv_self l a
    · have hj1 := ih (by omega) (by omega)
      have hjl : j + 1 < l.length := by omega
      obtain ⟨q, hq, hab⟩ := F.line hjl
      -- q is above j, and so is a: one of them is above the other
      have hd := dep_par F hjl hq
      have hdj := h3 (j + 1) (by omega) he
      have key : ∀ (k : Nat), k < l.length → Abv l a k → Abv l q k → dep l a ≤ dep l q → Abv l a q := by
        intro k
        induction k using Nat.strongRecOn with
        | _ k ihk =>
          intro hk hA hQ hdq
          rcases abv_inv hQ with h | ⟨p, hp, hQ'⟩
          · rw [h] at hA; exact hA
          · rcases abv_inv hA with h' | ⟨p', hp', hA'⟩
            · exfalso
              subst h'
              have hlt := F.parlt hk hp
              have := dep_par F hk hp
              rcases abv_dep F p (by omega) hQ' with e | e
              · subst e; omega
              · omega
            · have : p = p' := by omega
              subst this
              exact ihk p (F.parlt hk hp) (by have := F.parlt hk hp; omega) hA' hQ' hdq
      exact abv_up hq (key j (by omega) hj1 hab (by omega))
/-- Nothing behind its end is below a datum. -/
theorem behind_not (F : Fine l) (a : Nat) (ha : a < l.length) : ∀ j, endD l a ≤ j → j < l.length → ¬ Abv l a j := by
  obtain ⟨h1, h2, h3, h4⟩ := end_facts l a ha
  intro j
  induction j using Nat.strongRecOn with
  | _ j ih =>
    intro hj hjl hA
    rcases abv_inv hA with h | ⟨p, hp, hA'⟩
    · omega
    · have hlt := F.parlt hjl hp
      by_cases hpe : endD l a ≤ p
      · exact ih p hlt hpe (by omega) hA'
      · -- the list is below a, yet its part stands behind a's end
        obtain ⟨i, rfl⟩ : ∃ i, j = i + 1 := ⟨j - 1, by omega⟩
        obtain ⟨q, hq, hab⟩ := F.line hjl
        have : q = p := by omega
        subst this
        by_cases hie : endD l a ≤ i
        · -- from i up one comes to q: so a is above i
          have tr : ∀ (k : Nat), k < l.length → Abv l q k → Abv l a k := by
            intro k
            induction k using Nat.strongRecOn with
            | _ k ihk =>
              intro hk hQ
              rcases abv_inv hQ with h | ⟨p, hp', hQ'⟩
              · rw [h]; exact hA'
              · exact abv_up hp' (ihk p (F.parlt hk hp') (by have := F.parlt hk hp'; omega) hQ')
          exact ih i (by omega) hie (by omega) (tr i (by omega) hab)
        · have hje : i + 1 = endD l a := by omega
          have hd := h4 (by omega)
          rw [← hje] at hd
          have hdp := dep_par F hjl hp
          rcases abv_dep F q (by omega) hA' with e | e
          · subst e; omega
          · omega
end
end Go.Proofs.YtllcnkghakaifaaDoor
