/-
  Parts of the proof laid into one text, one behind the other; each says at its head what is proved in it.
-/
import Derived.Test.YtfdkklhigliciaaGreatDoorXaE
import Derived.Test.YtfdkklhigliciaaGreatDoorXaH
import Derived.Test.YtfdkklhigliciaaGreatDoorXaI
/-
  Data with which nothing is wrong, as a tree, plainly: who is above whom; a datum and all below it stand side by side; its parts divide what stands behind it. No program in it.
-/
namespace Go.Proofs.YtfdkklhigliciaaGreatDoor
open Go.RowKit Go.Extern.Stop Go.Stop Go.Extern Num Go.Lib

/-- Whether a is met from b up. -/
def inCh (l : List Dat) (a : Nat) : Nat → Int → Prop
  | 0, _ => False
  | f + 1, b => 0 ≤ b ∧ (b = (a : Int) ∨ inCh l a f (par l b.toNat))
/-- a is k, or above it. -/
def Abv (l : List Dat) (a k : Nat) : Prop := ∃ f, inCh l a f (k : Int)
theorem abv_self (l : List Dat) (k : Nat) : Abv l k k := ⟨1, by omega, Or.inl rfl⟩
theorem abv_up {l : List Dat} {a k p : Nat} (hp : par l k = (p : Int)) (h : Abv l a p) : Abv l a k := by
  obtain ⟨f, hf⟩ := h
  refine ⟨f + 1, by omega, Or.inr ?_⟩
  rw [Int.toNat_natCast, hp]; exact hf
theorem abv_inv {l : List Dat} {a k : Nat} (h : Abv l a k) : k = a ∨ ∃ p : Nat, par l k = (p : Int) ∧ Abv l a p := by
  obtain ⟨f, hf⟩ := h
  cases f with
  | zero => exact hf.elim
  | succ f =>
    obtain ⟨_, h | h⟩ := hf
    · left; omega
    · right
      rw [Int.toNat_natCast] at h
      cases f with
      | zero => exact h.elim
      | succ f =>
        obtain ⟨p, hp⟩ := Int.eq_ofNat_of_zero_le h.1
        exact ⟨p, hp, f + 1, by rw [← hp]; exact h⟩
section
variable {l : List Dat}
theorem Fine.parlt (F : Fine l) {k p : Nat} (hk : k < l.length) (hp : par l k = (p : Int)) : p < k := by
  have := (F.parent k hk).1
  rw [par_at l k hk] at hp
  omega
theorem Fine.parneg (F : Fine l) {k : Nat} (hk : k < l.length) (h : ¬ ∃ p : Nat, par l k = (p : Int)) : par l k = -1 := by
  have h2 := (F.parent k hk).2
  rw [par_at l k hk] at h ⊢
  by_cases h0 : 0 ≤ l[k].parent
  · obtain ⟨p, hp⟩ := Int.eq_ofNat_of_zero_le h0
    exact absurd ⟨p, hp⟩ h
  · omega
theorem abv_le (F : Fine l) {a : Nat} : ∀ (k : Nat), k < l.length → Abv l a k → a ≤ k := by
  intro k
  induction k using Nat.strongRecOn with
  | _ k ih =>
    intro hk h
    rcases abv_inv h with h | ⟨p, hp, h⟩
    · omega
    · have hlt := F.parlt hk hp
      have := ih p hlt (by omega) h
      omega
/-- How deep. -/
def dep (l : List Dat) (k : Nat) : Nat := deepF l 100 (k : Int)
theorem deep_fuel (F : Fine l) : ∀ (k : Nat), k < l.length → ∀ f g, k < f → k < g → deepF l f (k : Int) = deepF l g (k : Int) := by
  intro k
  induction k using Nat.strongRecOn with
  | _ k ih =>
    intro hk f g hf hg
    obtain ⟨f', rfl⟩ : ∃ f', f = f' + 1 := ⟨f - 1, by omega⟩
    obtain ⟨g', rfl⟩ : ∃ g', g = g' + 1 := ⟨g - 1, by omega⟩
    rw [deepF_at l f' k hk, deepF_at l g' k hk]
    by_cases h : ∃ p : Nat, par l k = (p : Int)
    · obtain ⟨p, hp⟩ := h
      have hlt := F.parlt hk hp
      rw [par_at l k hk] at hp
      rw [hp, ih p hlt (by omega) f' g' (by omega) (by omega)]
    · have := F.parneg hk h
      rw [par_at l k hk] at this
      rw [this, deepF_neg l _ _ (by omega), deepF_neg l _ _ (by omega)]
theorem dep_par (F : Fine l) {k p : Nat} (hk : k < l.length) (hp : par l k = (p : Int)) : dep l k = dep l p + 1 := by
  have hlt := F.parlt hk hp
  have h80 := F.len
  rw [par_at l k hk] at hp
  unfold dep
  rw [deepF_at l 99 k hk, hp, deep_fuel F p (by omega) 99 100 (by omega) (by omega)]
theorem dep_pos (l : List Dat) {k : Nat} (hk : k < l.length) : 1 ≤ dep l k := by
  unfold dep
  rw [deepF_at l 99 k hk]; omega
theorem abv_dep (F : Fine l) {a : Nat} : ∀ (k : Nat), k < l.length → Abv l a k → k = a ∨ dep l a < dep l k := by
  intro k
  induction k using Nat.strongRecOn with
  | _ k ih =>
    intro hk h
    rcases abv_inv h with h | ⟨p, hp, h⟩
    · exact Or.inl h
    · right
      have hlt := F.parlt hk hp
      have hd := dep_par F hk hp
      rcases ih p hlt (by omega) h with h | h
      · subst h; omega
      · omega
/-- The line: whose part a datum is, is above the one ahead of it, and a list. -/
theorem line_abv : ∀ (f : Nat) (p : Int) (k : Nat), k < l.length → lineF l p f (k : Int) = true → ∃ q : Nat, p = (q : Int) ∧ Abv l q k := by
  intro f
  induction f with
  | zero => intro p k _ h; cases h
  | succ f ih =>
    intro p k hk h
    by_cases he : (k : Int) = p
    · exact ⟨k, he.symm, abv_self l k⟩
    · rw [lineF_on l p f k hk he] at h
      have hpk := par_at l k hk
      by_cases hn : 0 ≤ l[k].parent
      · obtain ⟨j, hj⟩ := Int.eq_ofNat_of_zero_le hn
        rw [hj] at h hpk
        by_cases hjl : j < l.length
        · obtain ⟨q, hq, hab⟩ := ih p j hjl h
          exact ⟨q, hq, abv_up hpk hab⟩
        · exfalso
          cases f with
          | zero => cases h
          | succ f =>
            have h0 : ¬ ((j : Int) < 0) := by omega
            simp only [lineF, if_neg h0, Int.toNat_natCast] at h
            have hnone : l[j]? = none := List.getElem?_eq_none (by omega)
            simp only [hnone, Option.map_none, Option.getD_none] at h
            split at h
            · cases h
            · have : par l j = -1 := by simp [par, hnone]
              rw [this, lineF_neg l p f (-1) (by omega)] at h
              cases h
      · rw [lineF_neg l p f _ (by omega)] at h; cases h
theorem Fine.line (F : Fine l) {k : Nat} (hk : k + 1 < l.length) : ∃ q : Nat, par l (k + 1) = (q : Int) ∧ Abv l q k := by
  have hc := F.ok (k + 1) hk hk
  have h1 : lineB l (k + 1) = true := by
    cases hl : lineB l (k + 1) with
    | true => rfl
    | false =>
      exfalso
      unfold chkD at hc
      have hb : (decide (0 < k + 1) && !(lineB l (k + 1))) = true := by simp [hl]
      rw [hb] at hc
      split at hc
      · cases hc
      · split at hc
        · cases hc
        · split at hc
          · cases hc
          · split at hc
            · cases hc
            · simp at hc
  unfold lineB at h1
  have e : ((k + 1 : Nat) : Int) - 1 = (k : Int) := by omega
  rw [e] at h1
  exact line_abv _ _ k (by omega) h1
/-- Where all that is below a datum ends. -/
def endD (l : List Dat) (a : Nat) : Nat := a + (subD l a).length
/-- What subFrom tells of a run of places. -/
theorem run_of (l : List Dat) (a : Nat) : ∀ (f i : Nat), i ≤ l.length → l.length - i ≤ f → a < i →
    (∀ j, i ≤ j → j < i + (subFrom l a f i).length → j < l.length ∧ dep l a < dep l j) ∧ (i + (subFrom l a f i).length < l.length → dep l (i + (subFrom l a f i).length) ≤ dep l a) ∧ i + (subFrom l a f i).length ≤ l.length := by
  intro f
  induction f with
  | zero =>
    intro i hi hf _
    have : i = l.length := by omega
    refine ⟨fun j h1 h2 => ?_, fun h => ?_, ?_⟩
    · simp [subFrom] at h2; omega
    · simp [subFrom] at h; omega
    · simp [subFrom]; omega
  | succ f ih =>
    intro i hi hf hai
    by_cases h : i < l.length
    · by_cases hd : i = a ∨ deepF l 100 (a : Int) < deepF l 100 (i : Int)
      · rw [subFrom_on l a f i h hd]
        obtain ⟨h1, h2, h3⟩ := ih (i + 1) (by omega) (by omega) (by omega)
        have e : i + (shiftD a i l[i] :: subFrom l a f (i + 1)).length = i + 1 + (subFrom l a f (i + 1)).length := by simp; omega
        rw [e]
        refine ⟨fun j hj1 hj2 => ?_, h2, h3⟩
        by_cases hij : j = i
        · subst hij
          refine ⟨h, ?_⟩
          rcases hd with hd | hd
          · omega
          · exact hd
        · exact h1 j (by omega) hj2
      · rw [subFrom_off l a f i h hd]
        refine ⟨fun j hj1 hj2 => ?_, fun _ => ?_, ?_⟩
        · simp at hj2; omega
        · have : ¬ deepF l 100 (a : Int) < deepF l 100 (i : Int) := fun h => hd (Or.inr h)
          simp only [List.length_nil, Nat.add_zero]
          unfold dep; omega
        · simp; omega
    · rw [subFrom_end l a _ i (by omega)]
      refine ⟨fun j hj1 hj2 => ?_, fun h' => ?_, ?_⟩
      · simp at hj2; omega
      · simp at h'; omega
      · simp; omega
theorem end_facts (l : List Dat) (a : Nat) (ha : a < l.length) : a < endD l a ∧ endD l a ≤ l.length ∧ (∀ j, a < j → j < endD l a → dep l a < dep l j) ∧ (endD l a < l.length → dep l (endD l a) ≤ dep l a) := by
  have hs : ∃ f, l.length = f + 1 := ⟨l.length - 1, by omega⟩
  obtain ⟨f, hf⟩ := hs
  have e : subD l a = shiftD a a l[a] :: subFrom l a f (a + 1) := by
    unfold subD
    rw [hf, subFrom_on l a f a ha (Or.inl rfl)]
  obtain ⟨h1, h2, h3⟩ := run_of l a f (a + 1) (by omega) (by omega) (by omega)
  have e2 : endD l a = a + 1 + (subFrom l a f (a + 1)).length := by unfold endD; rw [e]; simp; omega
  rw [e2]
  exact ⟨by omega, h3, fun j hj1 hj2 => (h1 j (by omega) hj2).2, h2⟩
/-- All between a datum and its end is below it. -/
theorem below_abv (F : Fine l) (a : Nat) (ha : a < l.length) : ∀ j, a ≤ j → j < endD l a → Abv l a j := by
  obtain ⟨h1, h2, h3, h4⟩ := end_facts l a ha
  intro j
  induction j with
  | zero =>
    intro hj _
    have : a = 0 := by omega
    subst this; exact abv_self l 0
  | succ j ih =>
    intro hj he
    by_cases hja : j + 1 = a
    · rw [hja]; exact abv_self l a
    · have hj1 := ih (by omega) (by omega)
      have hjl : j + 1 < l.length := by omega
      obtain ⟨q, hq, hab⟩ := F.line hjl
      -- q is above j, and so is a: one of them is above the other
      have hd := dep_par F hjl hq
      have hdj := h3 (j + 1) (by omega) he
      have key : ∀ (k : Nat), k < l.length → Abv l a k → Abv l q k → dep l a ≤ dep l q → Abv l a q := by
        intro k
        induction k using Nat.strongRecOn with
        | _ k ihk =>
          intro hk hA hQ hdq
          rcases abv_inv hQ with h | ⟨p, hp, hQ'⟩
          · rw [h] at hA; exact hA
          · rcases abv_inv hA with h' | ⟨p', hp', hA'⟩
            · exfalso
              subst h'
              have hlt := F.parlt hk hp
              have := dep_par F hk hp
              rcases abv_dep F p (by omega) hQ' with e | e
              · subst e; omega
              · omega
            · have : p = p' := by omega
              subst this
              exact ihk p (F.parlt hk hp) (by have := F.parlt hk hp; omega) hA' hQ' hdq
      exact abv_up hq (key j (by omega) hj1 hab (by omega))
/-- Nothing behind its end is below a datum. -/
theorem behind_not (F : Fine l) (a : Nat) (ha : a < l.length) : ∀ j, endD l a ≤ j → j < l.length → ¬ Abv l a j := by
  obtain ⟨h1, h2, h3, h4⟩ := end_facts l a ha
  intro j
  induction j using Nat.strongRecOn with
  | _ j ih =>
    intro hj hjl hA
    rcases abv_inv hA with h | ⟨p, hp, hA'⟩
    · omega
    · have hlt := F.parlt hjl hp
      by_cases hpe : endD l a ≤ p
      · exact ih p hlt hpe (by omega) hA'
      · -- the list is below a, yet its part stands behind a's end
        obtain ⟨i, rfl⟩ : ∃ i, j = i + 1 := ⟨j - 1, by omega⟩
        obtain ⟨q, hq, hab⟩ := F.line hjl
        have : q = p := by omega
        subst this
        by_cases hie : endD l a ≤ i
        · -- from i up one comes to q: so a is above i
          have tr : ∀ (k : Nat), k < l.length → Abv l q k → Abv l a k := by
            intro k
            induction k using Nat.strongRecOn with
            | _ k ihk =>
              intro hk hQ
              rcases abv_inv hQ with h | ⟨p, hp', hQ'⟩
              · rw [h]; exact hA'
              · exact abv_up hp' (ihk p (F.parlt hk hp') (by have := F.parlt hk hp'; omega) hQ')
          exact ih i (by omega) hie (by omega) (tr i (by omega) hab)
        · have hje : i + 1 = endD l a := by omega
          have hd := h4 (by omega)
          rw [← hje] at hd
          have hdp := dep_par F hjl hp
          rcases abv_dep F q (by omega) hA' with e | e
          · subst e; omega
          · omega
end
end Go.Proofs.YtfdkklhigliciaaGreatDoor
namespace Go.Proofs.YtfdkklhigliciaaGreatDoor
open Go.RowKit Go.Extern.Stop Go.Stop Go.Extern Num Go.Lib

theorem chk_all {l : List Dat} {i : Nat} {t : Dat} (h : chkD l i t = 0) : bareB t = true ∧ rangeBad t = false ∧ symBad t = false ∧ parBad i t.parent = false ∧ (0 < i → lineB l i = true) ∧ deepF l 100 (i : Int) ≤ 12 := by
  unfold chkD at h
  by_cases h1 : bareB t = false
  · rw [if_pos h1] at h; cases h
  rw [if_neg h1] at h
  by_cases h2 : rangeBad t = true
  · rw [if_pos h2] at h; cases h
  rw [if_neg h2] at h
  by_cases h3 : symBad t = true
  · rw [if_pos h3] at h; cases h
  rw [if_neg h3] at h
  by_cases h4 : parBad i t.parent = true
  · rw [if_pos h4] at h; cases h
  rw [if_neg h4] at h
  by_cases h5 : (decide (0 < i) && !(lineB l i)) = true
  · rw [if_pos h5] at h; cases h
  rw [if_neg h5] at h
  by_cases h6 : 12 < deepF l 100 (i : Int)
  · rw [if_pos h6] at h; cases h
  refine ⟨by simpa using h1, by simpa using h2, by simpa using h3, by simpa using h4, fun h0 => ?_, by omega⟩
  cases hb : lineB l i with
  | true => rfl
  | false => exact absurd (by simp [hb, h0]) h5
/-- What a datum is. -/
theorem kindD_cases {t : Dat} (hb : bareB t = true) (hr : rangeBad t = false) (hs : symBad t = false) :
    (t.kind = 1 ∧ inB t.num = true ∧ t.name.data.toList = []) ∨ (t.kind = 2 ∧ (t.num = 0 ∨ t.num = 1) ∧ t.name.data.toList = []) ∨ (t.kind = 3 ∧ t.num = 0 ∧ symL t.name.data.toList = true) ∨ (t.kind = 4 ∧ t.num = 0 ∧ t.name.data.toList = []) := by
  obtain ⟨k, p, n, z⟩ := t
  simp only [bareB, Bool.and_eq_true, decide_eq_true_eq, Bool.or_eq_true, beq_iff_eq] at hb
  obtain ⟨⟨hk, hn⟩, hz⟩ := hb
  have hk4 : k = 1 ∨ k = 2 ∨ k = 3 ∨ k = 4 := by omega
  rcases hk4 with rfl | rfl | rfl | rfl
  · left
    refine ⟨rfl, ?_, ?_⟩
    · simpa [rangeBad] using hr
    · simpa using hz
  · right; left
    refine ⟨rfl, ?_, ?_⟩
    · have : 0 ≤ n ∧ n ≤ 1 := by simpa [rangeBad] using hr
      show n = 0 ∨ n = 1
      omega
    · simpa using hz
  · right; right; left
    refine ⟨rfl, by simpa using hn, by simpa [symBad] using hs⟩
  · right; right; right
    exact ⟨rfl, by simpa using hn, by simpa using hz⟩
section
variable {l : List Dat}
theorem Fine.kinds (F : Fine l) (k : Nat) (hk : k < l.length) : (l[k].kind = 1 ∧ inB l[k].num = true ∧ l[k].name.data.toList = []) ∨ (l[k].kind = 2 ∧ (l[k].num = 0 ∨ l[k].num = 1) ∧ l[k].name.data.toList = []) ∨ (l[k].kind = 3 ∧ l[k].num = 0 ∧ symL l[k].name.data.toList = true) ∨ (l[k].kind = 4 ∧ l[k].num = 0 ∧ l[k].name.data.toList = []) := by
  obtain ⟨h1, h2, h3, _⟩ := chk_all (F.ok k hk hk)
  exact kindD_cases h1 h2 h3
theorem Fine.deep (F : Fine l) (k : Nat) (hk : k < l.length) : dep l k ≤ 12 := (chk_all (F.ok k hk hk)).2.2.2.2.2
theorem Fine.first (F : Fine l) : par l 0 = -1 := by
  have h := F.parent 0 F.pos
  rw [par_at l 0 F.pos]
  omega
/-- All but the first are parts of a list. -/
theorem line_kind : ∀ (f : Nat) (p : Int) (k : Int), lineF l p f k = true → 0 ≤ p ∧ (l[p.toNat]?.map (·.kind)).getD 0 = 4 := by
  intro f
  induction f with
  | zero => intro p k h; cases h
  | succ f ih =>
    intro p k h
    unfold lineF at h
    split at h
    · cases h
    · split at h
      · rename_i h0 h1
        subst h1
        exact ⟨by omega, by simpa using h⟩
      · exact ih p _ h
theorem Fine.list (F : Fine l) {k : Nat} (hk : k < l.length) (h0 : 0 < k) : ∃ (q : Nat) (hq : q < l.length), par l k = (q : Int) ∧ q < k ∧ l[q].kind = 4 := by
  have h1 := (chk_all (F.ok k hk hk)).2.2.2.2.1 h0
  obtain ⟨hp, hkd⟩ := line_kind _ _ _ h1
  obtain ⟨q, hq⟩ := Int.eq_ofNat_of_zero_le hp
  have hlt := F.parlt hk hq
  rw [hq] at hkd
  refine ⟨q, by omega, hq, hlt, ?_⟩
  simpa [show q < l.length by omega] using hkd
theorem abv_trans (F : Fine l) {a p : Nat} (hA : Abv l a p) : ∀ (k : Nat), k < l.length → Abv l p k → Abv l a k := by
  intro k
  induction k using Nat.strongRecOn with
  | _ k ih =>
    intro hk hQ
    rcases abv_inv hQ with h | ⟨q, hq, hQ'⟩
    · rw [h]; exact hA
    · have := F.parlt hk hq
      exact abv_up hq (ih q this (by omega) hQ')
theorem abv_part {a p : Nat} (h : par l p = (a : Int)) : Abv l a p := abv_up h (abv_self l a)
/-- Two parts of one datum: the one ahead ends ahead of the other. -/
theorem parts_apart (F : Fine l) {a p q : Nat} (hp : par l p = (a : Int)) (hq : par l q = (a : Int)) (hpq : p < q) (hql : q < l.length) : endD l p ≤ q := by
  by_cases h : endD l p ≤ q
  · exact h
  · exfalso
    have hA := below_abv F p (by omega) q (by omega) (by omega)
    have hlt := F.parlt (k := p) (by omega) hp
    rcases abv_inv hA with e | ⟨r, hr, hA'⟩
    · omega
    · have : r = a := by omega
      subst this
      have := abv_le F r (by have := F.parlt hql hq; omega) hA'
      omega
/-- A part ends where its list ends, or ahead of it. -/
theorem part_in (F : Fine l) {a p : Nat} (hp : par l p = (a : Int)) (hpl : p < l.length) : a < p ∧ p < endD l a ∧ endD l p ≤ endD l a := by
  have hlt := F.parlt hpl hp
  have hpe : p < endD l a := by
    by_cases h : p < endD l a
    · exact h
    · exact absurd (abv_part hp) (behind_not F a (by omega) p (by omega) hpl)
  refine ⟨hlt, hpe, ?_⟩
  by_cases h : endD l p ≤ endD l a
  · exact h
  · exfalso
    have he := (end_facts l p hpl).2.1
    have hA := below_abv F p hpl (endD l a) (by omega) (by omega)
    exact behind_not F a (by omega) (endD l a) (Nat.le_refl _) (by omega) (abv_trans F (abv_part hp) _ (by omega) hA)
/-- All that is below a datum, is a part of it or below one. -/
theorem abv_via (F : Fine l) {a : Nat} : ∀ (k : Nat), k < l.length → Abv l a k → k ≠ a → ∃ p : Nat, par l p = (a : Int) ∧ p ≤ k ∧ Abv l p k := by
  intro k
  induction k using Nat.strongRecOn with
  | _ k ih =>
    intro hk hA hne
    rcases abv_inv hA with e | ⟨q, hq, hA'⟩
    · exact absurd e hne
    · have hlt := F.parlt hk hq
      by_cases hqa : q = a
      · subst hqa
        exact ⟨k, hq, Nat.le_refl _, abv_self l k⟩
      · obtain ⟨p, hp, hpk, hpA⟩ := ih q hlt (by omega) hA' hqa
        exact ⟨p, hp, by omega, abv_up hq hpA⟩
/-- How much a row of parts takes. -/
def spanL (l : List Dat) (L : List Int) : Nat := (L.map fun p => endD l p.toNat - p.toNat).sum
theorem parts_to_mem (l : List Dat) (a : Int) (k : Nat) (p : Int) : p ∈ partsTo l a k ↔ ∃ j : Nat, p = (j : Int) ∧ j < k ∧ par l j = a := by
  induction k with
  | zero => simp [partsTo]
  | succ k ih =>
    simp only [partsTo]
    split
    · rename_i h
      rw [List.mem_append, ih]
      constructor
      · rintro (⟨j, h1, h2, h3⟩ | h1)
        · exact ⟨j, h1, by omega, h3⟩
        · exact ⟨k, by simpa using h1, by omega, h⟩
      · rintro ⟨j, h1, h2, h3⟩
        by_cases hj : j < k
        · exact Or.inl ⟨j, h1, hj, h3⟩
        · right
          have : j = k := by omega
          subst this; simp [h1]
    · rename_i h
      rw [ih]
      constructor
      · rintro ⟨j, h1, h2, h3⟩; exact ⟨j, h1, by omega, h3⟩
      · rintro ⟨j, h1, h2, h3⟩
        by_cases hj : j < k
        · exact ⟨j, h1, hj, h3⟩
        · have : j = k := by omega
          subst this; exact absurd h3 h
theorem parts_mem (l : List Dat) (a : Int) (p : Int) : p ∈ partsD l a ↔ ∃ j : Nat, p = (j : Int) ∧ j < l.length ∧ par l j = a := parts_to_mem l a l.length p
/-- Up to a place the parts take all there is, and a bit more. -/
theorem span_to (F : Fine l) (a : Nat) (ha : a < l.length) : ∀ k, a + 1 ≤ k → k ≤ endD l a →
    (partsTo l a k = [] ∧ k = a + 1) ∨ (∃ p : Nat, p < k ∧ par l p = (a : Int) ∧ a + 1 + spanL l (partsTo l a k) = endD l p ∧ k ≤ endD l p ∧ ∀ q : Nat, q < k → par l q = (a : Int) → q ≤ p) := by
  obtain ⟨e1, e2, e3, e4⟩ := end_facts l a ha
  intro k
  induction k with
  | zero => intro h _; omega
  | succ k ih =>
    intro hk hke
    by_cases hka : k = a
    · subst hka
      left
      refine ⟨?_, rfl⟩
      have hne : ∀ p, p ∉ partsTo l (k : Int) (k + 1) := by
        intro p hp
        obtain ⟨j, _, hj, hjp⟩ := (parts_to_mem l _ _ _).1 hp
        have := F.parlt (k := j) (by omega) hjp
        omega
      exact List.eq_nil_iff_forall_not_mem.2 hne
    · have hkl : k < l.length := by omega
      right
      rcases ih (by omega) (by omega) with ⟨h1, h2⟩ | ⟨p, hp, hpa, hs, hkp, hmax⟩
      · -- the first part
        have hA := below_abv F a ha k (by omega) (by omega)
        obtain ⟨q, hq, hqk, _⟩ := abv_via F k hkl hA (by omega)
        have := F.parlt (k := q) (by omega) hq
        have hqk' : q = k := by omega
        subst hqk'
        refine ⟨q, by omega, hq, ?_, ?_, fun r hr _ => by omega⟩
        · have := (end_facts l q hkl).1
          simp only [partsTo, if_pos hq, h1, spanL]
          simp
          omega
        · have := (end_facts l q hkl).1
          omega
      · by_cases hkp' : k < endD l p
        · have hno : ¬ par l k = (a : Int) := by
            intro h
            have := parts_apart F hpa h hp hkl
            omega
          refine ⟨p, by omega, hpa, ?_, by omega, fun q hq hqa => ?_⟩
          · simp only [partsTo, if_neg hno]; exact hs
          · by_cases hqk : q < k
            · exact hmax q hqk hqa
            · have : q = k := by omega
              subst this; exact absurd hqa hno
        · have hkE : k = endD l p := by omega
          have hA := below_abv F a ha k (by omega) (by omega)
          obtain ⟨q, hq, hqk, hqA⟩ := abv_via F k hkl hA (by omega)
          have hqk' : q = k := by
            by_cases h : q = k
            · exact h
            · exfalso
              have hqp := hmax q (by omega) hq
              have hin : k < endD l q := by
                by_cases h' : k < endD l q
                · exact h'
                · exact absurd hqA (behind_not F q (by omega) k (by omega) hkl)
              by_cases hqp' : q = p
              · subst hqp'; omega
              · have := parts_apart F hq hpa (by omega) (by omega)
                omega
          subst hqk'
          refine ⟨q, by omega, hq, ?_, ?_, fun r hr _ => by omega⟩
          · have := (end_facts l q hkl).1
            have hs' : spanL l (partsTo l a q ++ [(q : Int)]) = spanL l (partsTo l a q) + (endD l q - q) := by simp [spanL]
            simp only [partsTo, if_pos hq]
            rw [hs']
            omega
          · have := (end_facts l q hkl).1
            omega
theorem parts_stop (F : Fine l) (a : Nat) (ha : a < l.length) : ∀ k, endD l a ≤ k → k ≤ l.length → partsTo l a k = partsTo l a (endD l a) := by
  intro k
  induction k with
  | zero => intro h _; have := (end_facts l a ha).1; omega
  | succ k ih =>
    intro h1 h2
    by_cases he : endD l a = k + 1
    · rw [he]
    · have hno : ¬ par l k = (a : Int) := by
        intro h
        have := part_in F h (by omega)
        omega
      rw [partsTo, if_neg hno]
      exact ih (by omega) (by omega)
/-- The parts of a datum divide what stands behind it. -/
theorem span_all (F : Fine l) (a : Nat) (ha : a < l.length) : a + 1 + spanL l (partsD l a) = endD l a := by
  obtain ⟨e1, e2, e3, e4⟩ := end_facts l a ha
  unfold partsD
  rw [parts_stop F a ha l.length e2 (Nat.le_refl _)]
  rcases span_to F a ha (endD l a) (by omega) (Nat.le_refl _) with ⟨h1, h2⟩ | ⟨p, hp, hpa, hs, hkp, _⟩
  · rw [h1]; simp [spanL]; omega
  · have := (part_in F hpa (by omega)).2.2
    omega
end
end Go.Proofs.YtfdkklhigliciaaGreatDoor
/-
  What kind of form a datum is, ahead of what it comes to: a form, or a code; and what is then done with it. No program in it.
-/
namespace Go.Proofs.YtfdkklhigliciaaGreatDoor
open Go.RowKit Go.Extern.Stop Go.Stop Go.Extern Num Go.Lib

/-- A form: its kind; a kind of core; a place; a name; places of parts; names. -/
structure Fm where
  tag : Nat
  num : Int
  spot : Int
  nm : ByteArray
  ps : List Int
  ns : List ByteArray
def fm0 : Fm := ⟨0, 0, 0, ⟨#[]⟩, [], []⟩
def fmC (a : Int) : Fm := ⟨0, 0, a, ⟨#[]⟩, [], []⟩
def fmN (z : ByteArray) : Fm := ⟨1, 0, 0, z, [], []⟩
def fmP (k : Int) (p : List Int) : Fm := ⟨2, k, 0, ⟨#[]⟩, p, []⟩
def fmL (N : List ByteArray) (b : Int) : Fm := ⟨3, 0, b, ⟨#[]⟩, [], N⟩
def fmT (N : List ByteArray) (b : Int) (V : List Int) : Fm := ⟨4, 0, b, ⟨#[]⟩, V, N⟩
def fmD (z : ByteArray) (b : Int) : Fm := ⟨5, 0, b, z, [], []⟩
def fmS (z : ByteArray) (b : Int) : Fm := ⟨6, 0, b, z, [], []⟩
/-- The names of a lambda, with the code where they may not be so. -/
def lamC (l : List Dat) (L : List Int) : Int × List ByteArray := match parF l L [] with
  | none => (1, [])
  | some N => if 3 < N.length then (2, []) else (0, N)
def letC (l : List Dat) (L : List Int) : Int × List ByteArray × List Int := match letP l L with
  | none => (1, [], [])
  | some p => if (lamC l p.1).1 = 0 then (0, (lamC l p.1).2, p.2) else ((lamC l p.1).1, [], [])
def nameD (l : List Dat) (z : ByteArray) (x y : Int) : Int × Fm :=
  if (z.toList == [108, 97, 109, 98, 100, 97]) = true then (if kindAt l x = 4 then (if (lamC l (partsD l x)).1 = 0 then (0, fmL (lamC l (partsD l x)).2 y) else ((lamC l (partsD l x)).1, fm0)) else (1, fm0))
  else if (z.toList == [108, 101, 116]) = true then (if kindAt l x = 4 then (if (letC l (partsD l x)).1 = 0 then (0, fmT (letC l (partsD l x)).2.1 y (letC l (partsD l x)).2.2) else ((letC l (partsD l x)).1, fm0)) else (1, fm0))
  else if (z.toList == [100, 101, 102, 105, 110, 101]) = true then (if symP l x = true then (0, fmD (nameAt l x) y) else (1, fm0))
  else (if symP l x = true then (0, fmS (nameAt l x) y) else (1, fm0))
def keyD (l : List Dat) (z : ByteArray) (r : List Int) : Int × Fm :=
  if (z.toList == [113, 117, 111, 116, 101]) = true then (if r.length = 1 then (0, fmC (r.getD 0 0)) else (1, fm0))
  else if (z.toList == [105, 102]) = true then (if r.length = 3 then (0, fmP 4 r) else (1, fm0))
  else if (z.toList == [98, 101, 103, 105, 110]) = true then (if 0 < r.length then (0, fmP 6 r) else (1, fm0))
  else if r.length = 2 then nameD l z (r.getD 0 0) (r.getD 1 0) else (1, fm0)
def listD (l : List Dat) (p : List Int) : Int × Fm :=
  if p.length = 0 then (1, fm0)
  else if kwB (nameAt l (p.getD 0 0)) = true then keyD l (nameAt l (p.getD 0 0)) (p.drop 1)
  else if 4 < p.length then (2, fm0)
  else (0, fmP 9 p)
def formD (l : List Dat) (a : Int) : Int × Fm :=
  if kindAt l a = 3 then (if kwB (nameAt l a) = true then (1, fm0) else (0, fmN (nameAt l a)))
  else if kindAt l a = 4 then listD l (partsD l a)
  else (0, fmC a)
/-- The cores that a let comes to, ahead of its values. -/
def letCores (par : Int) (N : List ByteArray) (C : List Cor) : List Cor := C ++ [coC 9 par 0 0 ⟨#[]⟩ []] ++ [coC 5 C.length N.length 0 ⟨#[]⟩ []]
def doF (l : List Dat) (f : Expd) (m : Fm) (a : Int) (par : Int) (E : Env) (C : List Cor) : Int × List Cor :=
  match m.tag with
  | 0 => (0, C ++ [coC 1 par 0 0 ⟨#[]⟩ (subD l m.spot.toNat)])
  | 1 => (match findE E m.nm with
    | some (o, i) => (0, C ++ [coC 2 par o i ⟨#[]⟩ []])
    | none => (0, C ++ [coC 3 par 0 0 m.nm []]))
  | 2 => allF (fun b D => f b C.length E D) m.ps (C ++ [coC m.num par 0 0 ⟨#[]⟩ []])
  | 3 => f m.spot.toNat C.length (m.ns :: E) (C ++ [coC 5 par m.ns.length 0 ⟨#[]⟩ []])
  | 4 => if (f m.spot.toNat ((C.length + 1 : Nat) : Int) (m.ns :: E) (letCores par m.ns C)).1 = 0 then
        allF (fun b D => f b C.length E D) m.ps (f m.spot.toNat ((C.length + 1 : Nat) : Int) (m.ns :: E) (letCores par m.ns C)).2
      else f m.spot.toNat ((C.length + 1 : Nat) : Int) (m.ns :: E) (letCores par m.ns C)
  | 5 => if a = 0 then f m.spot.toNat C.length E (C ++ [coC 8 par 0 0 m.nm []]) else (1, C)
  | _ => if findE E m.nm = none then f m.spot.toNat C.length E (C ++ [coC 7 par 0 0 m.nm []]) else (1, C)
theorem lamC_form (l : List Dat) (L : List Int) {α : Type} (g : Int → α) (h : List ByteArray → α) :
    (match parF l L [] with | none => g 1 | some N => if 3 < N.length then g 2 else h N) = if (lamC l L).1 = 0 then h (lamC l L).2 else g (lamC l L).1 := by
  unfold lamC
  cases parF l L [] with
  | none => simp
  | some N => by_cases h3 : 3 < N.length <;> simp [h3]
theorem letC_form (l : List Dat) (L : List Int) {α : Type} (g : Int → α) (h : List ByteArray → List Int → α) :
    (match letF l L [] [] with | none => g 1 | some (N, V) => if 3 < N.length then g 2 else h N V) = if (letC l L).1 = 0 then h (letC l L).2.1 (letC l L).2.2 else g (letC l L).1 := by
  rw [letF_eq]
  unfold letC
  cases letP l L with
  | none => simp
  | some p =>
    simp only [Option.bind_some]
    unfold lamC
    cases parF l p.1 [] with
    | none => simp
    | some N => by_cases h3 : 3 < N.length <;> simp [h3]
theorem three_of {p : List Int} (h : p.length = 3) : ∃ a b c, p = [a, b, c] := by
  match p, h with
  | [a, b, c], _ => exact ⟨a, b, c, rfl⟩
/-- Where a place stands, and what is around it. -/
def Spot (a : Nat) (par : Int) (E : Env) : Prop := (a = 0 ∧ par = -1 ∧ E = []) ∨ (0 < a ∧ 0 ≤ par)
theorem name_none {l : List Dat} (hF : Fine l) {a : Nat} (ha : a < l.length) (h : kindAt l a ≠ 3) : kwB (nameAt l a) = false := by
  have hn : nameAt l a = l[a].name := by unfold nameAt; simp [ha]
  have hk : kindAt l a = l[a].kind := by unfold kindAt; simp [ha]
  rw [hk] at h
  rw [hn, kwB_eq]
  rcases hF.kinds a ha with h1 | h1 | h1 | h1
  · rw [ByteArray.toList_eq, h1.2.2]; rfl
  · rw [ByteArray.toList_eq, h1.2.2]; rfl
  · exact absurd h1.1 h
  · rw [ByteArray.toList_eq, h1.2.2]; rfl
theorem kindX_of {l : List Dat} (hF : Fine l) {a : Nat} (ha : a < l.length) : kindAt l a = 1 ∨ kindAt l a = 2 ∨ kindAt l a = 3 ∨ kindAt l a = 4 := by
  have hk : kindAt l a = l[a].kind := by unfold kindAt; simp [ha]
  rw [hk]
  rcases hF.kinds a ha with h1 | h1 | h1 | h1
  · exact .inl h1.1
  · exact .inr (.inl h1.1)
  · exact .inr (.inr (.inl h1.1))
  · exact .inr (.inr (.inr h1.1))
/-- Only a list has parts. -/
theorem parts_none {l : List Dat} (hF : Fine l) {a : Nat} (h : kindAt l a ≠ 4) : partsD l a = [] := by
  cases hp : partsD l a with
  | nil => rfl
  | cons b r =>
    exfalso
    obtain ⟨j, h1, rfl, h3⟩ := mem_partsTo (l := l) (a := (a : Int)) (b := b) (k := l.length) (by show b ∈ partsD l a; rw [hp]; simp)
    by_cases hj : j = 0
    · subst hj
      have := hF.first
      omega
    · obtain ⟨q, hq, h4, h5, h6⟩ := hF.list h1 (by omega)
      obtain rfl : q = a := by omega
      apply h
      unfold kindAt
      simp [hq, h6]
theorem expF_form {l : List Dat} (hF : Fine l) (n a : Nat) (par : Int) (E : Env) (C : List Cor) (ha : a < l.length) (hs : Spot a par E) :
    expF l (n + 1) a par E C = if (formD l a).1 = 0 then doF l (expF l n) (formD l a).2 a par E C else ((formD l a).1, C) := by
  rcases kindX_of hF ha with h | h | h | h
  · simp [expF, formD, h, doF, fmC]
  · simp [expF, formD, h, doF, fmC]
  · cases hk : kwB (nameAt l a) with
    | true => simp [expF, formD, h, hk]
    | false =>
      simp only [expF, formD, h, hk]
      simp only [doF, fmN]
      rfl
  · have e1 : expF l (n + 1) a par E C = if (partsD l a).length = 0 then (1, C)
      else if kindAt l ((partsD l a).getD 0 0) = 3 ∧ kwB (nameAt l ((partsD l a).getD 0 0)) = true then formF l (expF l n) (nameAt l ((partsD l a).getD 0 0)) (partsD l a) par E C
      else if 4 < (partsD l a).length then (2, C)
      else allF (fun b D => expF l n b C.length E D) (partsD l a) (C ++ [coC 9 par 0 0 ⟨#[]⟩ []]) := by simp [expF, h]
    have e2 : formD l a = listD l (partsD l a) := by simp [formD, h]
    rw [e1, e2]
    have hm : ∀ b ∈ partsD l a, ∃ j : Nat, b = (j : Int) ∧ j < l.length ∧ a < j := fun b hb => mem_partsD hF hb
    generalize partsD l a = p at hm ⊢
    match p, hm with
    | [], _ => simp [listD]
    | p0 :: r, hm =>
      obtain ⟨j, rfl, hj, -⟩ := hm p0 (by simp)
      by_cases hk : kwB (nameAt l j) = true
      · have hk3 : kindAt l j = 3 := by
          by_cases h3 : kindAt l j = 3
          · exact h3
          · have := name_none hF hj h3; rw [hk] at this; cases this
        have e3 : listD l ((j : Int) :: r) = keyD l (nameAt l j) r := by simp [listD, hk]
        rw [e3]
        simp only [List.length_cons, List.getD_cons_zero, hk3, hk, and_self, if_true]
        rw [if_neg (by omega)]
        unfold formF keyD
        by_cases g1 : ((nameAt l j).toList == [113, 117, 111, 116, 101]) = true
        · simp only [if_pos g1]
          by_cases hr : r.length = 1
          · simp [hr, doF, fmC]
          · simp [hr]
        simp only [if_neg g1]
        by_cases g2 : ((nameAt l j).toList == [105, 102]) = true
        · simp only [if_pos g2]
          by_cases hr : r.length = 3
          · simp [hr, doF, fmP]
          · simp [hr]
        simp only [if_neg g2]
        by_cases g3 : ((nameAt l j).toList == [98, 101, 103, 105, 110]) = true
        · simp only [if_pos g3]
          by_cases hr : 0 < r.length
          · rw [if_pos (show 2 ≤ ((j : Int) :: r).length by rw [List.length_cons]; omega), if_pos hr]
            simp [doF, fmP]
          · rw [if_neg (show ¬ 2 ≤ ((j : Int) :: r).length by rw [List.length_cons]; omega), if_neg hr]
            simp
        simp only [if_neg g3]
        by_cases hr : r.length = 2
        case neg =>
          rw [if_neg hr]
          unfold lamF letG asgF
          have hp3 : ¬ ((j : Int) :: r).length = 3 := by simp; omega
          simp [hr]
        obtain ⟨x, y, rfl⟩ : ∃ x y, r = [x, y] := by
          match r, hr with
          | [x, y], _ => exact ⟨x, y, rfl⟩
        simp only [List.length_cons, List.length_nil, if_true, List.getD_cons_zero, List.getD_cons_succ]
        unfold nameD
        by_cases g4 : ((nameAt l j).toList == [108, 97, 109, 98, 100, 97]) = true
        · simp only [if_pos g4]
          unfold lamF
          simp only [List.length_cons, List.length_nil, List.getD_cons_zero, List.getD_cons_succ, true_and]
          by_cases hx : kindAt l x = 4
          · rw [if_pos hx, if_pos hx]
            refine (lamC_form l (partsD l x) (fun c => (c, C)) (fun N => expF l n y.toNat C.length (N :: E) (C ++ [coC 5 par N.length 0 ⟨#[]⟩ []]))).trans ?_
            by_cases h0 : (lamC l (partsD l x)).1 = 0
            · simp [h0, doF, fmL]
            · simp [h0]
          · simp [hx]
        simp only [if_neg g4]
        by_cases g5 : ((nameAt l j).toList == [108, 101, 116]) = true
        · simp only [if_pos g5]
          unfold letG
          simp only [List.length_cons, List.length_nil, List.getD_cons_zero, List.getD_cons_succ, true_and]
          by_cases hx : kindAt l x = 4
          · rw [if_pos hx, if_pos hx]
            refine (letC_form l (partsD l x) (fun c => (c, C)) (fun N V => if (expF l n y.toNat ((C.length + 1 : Nat) : Int) (N :: E) (letCores par N C)).1 = 0 then
              allF (fun a D => expF l n a C.length E D) V (expF l n y.toNat ((C.length + 1 : Nat) : Int) (N :: E) (letCores par N C)).2
              else expF l n y.toNat ((C.length + 1 : Nat) : Int) (N :: E) (letCores par N C))).trans ?_
            by_cases h0 : (letC l (partsD l x)).1 = 0
            · simp only [h0, if_true, doF, fmT]
            · simp [h0]
          · simp [hx]
        simp only [if_neg g5]
        by_cases g6 : ((nameAt l j).toList == [100, 101, 102, 105, 110, 101]) = true
        · simp only [if_pos g6]
          unfold asgF
          by_cases hx : symP l x = true
          · rcases hs with ⟨rfl, rfl, rfl⟩ | ⟨h1, h2⟩
            · simp [hx, doF, fmD, findE]
            · have h3 : ¬ par = -1 := by omega
              have h4 : ¬ (a : Int) = 0 := by omega
              rw [if_neg (fun h => h.2.1 ⟨rfl, h3⟩)]
              simp only [hx, if_true, doF, fmD, if_neg h4]
          · simp [hx]
        simp only [if_neg g6]
        unfold asgF
        simp only [List.length_cons, List.length_nil, List.getD_cons_zero, List.getD_cons_succ, true_and]
        by_cases hx : symP l x = true
        · simp [hx, doF, fmS]
        · simp [hx]
      · have hk' : kwB (nameAt l j) = false := by simpa using hk
        have z0 : ¬ (r.length + 1 = 0) := by omega
        simp only [listD, List.length_cons, List.getD_cons_zero, hk', Bool.false_eq_true, and_false, if_false, if_neg z0]
        by_cases h4 : 4 < r.length + 1
        · simp [h4]
        · simp [h4, doF, fmP]
/-- A place behind another one. -/
def Gd (l : List Dat) (a : Nat) (b : Int) : Prop := ∃ j : Nat, b = (j : Int) ∧ a < j ∧ j < l.length
/-- A name that stands somewhere. -/
def Nm (l : List Dat) (z : ByteArray) : Prop := ∃ j : Nat, j < l.length ∧ z = nameAt l j
theorem gd_parts {l : List Dat} (hF : Fine l) {a : Nat} {x : Int} (hx : Gd l a x ∨ x = (a : Int)) : ∀ b ∈ partsD l x, Gd l a b := fun b hb => by
  rcases hx with ⟨j, rfl, h1, h2⟩ | rfl
  · obtain ⟨k, rfl, h3, h4⟩ := mem_partsD hF hb
    exact ⟨k, rfl, by omega, h3⟩
  · obtain ⟨k, rfl, h3, h4⟩ := mem_partsD hF hb
    exact ⟨k, rfl, h4, h3⟩
theorem letP_gd {l : List Dat} (hF : Fine l) {a : Nat} : ∀ (L : List Int) (p : List Int × List Int), (∀ b ∈ L, Gd l a b) → letP l L = some p → (∀ b ∈ p.1, Gd l a b) ∧ (∀ b ∈ p.2, Gd l a b) ∧ p.1.length = L.length ∧ p.2.length = L.length
  | [], p, _, h => by cases h; simp
  | x :: r, p, hx, h => by
    have h1 := gd_parts hF (.inl (hx x (by simp)))
    rcases hp : partsD l x with _ | ⟨u, _ | ⟨v, _ | ⟨z, q⟩⟩⟩
    · simp [letP, hp] at h
    · simp [letP, hp] at h
    · rw [hp] at h1
      simp only [letP, hp, Option.map_eq_some_iff] at h
      obtain ⟨p', h2, rfl⟩ := h
      obtain ⟨k1, k2, k3, k4⟩ := letP_gd hF r p' (fun b hb => hx b (by simp [hb])) h2
      refine ⟨fun b hb => ?_, fun b hb => ?_, by simp [k3], by simp [k4]⟩
      · rcases List.mem_cons.1 hb with rfl | hb
        · exact h1 _ (by simp)
        · exact k1 b hb
      · rcases List.mem_cons.1 hb with rfl | hb
        · exact h1 _ (by simp)
        · exact k2 b hb
    · simp [letP, hp] at h
theorem lamC_three {l : List Dat} {L : List Int} (h : (lamC l L).1 = 0) : (lamC l L).2.length ≤ 3 := by
  unfold lamC at h ⊢
  cases hp : parF l L [] with
  | none => simp
  | some N =>
    rw [hp] at h
    simp only at h ⊢
    by_cases h3 : 3 < N.length
    · simp [h3] at h
    · simp only [if_neg h3]; omega
theorem letC_gd {l : List Dat} (hF : Fine l) {a : Nat} {L : List Int} (hL : ∀ b ∈ L, Gd l a b) (h : (letC l L).1 = 0) : (letC l L).2.1.length ≤ 3 ∧ (∀ b ∈ (letC l L).2.2, Gd l a b) ∧ (letC l L).2.2.length ≤ L.length := by
  unfold letC at h ⊢
  cases hp : letP l L with
  | none => rw [hp] at h; simp at h
  | some p =>
    rw [hp] at h
    obtain ⟨k1, k2, k3, k4⟩ := letP_gd hF L p hL hp
    simp only at h ⊢
    by_cases h0 : (lamC l p.1).1 = 0
    · simp only [if_pos h0]
      exact ⟨lamC_three h0, k2, by omega⟩
    · rw [if_neg h0] at h; exact absurd h h0
theorem form_cases {l : List Dat} (hF : Fine l) {a : Nat} (ha : a < l.length) (h : (formD l a).1 = 0) :
    (∃ s : Nat, s < l.length ∧ formD l a = (0, fmC s)) ∨ (∃ z, formD l a = (0, fmN z) ∧ Nm l z) ∨ (∃ k p, formD l a = (0, fmP k p) ∧ (∀ b ∈ p, Gd l a b) ∧ p.length ≤ 80) ∨ (∃ N b, formD l a = (0, fmL N b) ∧ N.length ≤ 3 ∧ Gd l a b) ∨
    (∃ N b V, formD l a = (0, fmT N b V) ∧ N.length ≤ 3 ∧ Gd l a b ∧ (∀ b ∈ V, Gd l a b) ∧ V.length ≤ 80) ∨ (∃ z b, formD l a = (0, fmD z b) ∧ Nm l z ∧ Gd l a b) ∨ (∃ z b, formD l a = (0, fmS z b) ∧ Nm l z ∧ Gd l a b) := by
  have hlen := hF.len
  by_cases h3 : kindAt l a = 3
  · cases hk : kwB (nameAt l a) with
    | true => simp [formD, h3, hk] at h
    | false => exact .inr (.inl ⟨nameAt l a, by simp [formD, h3, hk], a, ha, rfl⟩)
  by_cases h4 : kindAt l a = 4
  case neg => exact .inl ⟨a, ha, by simp [formD, h3, h4]⟩
  have e2 : formD l a = listD l (partsD l a) := by simp [formD, h4]
  rw [e2] at h ⊢
  have hm : ∀ b ∈ partsD l a, Gd l a b := gd_parts hF (.inr rfl)
  have hpl : (partsD l a).length ≤ 80 := Nat.le_trans (partsTo_len _ _ _) hlen
  generalize partsD l a = p at h hm hpl ⊢
  match p, h, hm, hpl with
  | [], h, _, _ => simp [listD] at h
  | p0 :: r, h, hm, hpl =>
    obtain ⟨j, rfl, hj, hjl⟩ := hm p0 (by simp)
    by_cases hk : kwB (nameAt l j) = true
    case neg =>
      have hk' : kwB (nameAt l j) = false := by simpa using hk
      simp only [listD, List.length_cons, List.getD_cons_zero, hk', Bool.false_eq_true, if_false] at h ⊢
      rw [if_neg (by omega)] at h ⊢
      by_cases h4' : 4 < r.length + 1
      · simp [h4'] at h
      · rw [if_neg h4']
        exact .inr (.inr (.inl ⟨9, (j : Int) :: r, rfl, hm, hpl⟩))
    have hr : ∀ b ∈ r, Gd l a b := fun b hb => hm b (by simp [hb])
    have hrl : r.length ≤ 80 := by simp at hpl; omega
    have e3 : listD l ((j : Int) :: r) = keyD l (nameAt l j) r := by simp [listD, hk]
    rw [e3] at h ⊢
    unfold keyD at h ⊢
    by_cases g1 : ((nameAt l j).toList == [113, 117, 111, 116, 101]) = true
    · simp only [if_pos g1] at h ⊢
      by_cases h1 : r.length = 1
      · obtain ⟨x, rfl⟩ : ∃ x, r = [x] := by
          match r, h1 with
          | [x], _ => exact ⟨x, rfl⟩
        obtain ⟨s, rfl, hs, hsl⟩ := hr x (by simp)
        exact .inl ⟨s, hsl, by simp⟩
      · simp [h1] at h
    simp only [if_neg g1] at h ⊢
    by_cases g2 : ((nameAt l j).toList == [105, 102]) = true
    · simp only [if_pos g2] at h ⊢
      by_cases h1 : r.length = 3
      · exact .inr (.inr (.inl ⟨4, r, by simp [h1], hr, hrl⟩))
      · simp [h1] at h
    simp only [if_neg g2] at h ⊢
    by_cases g3 : ((nameAt l j).toList == [98, 101, 103, 105, 110]) = true
    · simp only [if_pos g3] at h ⊢
      by_cases h1 : 0 < r.length
      · exact .inr (.inr (.inl ⟨6, r, by simp [h1], hr, hrl⟩))
      · simp [h1] at h
    simp only [if_neg g3] at h ⊢
    by_cases h2 : r.length = 2
    case neg => simp [h2] at h
    obtain ⟨x, y, rfl⟩ : ∃ x y, r = [x, y] := by
      match r, h2 with
      | [x, y], _ => exact ⟨x, y, rfl⟩
    have hx := hr x (by simp)
    have hy := hr y (by simp)
    have hpx := gd_parts hF (.inl hx)
    have hpxl : (partsD l x).length ≤ 80 := Nat.le_trans (partsTo_len _ _ _) hlen
    have hNm : Nm l (nameAt l x) := by
      obtain ⟨k, rfl, -, hk⟩ := hx
      exact ⟨k, hk, rfl⟩
    simp only [List.length_cons, List.length_nil, if_true, List.getD_cons_zero, List.getD_cons_succ] at h ⊢
    unfold nameD at h ⊢
    by_cases g4 : ((nameAt l j).toList == [108, 97, 109, 98, 100, 97]) = true
    · simp only [if_pos g4] at h ⊢
      by_cases hx4 : kindAt l x = 4
      · simp only [if_pos hx4] at h ⊢
        by_cases h0 : (lamC l (partsD l x)).1 = 0
        · rw [if_pos h0]
          exact .inr (.inr (.inr (.inl ⟨_, y, rfl, lamC_three h0, hy⟩)))
        · rw [if_neg h0] at h; exact absurd h h0
      · simp [hx4] at h
    simp only [if_neg g4] at h ⊢
    by_cases g5 : ((nameAt l j).toList == [108, 101, 116]) = true
    · simp only [if_pos g5] at h ⊢
      by_cases hx4 : kindAt l x = 4
      · simp only [if_pos hx4] at h ⊢
        by_cases h0 : (letC l (partsD l x)).1 = 0
        · rw [if_pos h0]
          obtain ⟨k1, k2, k3⟩ := letC_gd hF hpx h0
          exact .inr (.inr (.inr (.inr (.inl ⟨_, y, _, rfl, k1, hy, k2, by omega⟩))))
        · rw [if_neg h0] at h; exact absurd h h0
      · simp [hx4] at h
    simp only [if_neg g5] at h ⊢
    by_cases g6 : ((nameAt l j).toList == [100, 101, 102, 105, 110, 101]) = true
    · simp only [if_pos g6] at h ⊢
      by_cases hs : symP l x = true
      · rw [if_pos hs]
        exact .inr (.inr (.inr (.inr (.inr (.inl ⟨_, y, rfl, hNm, hy⟩)))))
      · simp [hs] at h
    simp only [if_neg g6] at h ⊢
    by_cases hs : symP l x = true
    · rw [if_pos hs]
      exact .inr (.inr (.inr (.inr (.inr (.inr ⟨_, y, rfl, hNm, hy⟩)))))
    · simp [hs] at h
end Go.Proofs.YtfdkklhigliciaaGreatDoor
