/-
  Data with which nothing is wrong, as a tree, plainly: who is above whom; a datum and all below it stand side by side; its parts divide what stands behind it. No program in it.
-/
import Derived.Test.YtoljpgpkeploiaaDoorSpecSubD
namespace Go.Proofs.YtoljpgpkeploiaaDoor
open Go.RowKit Go.Extern.Stop Go.Stop Go.Extern Num Go.Lib

/-- Whether a is met from b up. -/
def inCh (l : List Dat) (a : Nat) : Nat → Int → Prop
  | 0, _ => False
  | f + 1, b => 0 ≤ b ∧ (b = (a : Int) ∨ inCh l a f (par l b.toNat))
/-- a is k, or above it. -/
def Abv (l : List Dat) (a k : Nat) : Prop := ∃ f, inCh l a f (k : Int)
theorem abv_self (l : List Dat) (k : Nat) : Abv l k k := ⟨1, by omega, Or.inl rfl⟩
theorem abv_up {l : List Dat} {a k p : Nat} (hp : par l k = (p : Int)) (h : Abv l a p) : Abv l a k := by
  obtain ⟨f, hf⟩ := h
  refine ⟨f + 1, by omega, Or.inr ?_⟩
  rw [Int.toNat_natCast, hp]; exact hf
theorem abv_inv {l : List Dat} {a k : Nat} (h : Abv l a k) : k = a ∨ ∃ p : Nat, par l k = (p : Int) ∧ Abv l a p := by
  obtain ⟨f, hf⟩ := h
  cases f with
  | zero => exact hf.elim
  | succ f =>
    obtain ⟨_, h | h⟩ := hf
    · left; omega
    · right
      rw [Int.toNat_natCast] at h
      cases f with
      | zero => exact h.elim
      | succ f =>
        obtain ⟨p, hp⟩ := Int.eq_ofNat_of_zero_le h.1
        exact ⟨p, hp, f + 1, by rw [← hp]; exact h⟩
section
variable {l : List Dat}
theorem Fine.parlt (F : Fine l) {k p : Nat} (hk : k < l.length) (hp : par l k = (p : Int)) : p < k := by
  have := (F.parent k hk).1
  rw [par_at l k hk] at hp
  omega
theorem Fine.parneg (F : Fine l) {k : Nat} (hk : k < l.length) (h : ¬ ∃ p : Nat, par l k = (p : Int)) : par l k = -1 := by
  have h2 := (F.parent k hk).2
  rw [par_at l k hk] at h ⊢
  by_cases h0 : 0 ≤ l[k].parent
  · obtain ⟨p, hp⟩ := Int.eq_ofNat_of_zero_le h0
    exact absurd ⟨p, hp⟩ h
  · omega
theorem abv_le (F : Fine l) {a : Nat} : ∀ (k : Nat), k < l.length → Abv l a k → a ≤ k := by
  intro k
  induction k using Nat.strongRecOn with
  | _ k ih =>
    intro hk h
    rcases abv_inv h with h | ⟨p, hp, h⟩
    · omega
    · have hlt := F.parlt hk hp
      have := ih p hlt (by omega) h
      omega
/-- How deep. -/
def dep (l : List Dat) (k : Nat) : Nat := deepF l 100 (k : Int)
theorem deep_fuel (F : Fine l) : ∀ (k : Nat), k < l.length → ∀ f g, k < f → k < g → deepF l f (k : Int) = deepF l g (k : Int) := by
  intro k
  induction k using Nat.strongRecOn with
  | _ k ih =>
    intro hk f g hf hg
    obtain ⟨f', rfl⟩ : ∃ f', f = f' + 1 := ⟨f - 1, by omega⟩
    obtain ⟨g', rfl⟩ : ∃ g', g = g' + 1 := ⟨g - 1, by omega⟩
    rw [deepF_at l f' k hk, deepF_at l g' k hk]
    by_cases h : ∃ p : Nat, par l k = (p : Int)
    · obtain ⟨p, hp⟩ := h
      have hlt := F.parlt hk hp
      rw [par_at l k hk] at hp
      rw [hp, ih p hlt (by omega) f' g' (by omega) (by omega)]
    · have := F.parneg hk h
      rw [par_at l k hk] at this
      rw [this, deepF_neg l _ _ (by omega), deepF_neg l _ _ (by omega)]
theorem dep_par (F : Fine l) {k p : Nat} (hk : k < l.length) (hp : par l k = (p : Int)) : dep l k = dep l p + 1 := by
  have hlt := F.parlt hk hp
  have h80 := F.len
  rw [par_at l k hk] at hp
  unfold dep
  rw [deepF_at l 99 k hk, hp, deep_fuel F p (by omega) 99 100 (by omega) (by omega)]
theorem dep_pos (l : List Dat) {k : Nat} (hk : k < l.length) : 1 ≤ dep l k := by
  unfold dep
  rw [deepF_at l 99 k hk]; omega
theorem abv_dep (F : Fine l) {a : Nat} : ∀ (k : Nat), k < l.length → Abv l a k → k = a ∨ dep l a < dep l k := by
  intro k
  induction k using Nat.strongRecOn with
  | _ k ih =>
    intro hk h
    rcases abv_inv h with h | ⟨p, hp, h⟩
    · exact Or.inl h
    · right
      have hlt := F.parlt hk hp
      have hd := dep_par F hk hp
      rcases ih p hlt (by omega) h with h | h
      · subst h; omega
      · omega
/-- The line: whose part a datum is, is above the one ahead of it, and a list. -/
theorem line_abv : ∀ (f : Nat) (p : Int) (k : Nat), k < l.length → lineF l p f (k : Int) = true → ∃ q : Nat, p = (q : Int) ∧ Abv l q k := by
  intro f
  induction f with
  | zero => intro p k _ h; cases h
  | succ f ih =>
    intro p k hk h
    by_cases he : (k : Int) = p
    · exact ⟨k, he.symm, abv_self l k⟩
    · rw [lineF_on l p f k hk he] at h
      have hpk := par_at l k hk
      by_cases hn : 0 ≤ l[k].parent
      · obtain ⟨j, hj⟩ := Int.eq_ofNat_of_zero_le hn
        rw [hj] at h hpk
        by_cases hjl : j < l.length
        · obtain ⟨q, hq, hab⟩ := ih p j hjl h
          exact ⟨q, hq, abv_up hpk hab⟩
        · exfalso
          cases f with
          | zero => cases h
          | succ f =>
            have h0 : ¬ ((j : Int) < 0) := by omega
            simp only [lineF, if_neg h0, Int.toNat_natCast] at h
            have hnone : l[j]? = none := List.getElem?_eq_none (by omega)
            simp only [hnone, Option.map_none, Option.getD_none] at h
            split at h
            · cases h
            · have : par l j = -1 := by simp [par, hnone]
              rw [this, lineF_neg l p f (-1) (by omega)] at h
              cases h
      · rw [lineF_neg l p f _ (by omega)] at h; cases h
theorem Fine.line (F : Fine l) {k : Nat} (hk : k + 1 < l.length) : ∃ q : Nat, par l (k + 1) = (q : Int) ∧ Abv l q k := by
  have hc := F.ok (k + 1) hk hk
  have h1 : lineB l (k + 1) = true := by
    cases hl : lineB l (k + 1) with
    | true => rfl
    | false =>
      exfalso
      unfold chkD at hc
      have hb : (decide (0 < k + 1) && !(lineB l (k + 1))) = true := by simp [hl]
      rw [hb] at hc
      split at hc
      · cases hc
      · split at hc
        · cases hc
        · split at hc
          · cases hc
          · split at hc
            · cases hc
            · simp at hc
  unfold lineB at h1
  have e : ((k + 1 : Nat) : Int) - 1 = (k : Int) := by omega
  rw [e] at h1
  exact line_abv _ _ k (by omega) h1
/-- Where all that is below a datum ends. -/
def endD (l : List Dat) (a : Nat) : Nat := a + (subD l a).length
/-- What subFrom tells of a run of places. -/
theorem run_of (l : List Dat) (a : Nat) : ∀ (f i : Nat), i ≤ l.length → l.length - i ≤ f → a < i →
    (∀ j, i ≤ j → j < i + (subFrom l a f i).length → j < l.length ∧ dep l a < dep l j) ∧ (i + (subFrom l a f i).length < l.length → dep l (i + (subFrom l a f i).length) ≤ dep l a) ∧ i + (subFrom l a f i).length ≤ l.length := by
  intro f
  induction f with
  | zero =>
    intro i hi hf _
    have : i = l.length := by omega
    refine ⟨fun j h1 h2 => ?_, fun h => ?_, ?_⟩
    · simp [subFrom] at h2; omega
    · simp [subFrom] at h; omega
    · simp [subFrom]; omega
  | succ f ih =>
    intro i hi hf hai
    by_cases h : i < l.length
    · by_cases hd : i = a ∨ deepF l 100 (a : Int) < deepF l 100 (i : Int)
      · rw [subFrom_on l a f i h hd]
        obtain ⟨h1, h2, h3⟩ := ih (i + 1) (by omega) (by omega) (by omega)
        have e : i + (shiftD a i l[i] :: subFrom l a f (i + 1)).length = i + 1 + (subFrom l a f (i + 1)).length := by simp; omega
        rw [e]
        refine ⟨fun j hj1 hj2 => ?_, h2, h3⟩
        by_cases hij : j = i
        · subst hij
          refine ⟨h, ?_⟩
          rcases hd with hd | hd
          · omega
          · exact hd
        · exact h1 j (by omega) hj2
      · rw [subFrom_off l a f i h hd]
        refine ⟨fun j hj1 hj2 => ?_, fun _ => ?_, ?_⟩
        · simp at hj2; omega
        · have : ¬ deepF l 100 (a : Int) < deepF l 100 (i : Int) := fun h => hd (Or.inr h)
          simp only [List.length_nil, Nat.add_zero]
          unfold dep; omega
        · simp; omega
    · rw [subFrom_end l a _ i (by omega)]
      refine ⟨fun j hj1 hj2 => ?_, fun h' => ?_, ?_⟩
      · simp at hj2; omega
      · simp at h'; omega
      · simp; omega
theorem end_facts (l : List Dat) (a : Nat) (ha : a < l.length) : a < endD l a ∧ endD l a ≤ l.length ∧ (∀ j, a < j → j < endD l a → dep l a < dep l j) ∧ (endD l a < l.length → dep l (endD l a) ≤ dep l a) := by
  have hs : ∃ f, l.length = f + 1 := ⟨l.length - 1, by omega⟩
  obtain ⟨f, hf⟩ := hs
  have e : subD l a = shiftD a a l[a] :: subFrom l a f (a + 1) := by
    unfold subD
    rw [hf, subFrom_on l a f a ha (Or.inl rfl)]
  obtain ⟨h1, h2, h3⟩ := run_of l a f (a + 1) (by omega) (by omega) (by omega)
  have e2 : endD l a = a + 1 + (subFrom l a f (a + 1)).length := by unfold endD; rw [e]; simp; omega
  rw [e2]
  exact ⟨by omega, h3, fun j hj1 hj2 => (h1 j (by omega) hj2).2, h2⟩
/-- All between a datum and its end is below it. -/
theorem below_abv (F : Fine l) (a : Nat) (ha : a < l.length) : ∀ j, a ≤ j → j < endD l a → Abv l a j := by
  obtain ⟨h1, h2, h3, h4⟩ := end_facts l a ha
  intro j
  induction j with
  | zero =>
    intro hj _
    have : a = 0 := by omega
    subst this; exact abv_self l 0
  | succ j ih =>
    intro hj he
    by_cases hja : j + 1 = a
    · rw [hja]; exact abv_self l a
    · have hj1 := ih (by omega) (by omega)
      have hjl : j + 1 < l.length := by omega
      obtain ⟨q, hq, hab⟩ := F.line hjl
      -- q is above j, and so is a: one of them is above the other
      have hd := dep_par F hjl hq
      have hdj := h3 (j + 1) (by omega) he
      have key : ∀ (k : Nat), k < l.length → Abv l a k → Abv l q k → dep l a ≤ dep l q → Abv l a q := by
        intro k
        induction k using Nat.strongRecOn with
        | _ k ihk =>
          intro hk hA hQ hdq
          rcases abv_inv hQ with h | ⟨p, hp, hQ'⟩
          · rw [h] at hA; exact hA
          · rcases abv_inv hA with h' | ⟨p', hp', hA'⟩
            · exfalso
              subst h'
              have hlt := F.parlt hk hp
              have := dep_par F hk hp
              rcases abv_dep F p (by omega) hQ' with e | e
              · subst e; omega
              · omega
            · have : p = p' := by omega
              subst this
              exact ihk p (F.parlt hk hp) (by have := F.parlt hk hp; omega) hA' hQ' hdq
      exact abv_up hq (key j (by omega) hj1 hab (by omega))
/-- Nothing behind its end is below a datum. -/
theorem behind_not (F : Fine l) (a : Nat) (ha : a < l.length) : ∀ j, endD l a ≤ j → j < l.length → ¬ Abv l a j := by
  obtain ⟨h1, h2, h3, h4⟩ := end_facts l a ha
  intro j
  induction j using Nat.strongRecOn with
  | _ j ih =>
    intro hj hjl hA
    rcases abv_inv hA with h | ⟨p, hp, hA'⟩
    · omega
    · have hlt := F.parlt hjl hp
      by_cases hpe : endD l a ≤ p
      · exact ih p hlt hpe (by omega) hA'
      · -- the list is below a, yet its part stands behind a's end
        obtain ⟨i, rfl⟩ : ∃ i, j = i + 1 := ⟨j - 1, by omega⟩
        obtain ⟨q, hq, hab⟩ := F.line hjl
        have : q = p := by omega
        subst this
        by_cases hie : endD l a ≤ i
        · -- from i up one comes to q: so a is above i
          have tr : ∀ (k : Nat), k < l.length → Abv l q k → Abv l a k := by
            intro k
            induction k using Nat.strongRecOn with
            | _ k ihk =>
              intro hk hQ
              rcases abv_inv hQ with h | ⟨p, hp', hQ'⟩
              · rw [h]; exact hA'
              · exact abv_up hp' (ihk p (F.parlt hk hp') (by have := F.parlt hk hp'; omega) hQ')
          exact ih i (by omega) hie (by omega) (tr i (by omega) hab)
        · have hje : i + 1 = endD l a := by omega
          have hd := h4 (by omega)
          rw [← hje] at hd
          have hdp := dep_par F hjl hp
          rcases abv_dep F q (by omega) hA' with e | e
          · subst e; omega
          · omega
end
end Go.Proofs.YtoljpgpkeploiaaDoor
namespace Go.Proofs.YtoljpgpkeploiaaDoor
open Go.RowKit Go.Extern.Stop Go.Stop Go.Extern Num Go.Lib

theorem chk_all {l : List Dat} {i : Nat} {t : Dat} (h : chkD l i t = 0) : bareB t = true ∧ rangeBad t = false ∧ symBad t = false ∧ parBad i t.parent = false ∧ (0 < i → lineB l i = true) ∧ deepF l 100 (i : Int) ≤ 12 := by
  unfold chkD at h
  by_cases h1 : bareB t = false
  · rw [if_pos h1] at h; cases h
  rw [if_neg h1] at h
  by_cases h2 : rangeBad t = true
  · rw [if_pos h2] at h; cases h
  rw [if_neg h2] at h
  by_cases h3 : symBad t = true
  · rw [if_pos h3] at h; cases h
  rw [if_neg h3] at h
  by_cases h4 : parBad i t.parent = true
  · rw [if_pos h4] at h; cases h
  rw [if_neg h4] at h
  by_cases h5 : (decide (0 < i) && !(lineB l i)) = true
  · rw [if_pos h5] at h; cases h
  rw [if_neg h5] at h
  by_cases h6 : 12 < deepF l 100 (i : Int)
  · rw [if_pos h6] at h; cases h
  refine ⟨by simpa using h1, by simpa using h2, by simpa using h3, by simpa using h4, fun h0 => ?_, by omega⟩
  cases hb : lineB l i with
  | true => rfl
  | false => exact absurd (by simp [hb, h0]) h5
/-- What a datum is. -/
theorem kindD_cases {t : Dat} (hb : bareB t = true) (hr : rangeBad t = false) (hs : symBad t = false) :
    (t.kind = 1 ∧ inB t.num = true ∧ t.name.data.toList = []) ∨ (t.kind = 2 ∧ (t.num = 0 ∨ t.num = 1) ∧ t.name.data.toList = []) ∨ (t.kind = 3 ∧ t.num = 0 ∧ symL t.name.data.toList = true) ∨ (t.kind = 4 ∧ t.num = 0 ∧ t.name.data.toList = []) := by
  obtain ⟨k, p, n, z⟩ := t
  simp only [bareB, Bool.and_eq_true, decide_eq_true_eq, Bool.or_eq_true, beq_iff_eq] at hb
  obtain ⟨⟨hk, hn⟩, hz⟩ := hb
  have hk4 : k = 1 ∨ k = 2 ∨ k = 3 ∨ k = 4 := by omega
  rcases hk4 with rfl | rfl | rfl | rfl
  · left
    refine ⟨rfl, ?_, ?_⟩
    · simpa [rangeBad] using hr
    · simpa using hz
  · right; left
    refine ⟨rfl, ?_, ?_⟩
    · have : 0 ≤ n ∧ n ≤ 1 := by simpa [rangeBad] using hr
      show n = 0 ∨ n = 1
      omega
    · simpa using hz
  · right; right; left
    refine ⟨rfl, by simpa using hn, by simpa [symBad] using hs⟩
  · right; right; right
    exact ⟨rfl, by simpa using hn, by simpa using hz⟩
section
variable {l : List Dat}
theorem Fine.kinds (F : Fine l) (k : Nat) (hk : k < l.length) : (l[k].kind = 1 ∧ inB l[k].num = true ∧ l[k].name.data.toList = []) ∨ (l[k].kind = 2 ∧ (l[k].num = 0 ∨ l[k].num = 1) ∧ l[k].name.data.toList = []) ∨ (l[k].kind = 3 ∧ l[k].num = 0 ∧ symL l[k].name.data.toList = true) ∨ (l[k].kind = 4 ∧ l[k].num = 0 ∧ l[k].name.data.toList = []) := by
  obtain ⟨h1, h2, h3, _⟩ := chk_all (F.ok k hk hk)
  exact kindD_cases h1 h2 h3
theorem Fine.deep (F : Fine l) (k : Nat) (hk : k < l.length) : dep l k ≤ 12 := (chk_all (F.ok k hk hk)).2.2.2.2.2
theorem Fine.first (F : Fine l) : par l 0 = -1 := by
  have h := F.parent 0 F.pos
  rw [par_at l 0 F.pos]
  omega
/-- All but the first are parts of a list. -/
theorem line_kind : ∀ (f : Nat) (p : Int) (k : Int), lineF l p f k = true → 0 ≤ p ∧ (l[p.toNat]?.map (·.kind)).getD 0 = 4 := by
  intro f
  induction f with
  | zero => intro p k h; cases h
  | succ f ih =>
    intro p k h
    unfold lineF at h
    split at h
    · cases h
    · split at h
      · rename_i h0 h1
        subst h1
        exact ⟨by omega, by simpa using h⟩
      · exact ih p _ h
theorem Fine.list (F : Fine l) {k : Nat} (hk : k < l.length) (h0 : 0 < k) : ∃ (q : Nat) (hq : q < l.length), par l k = (q : Int) ∧ q < k ∧ l[q].kind = 4 := by
  have h1 := (chk_all (F.ok k hk hk)).2.2.2.2.1 h0
  obtain ⟨hp, hkd⟩ := line_kind _ _ _ h1
  obtain ⟨q, hq⟩ := Int.eq_ofNat_of_zero_le hp
  have hlt := F.parlt hk hq
  rw [hq] at hkd
  refine ⟨q, by omega, hq, hlt, ?_⟩
  simpa [show q < l.length by omega] using hkd
theorem abv_trans (F : Fine l) {a p : Nat} (hA : Abv l a p) : ∀ (k : Nat), k < l.length → Abv l p k → Abv l a k := by
  intro k
  induction k using Nat.strongRecOn with
  | _ k ih =>
    intro hk hQ
    rcases abv_inv hQ with h | ⟨q, hq, hQ'⟩
    · rw [h]; exact hA
    · have := F.parlt hk hq
      exact abv_up hq (ih q this (by omega) hQ')
theorem abv_part {a p : Nat} (h : par l p = (a : Int)) : Abv l a p := abv_up h (abv_self l a)
/-- Two parts of one datum: the one ahead ends ahead of the other. -/
theorem parts_apart (F : Fine l) {a p q : Nat} (hp : par l p = (a : Int)) (hq : par l q = (a : Int)) (hpq : p < q) (hql : q < l.length) : endD l p ≤ q := by
  by_cases h : endD l p ≤ q
  · exact h
  · exfalso
    have hA := below_abv F p (by omega) q (by omega) (by omega)
    have hlt := F.parlt (k := p) (by omega) hp
    rcases abv_inv hA with e | ⟨r, hr, hA'⟩
    · omega
    · have : r = a := by omega
      subst this
      have := abv_le F r (by have := F.parlt hql hq; omega) hA'
      omega
/-- A part ends where its list ends, or ahead of it. -/
theorem part_in (F : Fine l) {a p : Nat} (hp : par l p = (a : Int)) (hpl : p < l.length) : a < p ∧ p < endD l a ∧ endD l p ≤ endD l a := by
  have hlt := F.parlt hpl hp
  have hpe : p < endD l a := by
    by_cases h : p < endD l a
    · exact h
    · exact absurd (abv_part hp) (behind_not F a (by omega) p (by omega) hpl)
  refine ⟨hlt, hpe, ?_⟩
  by_cases h : endD l p ≤ endD l a
  · exact h
  · exfalso
    have he := (end_facts l p hpl).2.1
    have hA := below_abv F p hpl (endD l a) (by omega) (by omega)
    exact behind_not F a (by omega) (endD l a) (Nat.le_refl _) (by omega) (abv_trans F (abv_part hp) _ (by omega) hA)
/-- All that is below a datum, is a part of it or below one. -/
theorem abv_via (F : Fine l) {a : Nat} : ∀ (k : Nat), k < l.length → Abv l a k → k ≠ a → ∃ p : Nat, par l p = (a : Int) ∧ p ≤ k ∧ Abv l p k := by
  intro k
  induction k using Nat.strongRecOn with
  | _ k ih =>
    intro hk hA hne
    rcases abv_inv hA with e | ⟨q, hq, hA'⟩
    · exact absurd e hne
    · have hlt := F.parlt hk hq
      by_cases hqa : q = a
      · subst hqa
        exact ⟨k, hq, Nat.le_refl _, abv_self l k⟩
      · obtain ⟨p, hp, hpk, hpA⟩ := ih q hlt (by omega) hA' hqa
        exact ⟨p, hp, by omega, abv_up hq hpA⟩
/-- How much a row of parts takes. -/
def spanL (l : List Dat) (L : List Int) : Nat := (L.map fun p => endD l p.toNat - p.toNat).sum
theorem parts_to_mem (l : List Dat) (a : Int) (k : Nat) (p : Int) : p ∈ partsTo l a k ↔ ∃ j : Nat, p = (j : Int) ∧ j < k ∧ par l j = a := by
  induction k with
  | zero => simp [partsTo]
  | succ k ih =>
    simp only [partsTo]
    split
    · rename_i h
      rw [List.mem_append, ih]
      constructor
      · rintro (⟨j, h1, h2, h3⟩ | h1)
        · exact ⟨j, h1, by omega, h3⟩
        · exact ⟨k, by simpa using h1, by omega, h⟩
      · rintro ⟨j, h1, h2, h3⟩
        by_cases hj : j < k
        · exact Or.inl ⟨j, h1, hj, h3⟩
        · right
          have : j = k := by omega
          subst this; simp [h1]
    · rename_i h
      rw [ih]
      constructor
      · rintro ⟨j, h1, h2, h3⟩; exact ⟨j, h1, by omega, h3⟩
      · rintro ⟨j, h1, h2, h3⟩
        by_cases hj : j < k
        · exact ⟨j, h1, hj, h3⟩
        · have : j = k := by omega
          subst this; exact absurd h3 h
theorem parts_mem (l : List Dat) (a : Int) (p : Int) : p ∈ partsD l a ↔ ∃ j : Nat, p = (j : Int) ∧ j < l.length ∧ par l j = a := parts_to_mem l a l.length p
/-- Up to a place the parts take all there is, and a bit more. -/
theorem span_to (F : Fine l) (a : Nat) (ha : a < l.length) : ∀ k, a + 1 ≤ k → k ≤ endD l a →
    (partsTo l a k = [] ∧ k = a + 1) ∨ (∃ p : Nat, p < k ∧ par l p = (a : Int) ∧ a + 1 + spanL l (partsTo l a k) = endD l p ∧ k ≤ endD l p ∧ ∀ q : Nat, q < k → par l q = (a : Int) → q ≤ p) := by
  obtain ⟨e1, e2, e3, e4⟩ := end_facts l a ha
  intro k
  induction k with
  | zero => intro h _; omega
  | succ k ih =>
    intro hk hke
    by_cases hka : k = a
    · subst hka
      left
      refine ⟨?_, rfl⟩
      have hne : ∀ p, p ∉ partsTo l (k : Int) (k + 1) := by
        intro p hp
        obtain ⟨j, _, hj, hjp⟩ := (parts_to_mem l _ _ _).1 hp
        have := F.parlt (k := j) (by omega) hjp
        omega
      exact List.eq_nil_iff_forall_not_mem.2 hne
    · have hkl : k < l.length := by omega
      right
      rcases ih (by omega) (by omega) with ⟨h1, h2⟩ | ⟨p, hp, hpa, hs, hkp, hmax⟩
      · -- the first part
        have hA := below_abv F a ha k (by omega) (by omega)
        obtain ⟨q, hq, hqk, _⟩ := abv_via F k hkl hA (by omega)
        have := F.parlt (k := q) (by omega) hq
        have hqk' : q = k := by omega
        subst hqk'
        refine ⟨q, by omega, hq, ?_, ?_, fun r hr _ => by omega⟩
        · have := (end_facts l q hkl).1
          simp only [partsTo, if_pos hq, h1, spanL]
          simp
          omega
        · have := (end_facts l q hkl).1
          omega
      · by_cases hkp' : k < endD l p
        · have hno : ¬ par l k = (a : Int) := by
            intro h
            have := parts_apart F hpa h hp hkl
            omega
          refine ⟨p, by omega, hpa, ?_, by omega, fun q hq hqa => ?_⟩
          · simp only [partsTo, if_neg hno]; exact hs
          · by_cases hqk : q < k
            · exact hmax q hqk hqa
            · have : q = k := by omega
              subst this; exact absurd hqa hno
        · have hkE : k = endD l p := by omega
          have hA := below_abv F a ha k (by omega) (by omega)
          obtain ⟨q, hq, hqk, hqA⟩ := abv_via F k hkl hA (by omega)
          have hqk' : q = k := by
            by_cases h : q = k
            · exact h
            · exfalso
              have hqp := hmax q (by omega) hq
              have hin : k < endD l q := by
                by_cases h' : k < endD l q
                · exact h'
                · exact absurd hqA (behind_not F q (by omega) k (by omega) hkl)
              by_cases hqp' : q = p
              · subst hqp'; omega
              · have := parts_apart F hq hpa (by omega) (by omega)
                omega
          subst hqk'
          refine ⟨q, by omega, hq, ?_, ?_, fun r hr _ => by omega⟩
          · have := (end_facts l q hkl).1
            have hs' : spanL l (partsTo l a q ++ [(q : Int)]) = spanL l (partsTo l a q) + (endD l q - q) := by simp [spanL]
            simp only [partsTo, if_pos hq]
            rw [hs']
            omega
          · have := (end_facts l q hkl).1
            omega
theorem parts_stop (F : Fine l) (a : Nat) (ha : a < l.length) : ∀ k, endD l a ≤ k → k ≤ l.length → partsTo l a k = partsTo l a (endD l a) := by
  intro k
  induction k with
  | zero => intro h _; have := (end_facts l a ha).1; omega
  | succ k ih =>
    intro h1 h2
    by_cases he : endD l a = k + 1
    · rw [he]
    · have hno : ¬ par l k = (a : Int) := by
        intro h
        have := part_in F h (by omega)
        omega
      rw [partsTo, if_neg hno]
      exact ih (by omega) (by omega)
/-- The parts of a datum divide what stands behind it. -/
theorem span_all (F : Fine l) (a : Nat) (ha : a < l.length) : a + 1 + spanL l (partsD l a) = endD l a := by
  obtain ⟨e1, e2, e3, e4⟩ := end_facts l a ha
  unfold partsD
  rw [parts_stop F a ha l.length e2 (Nat.le_refl _)]
  rcases span_to F a ha (endD l a) (by omega) (Nat.le_refl _) with ⟨h1, h2⟩ | ⟨p, hp, hpa, hs, hkp, _⟩
  · rw [h1]; simp [spanL]; omega
  · have := (part_in F hpa (by omega)).2.2
    omega
end
end Go.Proofs.YtoljpgpkeploiaaDoor
