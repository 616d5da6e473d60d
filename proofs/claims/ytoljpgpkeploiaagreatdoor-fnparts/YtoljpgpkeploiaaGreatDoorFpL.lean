/-
  Parts of the proof laid into one text, one behind the other; each says at its head what is proved in it.
-/
import Derived.Test.YtoljpgpkeploiaaGreatDoorFpG
import Derived.Lib.Join
import Derived.Test.YtoljpgpkeploiaaGreatDoorFpA
import Derived.Test.YtoljpgpkeploiaaGreatDoorRowKit0
/-
  Data with which nothing is wrong, as a tree, plainly: who is above whom; a datum and all below it stand side by side; its parts divide what stands behind it. No program in it.
-/
namespace Go.Proofs.YtoljpgpkeploiaaGreatDoor
open Go.RowKit Go.Extern.Stop Go.Stop Go.Extern Num Go.Lib

/-- Whether a is met from b up. -/
def inCh (l : List Dat) (a : Nat) : Nat → Int → Prop
  | 0, _ => False
  | f + 1, b => 0 ≤ b ∧ (b = (a : Int) ∨ inCh l a f (par l b.toNat))
/-- a is k, or above it. -/
def Abv (l : List Dat) (a k : Nat) : Prop := ∃ f, inCh l a f (k : Int)
theorem abv_self (l : List Dat) (k : Nat) : Abv l k k := ⟨1, by omega, Or.inl rfl⟩
theorem abv_up {l : List Dat} {a k p : Nat} (hp : par l k = (p : Int)) (h : Abv l a p) : Abv l a k := by
  obtain ⟨f, hf⟩ := h
  refine ⟨f + 1, by omega, Or.inr ?_⟩
  rw [Int.toNat_natCast, hp]; exact hf
theorem abv_inv {l : List Dat} {a k : Nat} (h : Abv l a k) : k = a ∨ ∃ p : Nat, par l k = (p : Int) ∧ Abv l a p := by
  obtain ⟨f, hf⟩ := h
  cases f with
  | zero => exact hf.elim
  | succ f =>
    obtain ⟨_, h | h⟩ := hf
    · left; omega
    · right
      rw [Int.toNat_natCast] at h
      cases f with
      | zero => exact h.elim
      | succ f =>
        obtain ⟨p, hp⟩ := Int.eq_ofNat_of_zero_le h.1
        exact ⟨p, hp, f + 1, by rw [← hp]; exact h⟩
section
variable {l : List Dat}
theorem Fine.parlt (F : Fine l) {k p : Nat} (hk : k < l.length) (hp : par l k = (p : Int)) : p < k := by
  have := (F.parent k hk).1
  rw [par_at l k hk] at hp
  omega
theorem Fine.parneg (F : Fine l) {k : Nat} (hk : k < l.length) (h : ¬ ∃ p : Nat, par l k = (p : Int)) : par l k = -1 := by
  have h2 := (F.parent k hk).2
  rw [par_at l k hk] at h ⊢
  by_cases h0 : 0 ≤ l[k].parent
  · obtain ⟨p, hp⟩ := Int.eq_ofNat_of_zero_le h0
    exact absurd ⟨p, hp⟩ h
  · omega
theorem abv_le (F : Fine l) {a : Nat} : ∀ (k : Nat), k < l.length → Abv l a k → a ≤ k := by
  intro k
  induction k using Nat.strongRecOn with
  | _ k ih =>
    intro hk h
    rcases abv_inv h with h | ⟨p, hp, h⟩
    · omega
    · have hlt := F.parlt hk hp
      have := ih p hlt (by omega) h
      omega
/-- How deep. -/
def dep (l : List Dat) (k : Nat) : Nat := deepF l 100 (k : Int)
theorem deep_fuel (F : Fine l) : ∀ (k : Nat), k < l.length → ∀ f g, k < f → k < g → deepF l f (k : Int) = deepF l g (k : Int) := by
  intro k
  induction k using Nat.strongRecOn with
  | _ k ih =>
    intro hk f g hf hg
    obtain ⟨f', rfl⟩ : ∃ f', f = f' + 1 := ⟨f - 1, by omega⟩
    obtain ⟨g', rfl⟩ : ∃ g', g = g' + 1 := ⟨g - 1, by omega⟩
    rw [deepF_at l f' k hk, deepF_at l g' k hk]
    by_cases h : ∃ p : Nat, par l k = (p : Int)
    · obtain ⟨p, hp⟩ := h
      have hlt := F.parlt hk hp
      rw [par_at l k hk] at hp
      rw [hp, ih p hlt (by omega) f' g' (by omega) (by omega)]
    · have := F.parneg hk h
      rw [par_at l k hk] at this
      rw [this, deepF_neg l _ _ (by omega), deepF_neg l _ _ (by omega)]
theorem dep_par (F : Fine l) {k p : Nat} (hk : k < l.length) (hp : par l k = (p : Int)) : dep l k = dep l p + 1 := by
  have hlt := F.parlt hk hp
  have h80 := F.len
  rw [par_at l k hk] at hp
  unfold dep
  rw [deepF_at l 99 k hk, hp, deep_fuel F p (by omega) 99 100 (by omega) (by omega)]
theorem dep_pos (l : List Dat) {k : Nat} (hk : k < l.length) : 1 ≤ dep l k := by
  unfold dep
  rw [deepF_at l 99 k hk]; omega
theorem abv_dep (F : Fine l) {a : Nat} : ∀ (k : Nat), k < l.length → Abv l a k → k = a ∨ dep l a < dep l k := by
  intro k
  induction k using Nat.strongRecOn with
  | _ k ih =>
    intro hk h
    rcases abv_inv h with h | ⟨p, hp, h⟩
    · exact Or.inl h
    · right
      have hlt := F.parlt hk hp
      have hd := dep_par F hk hp
      rcases ih p hlt (by omega) h with h | h
      · subst h; omega
      · omega
/-- The line: whose part a datum is, is above the one ahead of it, and a list. -/
theorem line_abv : ∀ (f : Nat) (p : Int) (k : Nat), k < l.length → lineF l p f (k : Int) = true → ∃ q : Nat, p = (q : Int) ∧ Abv l q k := by
  intro f
  induction f with
  | zero => intro p k _ h; cases h
  | succ f ih =>
    intro p k hk h
    by_cases he : (k : Int) = p
    · exact ⟨k, he.symm, abv_self l k⟩
    · rw [lineF_on l p f k hk he] at h
      have hpk := par_at l k hk
      by_cases hn : 0 ≤ l[k].parent
      · obtain ⟨j, hj⟩ := Int.eq_ofNat_of_zero_le hn
        rw [hj] at h hpk
        by_cases hjl : j < l.length
        · obtain ⟨q, hq, hab⟩ := ih p j hjl h
          exact ⟨q, hq, abv_up hpk hab⟩
        · exfalso
          cases f with
          | zero => cases h
          | succ f =>
            have h0 : ¬ ((j : Int) < 0) := by omega
            simp only [lineF, if_neg h0, Int.toNat_natCast] at h
            have hnone : l[j]? = none := List.getElem?_eq_none (by omega)
            simp only [hnone, Option.map_none, Option.getD_none] at h
            split at h
            · cases h
            · have : par l j = -1 := by simp [par, hnone]
              rw [this, lineF_neg l p f (-1) (by omega)] at h
              cases h
      · rw [lineF_neg l p f _ (by omega)] at h; cases h
theorem Fine.line (F : Fine l) {k : Nat} (hk : k + 1 < l.length) : ∃ q : Nat, par l (k + 1) = (q : Int) ∧ Abv l q k := by
  have hc := F.ok (k + 1) hk hk
  have h1 : lineB l (k + 1) = true := by
    cases hl : lineB l (k + 1) with
    | true => rfl
    | false =>
      exfalso
      unfold chkD at hc
      have hb : (decide (0 < k + 1) && !(lineB l (k + 1))) = true := by simp [hl]
      rw [hb] at hc
      split at hc
      · cases hc
      · split at hc
        · cases hc
        · split at hc
          · cases hc
          · split at hc
            · cases hc
            · simp at hc
  unfold lineB at h1
  have e : ((k + 1 : Nat) : Int) - 1 = (k : Int) := by omega
  rw [e] at h1
  exact line_abv _ _ k (by omega) h1
/-- Where all that is below a datum ends. -/
def endD (l : List Dat) (a : Nat) : Nat := a + (subD l a).length
/-- What subFrom tells of a run of places. -/
theorem run_of (l : List Dat) (a : Nat) : ∀ (f i : Nat), i ≤ l.length → l.length - i ≤ f → a < i →
    (∀ j, i ≤ j → j < i + (subFrom l a f i).length → j < l.length ∧ dep l a < dep l j) ∧ (i + (subFrom l a f i).length < l.length → dep l (i + (subFrom l a f i).length) ≤ dep l a) ∧ i + (subFrom l a f i).length ≤ l.length := by
  intro f
  induction f with
  | zero =>
    intro i hi hf _
    have : i = l.length := by omega
    refine ⟨fun j h1 h2 => ?_, fun h => ?_, ?_⟩
    · simp [subFrom] at h2; omega
    · simp [subFrom] at h; omega
    · simp [subFrom]; omega
  | succ f ih =>
    intro i hi hf hai
    by_cases h : i < l.length
    · by_cases hd : i = a ∨ deepF l 100 (a : Int) < deepF l 100 (i : Int)
      · rw [subFrom_on l a f i h hd]
        obtain ⟨h1, h2, h3⟩ := ih (i + 1) (by omega) (by omega) (by omega)
        have e : i + (shiftD a i l[i] :: subFrom l a f (i + 1)).length = i + 1 + (subFrom l a f (i + 1)).length := by simp; omega
        rw [e]
        refine ⟨fun j hj1 hj2 => ?_, h2, h3⟩
        by_cases hij : j = i
        · subst hij
          refine ⟨h, ?_⟩
          rcases hd with hd | hd
          · omega
          · exact hd
        · exact h1 j (by omega) hj2
      · rw [subFrom_off l a f i h hd]
        refine ⟨fun j hj1 hj2 => ?_, fun _ => ?_, ?_⟩
        · simp at hj2; omega
        · have : ¬ deepF l 100 (a : Int) < deepF l 100 (i : Int) := fun h => hd (Or.inr h)
          simp only [List.length_nil, Nat.add_zero]
          unfold dep; omega
        · simp; omega
    · rw [subFrom_end l a _ i (by omega)]
      refine ⟨fun j hj1 hj2 => ?_, fun h' => ?_, ?_⟩
      · simp at hj2; omega
      · simp at h'; omega
      · simp; omega
theorem end_facts (l : List Dat) (a : Nat) (ha : a < l.length) : a < endD l a ∧ endD l a ≤ l.length ∧ (∀ j, a < j → j < endD l a → dep l a < dep l j) ∧ (endD l a < l.length → dep l (endD l a) ≤ dep l a) := by
  have hs : ∃ f, l.length = f + 1 := ⟨l.length - 1, by omega⟩
  obtain ⟨f, hf⟩ := hs
  have e : subD l a = shiftD a a l[a] :: subFrom l a f (a + 1) := by
    unfold subD
    rw [hf, subFrom_on l a f a ha (Or.inl rfl)]
  obtain ⟨h1, h2, h3⟩ := run_of l a f (a + 1) (by omega) (by omega) (by omega)
  have e2 : endD l a = a + 1 + (subFrom l a f (a + 1)).length := by unfold endD; rw [e]; simp; omega
  rw [e2]
  exact ⟨by omega, h3, fun j hj1 hj2 => (h1 j (by omega) hj2).2, h2⟩
/-- All between a datum and its end is below it. -/
theorem below_abv (F : Fine l) (a : Nat) (ha : a < l.length) : ∀ j, a ≤ j → j < endD l a → Abv l a j := by
  obtain ⟨h1, h2, h3, h4⟩ := end_facts l a ha
  intro j
  induction j with
  | zero =>
    intro hj _
    have : a = 0 := by omega
    subst this; exact abv_self l 0
  | succ j ih =>
    intro hj he
    by_cases hja : j + 1 = a
    · rw [hja]; exact abv_self l a
    · have hj1 := ih (by omega) (by omega)
      have hjl : j + 1 < l.length := by omega
      obtain ⟨q, hq, hab⟩ := F.line hjl
      -- q is above j, and so is a: one of them is above the other
      have hd := dep_par F hjl hq
      have hdj := h3 (j + 1) (by omega) he
      have key : ∀ (k : Nat), k < l.length → Abv l a k → Abv l q k → dep l a ≤ dep l q → Abv l a q := by
        intro k
        induction k using Nat.strongRecOn with
        | _ k ihk =>
          intro hk hA hQ hdq
          rcases abv_inv hQ with h | ⟨p, hp, hQ'⟩
          · rw [h] at hA; exact hA
          · rcases abv_inv hA with h' | ⟨p', hp', hA'⟩
            · exfalso
              subst h'
              have hlt := F.parlt hk hp
              have := dep_par F hk hp
              rcases abv_dep F p (by omega) hQ' with e | e
              · subst e; omega
              · omega
            · have : p = p' := by omega
              subst this
              exact ihk p (F.parlt hk hp) (by have := F.parlt hk hp; omega) hA' hQ' hdq
      exact abv_up hq (key j (by omega) hj1 hab (by omega))
/-- Nothing behind its end is below a datum. -/
theorem behind_not (F : Fine l) (a : Nat) (ha : a < l.length) : ∀ j, endD l a ≤ j → j < l.length → ¬ Abv l a j := by
  obtain ⟨h1, h2, h3, h4⟩ := end_facts l a ha
  intro j
  induction j using Nat.strongRecOn with
  | _ j ih =>
    intro hj hjl hA
    rcases abv_inv hA with h | ⟨p, hp, hA'⟩
    · omega
    · have hlt := F.parlt hjl hp
      by_cases hpe : endD l a ≤ p
      · exact ih p hlt hpe (by omega) hA'
      · -- the list is below a, yet its part stands behind a's end
        obtain ⟨i, rfl⟩ : ∃ i, j = i + 1 := ⟨j - 1, by omega⟩
        obtain ⟨q, hq, hab⟩ := F.line hjl
        have : q = p := by omega
        subst this
        by_cases hie : endD l a ≤ i
        · -- from i up one comes to q: so a is above i
          have tr : ∀ (k : Nat), k < l.length → Abv l q k → Abv l a k := by
            intro k
            induction k using Nat.strongRecOn with
            | _ k ihk =>
              intro hk hQ
              rcases abv_inv hQ with h | ⟨p, hp', hQ'⟩
              · rw [h]; exact hA'
              · exact abv_up hp' (ihk p (F.parlt hk hp') (by have := F.parlt hk hp'; omega) hQ')
          exact ih i (by omega) hie (by omega) (tr i (by omega) hab)
        · have hje : i + 1 = endD l a := by omega
          have hd := h4 (by omega)
          rw [← hje] at hd
          have hdp := dep_par F hjl hp
          rcases abv_dep F q (by omega) hA' with e | e
          · subst e; omega
          · omega
end
end Go.Proofs.YtoljpgpkeploiaaGreatDoor
namespace Go.Proofs.YtoljpgpkeploiaaGreatDoor
open Go.RowKit Go.Extern.Stop Go.Stop Go.Extern Num Go.Lib

theorem chk_all {l : List Dat} {i : Nat} {t : Dat} (h : chkD l i t = 0) : bareB t = true ∧ rangeBad t = false ∧ symBad t = false ∧ parBad i t.parent = false ∧ (0 < i → lineB l i = true) ∧ deepF l 100 (i : Int) ≤ 12 := by
  unfold chkD at h
  by_cases h1 : bareB t = false
  · rw [if_pos h1] at h; cases h
  rw [if_neg h1] at h
  by_cases h2 : rangeBad t = true
  · rw [if_pos h2] at h; cases h
  rw [if_neg h2] at h
  by_cases h3 : symBad t = true
  · rw [if_pos h3] at h; cases h
  rw [if_neg h3] at h
  by_cases h4 : parBad i t.parent = true
  · rw [if_pos h4] at h; cases h
  rw [if_neg h4] at h
  by_cases h5 : (decide (0 < i) && !(lineB l i)) = true
  · rw [if_pos h5] at h; cases h
  rw [if_neg h5] at h
  by_cases h6 : 12 < deepF l 100 (i : Int)
  · rw [if_pos h6] at h; cases h
  refine ⟨by simpa using h1, by simpa using h2, by simpa using h3, by simpa using h4, fun h0 => ?_, by omega⟩
  cases hb : lineB l i with
  | true => rfl
  | false => exact absurd (by simp [hb, h0]) h5
/-- What a datum is. -/
theorem kindD_cases {t : Dat} (hb : bareB t = true) (hr : rangeBad t = false) (hs : symBad t = false) :
    (t.kind = 1 ∧ inB t.num = true ∧ t.name.data.toList = []) ∨ (t.kind = 2 ∧ (t.num = 0 ∨ t.num = 1) ∧ t.name.data.toList = []) ∨ (t.kind = 3 ∧ t.num = 0 ∧ symL t.name.data.toList = true) ∨ (t.kind = 4 ∧ t.num = 0 ∧ t.name.data.toList = []) := by
  obtain ⟨k, p, n, z⟩ := t
  simp only [bareB, Bool.and_eq_true, decide_eq_true_eq, Bool.or_eq_true, beq_iff_eq] at hb
  obtain ⟨⟨hk, hn⟩, hz⟩ := hb
  have hk4 : k = 1 ∨ k = 2 ∨ k = 3 ∨ k = 4 := by omega
  rcases hk4 with rfl | rfl | rfl | rfl
  · left
    refine ⟨rfl, ?_, ?_⟩
    · simpa [rangeBad] using hr
    · simpa using hz
  · right; left
    refine ⟨rfl, ?_, ?_⟩
    · have : 0 ≤ n ∧ n ≤ 1 := by simpa [rangeBad] using hr
      show n = 0 ∨ n = 1
      omega
    · simpa using hz
  · right; right; left
    refine ⟨rfl, by simpa using hn, by simpa [symBad] using hs⟩
  · right; right; right
    exact ⟨rfl, by simpa using hn, by simpa using hz⟩
section
variable {l : List Dat}
theorem Fine.kinds (F : Fine l) (k : Nat) (hk : k < l.length) : (l[k].kind = 1 ∧ inB l[k].num = true ∧ l[k].name.data.toList = []) ∨ (l[k].kind = 2 ∧ (l[k].num = 0 ∨ l[k].num = 1) ∧ l[k].name.data.toList = []) ∨ (l[k].kind = 3 ∧ l[k].num = 0 ∧ symL l[k].name.data.toList = true) ∨ (l[k].kind = 4 ∧ l[k].num = 0 ∧ l[k].name.data.toList = []) := by
  obtain ⟨h1, h2, h3, _⟩ := chk_all (F.ok k hk hk)
  exact kindD_cases h1 h2 h3
theorem Fine.deep (F : Fine l) (k : Nat) (hk : k < l.length) : dep l k ≤ 12 := (chk_all (F.ok k hk hk)).2.2.2.2.2
theorem Fine.first (F : Fine l) : par l 0 = -1 := by
  have h := F.parent 0 F.pos
  rw [par_at l 0 F.pos]
  omega
/-- All but the first are parts of a list. -/
theorem line_kind : ∀ (f : Nat) (p : Int) (k : Int), lineF l p f k = true → 0 ≤ p ∧ (l[p.toNat]?.map (·.kind)).getD 0 = 4 := by
  intro f
  induction f with
  | zero => intro p k h; cases h
  | succ f ih =>
    intro p k h
    unfold lineF at h
    split at h
    · cases h
    · split at h
      · rename_i h0 h1
        subst h1
        exact ⟨by omega, by simpa using h⟩
      · exact ih p _ h
theorem Fine.list (F : Fine l) {k : Nat} (hk : k < l.length) (h0 : 0 < k) : ∃ (q : Nat) (hq : q < l.length), par l k = (q : Int) ∧ q < k ∧ l[q].kind = 4 := by
  have h1 := (chk_all (F.ok k hk hk)).2.2.2.2.1 h0
  obtain ⟨hp, hkd⟩ := line_kind _ _ _ h1
  obtain ⟨q, hq⟩ := Int.eq_ofNat_of_zero_le hp
  have hlt := F.parlt hk hq
  rw [hq] at hkd
  refine ⟨q, by omega, hq, hlt, ?_⟩
  simpa [show q < l.length by omega] using hkd
theorem abv_trans (F : Fine l) {a p : Nat} (hA : Abv l a p) : ∀ (k : Nat), k < l.length → Abv l p k → Abv l a k := by
  intro k
  induction k using Nat.strongRecOn with
  | _ k ih =>
    intro hk hQ
    rcases abv_inv hQ with h | ⟨q, hq, hQ'⟩
    · rw [h]; exact hA
    · have := F.parlt hk hq
      exact abv_up hq (ih q this (by omega) hQ')
theorem abv_part {a p : Nat} (h : par l p = (a : Int)) : Abv l a p := abv_up h (abv_self l a)
/-- Two parts of one datum: the one ahead ends ahead of the other. -/
theorem parts_apart (F : Fine l) {a p q : Nat} (hp : par l p = (a : Int)) (hq : par l q = (a : Int)) (hpq : p < q) (hql : q < l.length) : endD l p ≤ q := by
  by_cases h : endD l p ≤ q
  · exact h
  · exfalso
    have hA := below_abv F p (by omega) q (by omega) (by omega)
    have hlt := F.parlt (k := p) (by omega) hp
    rcases abv_inv hA with e | ⟨r, hr, hA'⟩
    · omega
    · have : r = a := by omega
      subst this
      have := abv_le F r (by have := F.parlt hql hq; omega) hA'
      omega
/-- A part ends where its list ends, or ahead of it. -/
theorem part_in (F : Fine l) {a p : Nat} (hp : par l p = (a : Int)) (hpl : p < l.length) : a < p ∧ p < endD l a ∧ endD l p ≤ endD l a := by
  have hlt := F.parlt hpl hp
  have hpe : p < endD l a := by
    by_cases h : p < endD l a
    · exact h
    · exact absurd (abv_part hp) (behind_not F a (by omega) p (by omega) hpl)
  refine ⟨hlt, hpe, ?_⟩
  by_cases h : endD l p ≤ endD l a
  · exact h
  · exfalso
    have he := (end_facts l p hpl).2.1
    have hA := below_abv F p hpl (endD l a) (by omega) (by omega)
    exact behind_not F a (by omega) (endD l a) (Nat.le_refl _) (by omega) (abv_trans F (abv_part hp) _ (by omega) hA)
/-- All that is below a datum, is a part of it or below one. -/
theorem abv_via (F : Fine l) {a : Nat} : ∀ (k : Nat), k < l.length → Abv l a k → k ≠ a → ∃ p : Nat, par l p = (a : Int) ∧ p ≤ k ∧ Abv l p k := by
  intro k
  induction k using Nat.strongRecOn with
  | _ k ih =>
    intro hk hA hne
    rcases abv_inv hA with e | ⟨q, hq, hA'⟩
    · exact absurd e hne
    · have hlt := F.parlt hk hq
      by_cases hqa : q = a
      · subst hqa
        exact ⟨k, hq, Nat.le_refl _, abv_self l k⟩
      · obtain ⟨p, hp, hpk, hpA⟩ := ih q hlt (by omega) hA' hqa
        exact ⟨p, hp, by omega, abv_up hq hpA⟩
/-- How much a row of parts takes. -/
def spanL (l : List Dat) (L : List Int) : Nat := (L.map fun p => endD l p.toNat - p.toNat).sum
theorem parts_to_mem (l : List Dat) (a : Int) (k : Nat) (p : Int) : p ∈ partsTo l a k ↔ ∃ j : Nat, p = (j : Int) ∧ j < k ∧ par l j = a := by
  induction k with
  | zero => simp [partsTo]
  | succ k ih =>
    simp only [partsTo]
    split
    · rename_i h
      rw [List.mem_append, ih]
      constructor
      · rintro (⟨j, h1, h2, h3⟩ | h1)
        · exact ⟨j, h1, by omega, h3⟩
        · exact ⟨k, by simpa using h1, by omega, h⟩
      · rintro ⟨j, h1, h2, h3⟩
        by_cases hj : j < k
        · exact Or.inl ⟨j, h1, hj, h3⟩
        · right
          have : j = k := by omega
          subst this; simp [h1]
    · rename_i h
      rw [ih]
      constructor
      · rintro ⟨j, h1, h2, h3⟩; exact ⟨j, h1, by omega, h3⟩
      · rintro ⟨j, h1, h2, h3⟩
        by_cases hj : j < k
        · exact ⟨j, h1, hj, h3⟩
        · have : j = k := by omega
          subst this; exact absurd h3 h
theorem parts_mem (l : List Dat) (a : Int) (p : Int) : p ∈ partsD l a ↔ ∃ j : Nat, p = (j : Int) ∧ j < l.length ∧ par l j = a := parts_to_mem l a l.length p
/-- Up to a place the parts take all there is, and a bit more. -/
theorem span_to (F : Fine l) (a : Nat) (ha : a < l.length) : ∀ k, a + 1 ≤ k → k ≤ endD l a →
    (partsTo l a k = [] ∧ k = a + 1) ∨ (∃ p : Nat, p < k ∧ par l p = (a : Int) ∧ a + 1 + spanL l (partsTo l a k) = endD l p ∧ k ≤ endD l p ∧ ∀ q : Nat, q < k → par l q = (a : Int) → q ≤ p) := by
  obtain ⟨e1, e2, e3, e4⟩ := end_facts l a ha
  intro k
  induction k with
  | zero => intro h _; omega
  | succ k ih =>
    intro hk hke
    by_cases hka : k = a
    · subst hka
      left
      refine ⟨?_, rfl⟩
      have hne : ∀ p, p ∉ partsTo l (k : Int) (k + 1) := by
        intro p hp
        obtain ⟨j, _, hj, hjp⟩ := (parts_to_mem l _ _ _).1 hp
        have := F.parlt (k := j) (by omega) hjp
        omega
      exact List.eq_nil_iff_forall_not_mem.2 hne
    · have hkl : k < l.length := by omega
      right
      rcases ih (by omega) (by omega) with ⟨h1, h2⟩ | ⟨p, hp, hpa, hs, hkp, hmax⟩
      · -- the first part
        have hA := below_abv F a ha k (by omega) (by omega)
        obtain ⟨q, hq, hqk, _⟩ := abv_via F k hkl hA (by omega)
        have := F.parlt (k := q) (by omega) hq
        have hqk' : q = k := by omega
        subst hqk'
        refine ⟨q, by omega, hq, ?_, ?_, fun r hr _ => by omega⟩
        · have := (end_facts l q hkl).1
          simp only [partsTo, if_pos hq, h1, spanL]
          simp
          omega
        · have := (end_facts l q hkl).1
          omega
      · by_cases hkp' : k < endD l p
        · have hno : ¬ par l k = (a : Int) := by
            intro h
            have := parts_apart F hpa h hp hkl
            omega
          refine ⟨p, by omega, hpa, ?_, by omega, fun q hq hqa => ?_⟩
          · simp only [partsTo, if_neg hno]; exact hs
          · by_cases hqk : q < k
            · exact hmax q hqk hqa
            · have : q = k := by omega
              subst this; exact absurd hqa hno
        · have hkE : k = endD l p := by omega
          have hA := below_abv F a ha k (by omega) (by omega)
          obtain ⟨q, hq, hqk, hqA⟩ := abv_via F k hkl hA (by omega)
          have hqk' : q = k := by
            by_cases h : q = k
            · exact h
            · exfalso
              have hqp := hmax q (by omega) hq
              have hin : k < endD l q := by
                by_cases h' : k < endD l q
                · exact h'
                · exact absurd hqA (behind_not F q (by omega) k (by omega) hkl)
              by_cases hqp' : q = p
              · subst hqp'; omega
              · have := parts_apart F hq hpa (by omega) (by omega)
                omega
          subst hqk'
          refine ⟨q, by omega, hq, ?_, ?_, fun r hr _ => by omega⟩
          · have := (end_facts l q hkl).1
            have hs' : spanL l (partsTo l a q ++ [(q : Int)]) = spanL l (partsTo l a q) + (endD l q - q) := by simp [spanL]
            simp only [partsTo, if_pos hq]
            rw [hs']
            omega
          · have := (end_facts l q hkl).1
            omega
theorem parts_stop (F : Fine l) (a : Nat) (ha : a < l.length) : ∀ k, endD l a ≤ k → k ≤ l.length → partsTo l a k = partsTo l a (endD l a) := by
  intro k
  induction k with
  | zero => intro h _; have := (end_facts l a ha).1; omega
  | succ k ih =>
    intro h1 h2
    by_cases he : endD l a = k + 1
    · rw [he]
    · have hno : ¬ par l k = (a : Int) := by
        intro h
        have := part_in F h (by omega)
        omega
      rw [partsTo, if_neg hno]
      exact ih (by omega) (by omega)
/-- The parts of a datum divide what stands behind it. -/
theorem span_all (F : Fine l) (a : Nat) (ha : a < l.length) : a + 1 + spanL l (partsD l a) = endD l a := by
  obtain ⟨e1, e2, e3, e4⟩ := end_facts l a ha
  unfold partsD
  rw [parts_stop F a ha l.length e2 (Nat.le_refl _)]
  rcases span_to F a ha (endD l a) (by omega) (Nat.le_refl _) with ⟨h1, h2⟩ | ⟨p, hp, hpa, hs, hkp, _⟩
  · rw [h1]; simp [spanL]; omega
  · have := (part_in F hpa (by omega)).2.2
    omega
end
end Go.Proofs.YtoljpgpkeploiaaGreatDoor
/-
  The text of data, plainly, and its length. No program in it.
-/
namespace Go.Proofs.YtoljpgpkeploiaaGreatDoor
open Go.RowKit Go.Extern.Stop Go.Stop Go.Extern Num Go.Lib

/-- The text of a datum with no parts. -/
def leafT (t : Dat) : List UInt8 := if t.kind = 1 then itoa t.num else if t.kind = 2 then (if t.num = 0 then [35, 102] else [35, 116]) else t.name.data.toList
/-- Texts with a blank between. -/
def joinP (W : Nat → List UInt8) (L : List Int) : List UInt8 := Lib.join (L.map fun p => W p.toNat) [32]
theorem joinP_nil (W : Nat → List UInt8) : joinP W [] = [] := rfl
theorem joinP_one (W : Nat → List UInt8) (p : Int) : joinP W [p] = W p.toNat := by simp [joinP, join_one]
theorem joinP_next (W : Nat → List UInt8) (L : List Int) (p : Int) (h : L ≠ []) : joinP W (L ++ [p]) = joinP W L ++ ([32] ++ W p.toNat) := by
  cases L with
  | nil => exact absurd rfl h
  | cons a r =>
    simp only [joinP, List.cons_append, List.map_cons, List.map_append, List.map_nil, join_cons, List.append_assoc]
    simp [joinTail]
theorem ints_next (L : List Int) (k : Nat) (h : k < L.length) : L.take (k + 1) = L.take k ++ [L[k]] := by
  rw [List.take_add_one, List.getElem?_eq_getElem h]; rfl
theorem joinP_take0 (W : Nat → List UInt8) (L : List Int) (h : 0 < L.length) : joinP W (L.take (0 + 1)) = joinP W (L.take 0) ++ W (L[0]).toNat := by
  rw [ints_next L 0 h]
  simp [joinP_one, joinP_nil]
theorem joinP_take (W : Nat → List UInt8) (L : List Int) (k : Nat) (h : k < L.length) (hk : 0 < k) : joinP W (L.take (k + 1)) = joinP W (L.take k) ++ ([32] ++ W (L[k]).toNat) := by
  rw [ints_next L k h]
  refine joinP_next W _ _ ?_
  intro e
  have := congrArg List.length e
  rw [List.length_take, List.length_nil] at this
  omega
theorem jt_append (a b : List (List UInt8)) : joinTail [32] (a ++ b) = joinTail [32] a ++ joinTail [32] b := by simp [joinTail]
theorem joinP_take_len (W : Nat → List UInt8) (L : List Int) : ∀ k, k ≤ L.length → (joinP W (L.take k)).length ≤ (joinP W L).length := by
  intro k hk
  cases L with
  | nil => simp
  | cons a r =>
    cases k with
    | zero => simp [joinP_nil]
    | succ k =>
      have e : (a :: r).take (k + 1) = a :: r.take k := rfl
      rw [e]
      simp only [joinP, List.map_cons, join_cons, List.length_append]
      have h2 : r.map (fun p => W p.toNat) = (r.take k).map (fun p => W p.toNat) ++ (r.drop k).map (fun p => W p.toNat) := by rw [← List.map_append, List.take_append_drop]
      have h3 : (joinTail [32] (r.map fun p => W p.toNat)).length = (joinTail [32] ((r.take k).map fun p => W p.toNat)).length + (joinTail [32] ((r.drop k).map fun p => W p.toNat)).length := by
        rw [h2, jt_append, List.length_append]
      omega
/-- The text of the datum at a place; fuel as many as stand from there on. -/
def writeF (l : List Dat) : Nat → Nat → List UInt8
  | 0, _ => []
  | f + 1, a => if (l[a]?.map (·.kind)).getD 0 = 4 then [40] ++ joinP (fun p => writeF l f p) (partsD l (a : Int)) ++ [41] else ((l[a]?).map leafT).getD []
theorem write_list (l : List Dat) (f a : Nat) (h : a < l.length) (hk : l[a].kind = 4) : writeF l (f + 1) a = [40] ++ joinP (writeF l f) (partsD l (a : Int)) ++ [41] := by
  simp only [writeF, List.getElem?_eq_getElem h, Option.map_some, Option.getD_some, if_pos hk]
theorem write_leaf (l : List Dat) (f a : Nat) (h : a < l.length) (hk : l[a].kind ≠ 4) : writeF l (f + 1) a = leafT l[a] := by
  simp only [writeF, List.getElem?_eq_getElem h, Option.map_some, Option.getD_some, if_neg hk]
theorem leaf_len {l : List Dat} (F : Fine l) (a : Nat) (h : a < l.length) (hk : l[a].kind ≠ 4) : (leafT l[a]).length ≤ 12 := by
  rcases F.kinds a h with ⟨h1, h2, _⟩ | ⟨h1, h2, _⟩ | ⟨h1, _, h2⟩ | ⟨h1, _⟩
  · have := itoa_len _ h2
    simp [leafT, h1]; omega
  · rcases h2 with h2 | h2 <;> simp [leafT, h1, h2]
  · simp only [symL, Bool.and_eq_true, decide_eq_true_eq] at h2
    simp only [leafT, h1]
    simp
    have := h2.2.2
    simpa using this
  · exact absurd h1 hk
theorem parts_len {l : List Dat} (F : Fine l) (W : Nat → List UInt8) (hW : ∀ p, p < l.length → (W p).length + 1 ≤ 20 * (endD l p - p)) (a : Nat) : ∀ k, k ≤ l.length →
    partsTo l (a : Int) k = [] ∨ (partsTo l (a : Int) k ≠ [] ∧ ∃ p : Nat, p < k ∧ par l p = (a : Int) ∧ (joinP W (partsTo l (a : Int) k)).length + 1 ≤ 20 * (endD l p - (a + 1))) := by
  intro k
  induction k with
  | zero => intro _; exact Or.inl rfl
  | succ k ih =>
    intro hk
    have hkl : k < l.length := by omega
    simp only [partsTo]
    by_cases hp : par l k = (a : Int)
    · rw [if_pos hp]
      right
      have hlt := (part_in F hp hkl).1
      have hek := (end_facts l k hkl).1
      have hw := hW k hkl
      refine ⟨by simp, k, by omega, hp, ?_⟩
      rcases ih (by omega) with h | ⟨hne, p, hpk, hpa, hlen⟩
      · rw [h]
        simp only [List.nil_append, joinP_one, Int.toNat_natCast]
        omega
      · rw [joinP_next W _ _ hne]
        have := parts_apart F hpa hp hpk hkl
        have hpl := (part_in F hpa (by omega)).1
        have hpe := (end_facts l p (by omega)).1
        simp only [List.length_append, Int.toNat_natCast, List.length_cons, List.length_nil]
        omega
    · rw [if_neg hp]
      rcases ih (by omega) with h | ⟨hne, p, hpk, hpa, hlen⟩
      · exact Or.inl h
      · exact Or.inr ⟨hne, p, by omega, hpa, hlen⟩
theorem write_len {l : List Dat} (F : Fine l) : ∀ (f a : Nat), a < l.length → (writeF l f a).length + 1 ≤ 20 * (endD l a - a) := by
  intro f
  induction f with
  | zero => intro a ha; have := (end_facts l a ha).1; simp [writeF]; omega
  | succ f ih =>
    intro a ha
    have he := (end_facts l a ha).1
    by_cases hk : l[a].kind = 4
    · rw [write_list l f a ha hk]
      rcases parts_len F (writeF l f) ih a l.length (Nat.le_refl _) with h | ⟨_, p, hpk, hpa, hlen⟩
      · have : partsD l (a : Int) = [] := h
        rw [this, joinP_nil]
        simp; omega
      · have hi := part_in F hpa hpk
        have : (joinP (writeF l f) (partsD l (a : Int))).length + 1 ≤ 20 * (endD l p - (a + 1)) := hlen
        simp only [List.length_append, List.length_cons, List.length_nil]
        omega
    · rw [write_leaf l f a ha hk]
      have := leaf_len F a ha hk
      omega
theorem write_small {l : List Dat} (F : Fine l) (f a : Nat) (ha : a < l.length) : (writeF l f a).length ≤ 1600 := by
  have := write_len F f a ha
  have := (end_facts l a ha).2.1
  have := F.len
  omega
end Go.Proofs.YtoljpgpkeploiaaGreatDoor
/-
  What is told of data where each one begins and ends, and the text that is written along it. No program in it.
-/
namespace Go.Proofs.YtoljpgpkeploiaaGreatDoor
open Go.RowKit Go.Extern.Stop Go.Stop Go.Extern Num Go.Lib

/-- The places below a place as they begin and end; fuel as many as stand from there on. -/
def evF (l : List Dat) : Nat → Nat → List (Int × Bool)
  | 0, _ => []
  | f + 1, a => [((a : Int), true)] ++ (partsD l (a : Int)).flatMap (fun p => evF l f p.toNat) ++ [((a : Int), false)]
/-- The blank ahead of a datum: none where it stands right behind what it is part of. -/
def spT (l : List Dat) (k : Nat) : List UInt8 := if par l k = (k : Int) - 1 then [] else [32]
/-- What is written at one place. -/
def stepT (l : List Dat) (x : Int × Bool) : List UInt8 :=
  if x.2 then spT l x.1.toNat ++ (if (l[x.1.toNat]?.map (·.kind)).getD 0 = 4 then [40] else ((l[x.1.toNat]?).map leafT).getD []) else if (l[x.1.toNat]?.map (·.kind)).getD 0 = 4 then [41] else []
def evT (l : List Dat) (e : List (Int × Bool)) : List UInt8 := e.flatMap (stepT l)
theorem evT_append (l : List Dat) (a b : List (Int × Bool)) : evT l (a ++ b) = evT l a ++ evT l b := by simp [evT]
theorem evT_one (l : List Dat) (x : Int × Bool) : evT l [x] = stepT l x := by simp [evT]
theorem evT_flat (l : List Dat) (f : Nat) (L : List Int) : evT l (L.flatMap fun p => evF l f p.toNat) = L.flatMap fun p => evT l (evF l f p.toNat) := by
  induction L with
  | nil => rfl
  | cons p r ih => simp only [List.flatMap_cons, evT_append, ih]
theorem leaf_parts {l : List Dat} (F : Fine l) (a : Nat) (ha : a < l.length) (hk : l[a].kind ≠ 4) : partsD l (a : Int) = [] := by
  cases h : partsD l (a : Int) with
  | nil => rfl
  | cons p r =>
    exfalso
    have hp : p ∈ partsD l (a : Int) := by rw [h]; exact List.mem_cons_self
    obtain ⟨j, rfl, hj, hpar⟩ := (parts_mem l _ _).1 hp
    have hlt := F.parlt hj hpar
    obtain ⟨q, hq, hq2, _, hk4⟩ := F.list hj (by omega)
    rw [hpar] at hq2
    have : q = a := by omega
    subst this
    exact hk hk4
theorem first_part {l : List Dat} (F : Fine l) {a k : Nat} (hk : k < l.length) (hp : par l k = (a : Int)) (h : partsTo l (a : Int) k = []) : k = a + 1 := by
  have hi := part_in F hp hk
  by_cases e : k = a + 1
  · exact e
  · exfalso
    have ha1 : a + 1 < endD l a := by omega
    have hel := (end_facts l a (by omega)).2.1
    rcases abv_inv (below_abv F a (by omega) (a + 1) (by omega) ha1) with e' | ⟨p, hp', hA⟩
    · omega
    · have h1 := F.parlt (by omega : a + 1 < l.length) hp'
      have h2 := abv_le F p (by omega) hA
      have : p = a := by omega
      subst this
      have := (parts_to_mem l (p : Int) k ((p + 1 : Nat) : Int)).2 ⟨p + 1, rfl, by omega, hp'⟩
      rw [h] at this
      cases this
theorem flat_to {l : List Dat} (F : Fine l) (W : Nat → List UInt8) (a : Nat) : ∀ k, k ≤ l.length → ((partsTo l (a : Int) k).flatMap fun p => spT l p.toNat ++ W p.toNat) = joinP W (partsTo l (a : Int) k)
  | 0, _ => rfl
  | k + 1, hk => by
    have ih := flat_to F W a k (by omega)
    simp only [partsTo]
    by_cases hp : par l k = (a : Int)
    · rw [if_pos hp]
      simp only [List.flatMap_append, List.flatMap_cons, List.flatMap_nil, List.append_nil, Int.toNat_natCast]
      rw [ih]
      by_cases h0 : partsTo l (a : Int) k = []
      · have e := first_part F (by omega) hp h0
        rw [h0, joinP_nil, List.nil_append, List.nil_append, joinP_one]
        have : spT l k = [] := by unfold spT; rw [if_pos (by rw [hp]; omega)]
        rw [this]; simp
      · rw [joinP_next W _ _ h0]
        have : spT l k = [32] := by
          unfold spT
          rw [if_neg]
          intro e
          rw [hp] at e
          obtain ⟨p, r, hpr⟩ : ∃ p r, partsTo l (a : Int) k = p :: r := by
            cases h : partsTo l (a : Int) k with
            | nil => exact absurd h h0
            | cons p r => exact ⟨p, r, rfl⟩
          obtain ⟨j, _, hj, hpj⟩ := (parts_to_mem l (a : Int) k p).1 (by rw [hpr]; exact List.mem_cons_self)
          have := F.parlt (by omega : j < l.length) hpj
          omega
        rw [this]; simp
    · rw [if_neg hp]
      exact ih
theorem evT_all {l : List Dat} (F : Fine l) : ∀ (f a : Nat), a < l.length → l.length ≤ a + f → evT l (evF l f a) = spT l a ++ writeF l f a
  | 0, a, ha, hf => by omega
  | f + 1, a, ha, hf => by
    have ih : ∀ p : Nat, a < p → p < l.length → evT l (evF l f p) = spT l p ++ writeF l f p := fun p h1 h2 => evT_all F f p h2 (by omega)
    simp only [evF, evT_append, evT_one, evT_flat]
    by_cases hk : l[a].kind = 4
    · rw [write_list l f a ha hk]
      have e : ((partsD l (a : Int)).flatMap fun p => evT l (evF l f p.toNat)) = (partsD l (a : Int)).flatMap fun p => spT l p.toNat ++ writeF l f p.toNat := by
        rw [List.flatMap_def, List.flatMap_def]
        congr 1
        refine List.map_congr_left fun p hp => ?_
        obtain ⟨j, rfl, hj, hpar⟩ := (parts_mem l _ _).1 hp
        have := F.parlt hj hpar
        exact ih j this hj
      rw [e, show ((partsD l (a : Int)).flatMap fun p => spT l p.toNat ++ writeF l f p.toNat) = joinP (writeF l f) (partsD l (a : Int)) from flat_to F (writeF l f) a l.length (Nat.le_refl _)]
      simp [stepT, hk, ha]
    · rw [write_leaf l f a ha hk, leaf_parts F a ha hk]
      simp [stepT, hk, ha]
theorem evT_whole {l : List Dat} (F : Fine l) (h : 0 < l.length) : evT l (evF l l.length 0) = writeF l l.length 0 := by
  rw [evT_all F l.length 0 h (by omega)]
  have : spT l 0 = [] := by unfold spT; rw [if_pos (by rw [F.first]; rfl)]
  rw [this]; rfl
end Go.Proofs.YtoljpgpkeploiaaGreatDoor
/-
  The model's l3Write and WriteData: the text of data; nothing that was there is turned.
-/
namespace Go.Proofs.YtoljpgpkeploiaaGreatDoor
open Go.RowKit Go.Extern.Stop Go.Stop Go.Extern Num Go.Lib

theorem wr_num (g cap a : Nat) (l : List Dat) (w : World) (ha : a < l.length) (hR : RowD w g l) (hk : l[a].kind = 1) (hn : inB l[a].num = true) :
    Calls Tryz.prog 19 #[.slice (some ⟨g, 0, none⟩) l.length cap, .int .i64 (a : Int)] w fun e w' => e = .returned (S (itoa l[a].num)) ∧ Below w.heap.size w w' := by
  obtain ⟨c0, c1, c2, c3⟩ := hR a ha
  rw [hk] at c0
  generalize l[a].num = n at c2 hn ⊢
  have HD : Hid (∀ w, Calls Tryz.prog 38 #[.int .i64 n] w fun e w' => e = .returned (S (itoa n)) ∧ Below w.heap.size w w') := fun w => l1Digits_any n w hn
  clear hn hR hk
  go_enter Tryz.func19, Tryz.ntmps19
  go_wp2_with (go_at_call 38; refine (HD.out _).mono ?_; rintro e w1 ⟨rfl, hq⟩)
  go_ret
  exact ⟨rfl, hq⟩
theorem wr_no (g cap a : Nat) (l : List Dat) (w : World) (ha : a < l.length) (hR : RowD w g l) (hk : l[a].kind = 2) (hn : l[a].num = 0) :
    Calls Tryz.prog 19 #[.slice (some ⟨g, 0, none⟩) l.length cap, .int .i64 (a : Int)] w fun e w' => e = .returned (.string ⟨#[35, 102]⟩) ∧ Below w.heap.size w w' := by
  obtain ⟨c0, c1, c2, c3⟩ := hR a ha
  rw [hk] at c0
  rw [hn] at c2
  have hb : g < w.heap.size := lt_of_cell c0
  clear hn hR hk
  go_enter Tryz.func19, Tryz.ntmps19
  go_wp2
  go_ret
  exact ⟨rfl, (Below.refl _ _).alloc (Nat.le_refl _) _⟩
theorem wr_yes (g cap a : Nat) (l : List Dat) (w : World) (ha : a < l.length) (hR : RowD w g l) (hk : l[a].kind = 2) (hn : l[a].num = 1) :
    Calls Tryz.prog 19 #[.slice (some ⟨g, 0, none⟩) l.length cap, .int .i64 (a : Int)] w fun e w' => e = .returned (.string ⟨#[35, 116]⟩) ∧ Below w.heap.size w w' := by
  obtain ⟨c0, c1, c2, c3⟩ := hR a ha
  rw [hk] at c0
  rw [hn] at c2
  have hb : g < w.heap.size := lt_of_cell c0
  clear hn hR hk
  go_enter Tryz.func19, Tryz.ntmps19
  go_wp2
  go_ret
  exact ⟨rfl, (Below.refl _ _).alloc (Nat.le_refl _) _⟩
theorem wr_sym (g cap a : Nat) (l : List Dat) (w : World) (ha : a < l.length) (hR : RowD w g l) (hk : l[a].kind = 3) :
    Calls Tryz.prog 19 #[.slice (some ⟨g, 0, none⟩) l.length cap, .int .i64 (a : Int)] w fun e w' => e = .returned (.string l[a].name) ∧ Below w.heap.size w w' := by
  obtain ⟨c0, c1, c2, c3⟩ := hR a ha
  rw [hk] at c0
  clear hR hk
  go_enter Tryz.func19, Tryz.ntmps19
  go_wp2
  go_ret
  exact ⟨rfl, Below.refl _ _⟩
set_option maxRecDepth 100000 in
set_option maxHeartbeats 2000000 in
theorem wr_list (g cap a : Nat) (l : List Dat) (L : List Int) (W : Nat → List UInt8) (w : World) (ha : a < l.length) (hR : RowD w g l) (hk : l[a].kind = 4) (hL : L.length ≤ 80)
    (hlen : (joinP W L).length ≤ 1600) (hlW : ∀ (k : Nat) (h : k < L.length), (W (L[k]).toNat).length ≤ 1600)
    (hP : Calls Tryz.prog 39 #[.slice (some ⟨g, 0, none⟩) l.length cap, .int .i64 (a : Int)] w fun e w' => ∃ q c, e = .returned (.slice (some ⟨q, 0, none⟩) L.length c) ∧ w'.ownsRow w.heap.size 2 1 (.slice (some ⟨q, 0, none⟩) L.length c) L.length (cellsI L) ∧ Below w.heap.size w w')
    (hW : ∀ (k : Nat) (h : k < L.length) (w' : World), RowD w' g l → Calls Tryz.prog 19 #[.slice (some ⟨g, 0, none⟩) l.length cap, .int .i64 L[k]] w' fun e w'' => e = .returned (S (W (L[k]).toNat)) ∧ Below w'.heap.size w' w'') :
    Calls Tryz.prog 19 #[.slice (some ⟨g, 0, none⟩) l.length cap, .int .i64 (a : Int)] w fun e w' => e = .returned (S ([40] ++ joinP W L ++ [41])) ∧ Below w.heap.size w w' := by
  have HR : Hid (RowD w g l) := hR
  obtain ⟨c0, c1, c2, c3⟩ := hR a ha
  rw [hk] at c0
  have HP : Hid (Calls Tryz.prog 39 #[.slice (some ⟨g, 0, none⟩) l.length cap, .int .i64 (a : Int)] w fun e w' => ∃ q c, e = .returned (.slice (some ⟨q, 0, none⟩) L.length c) ∧ w'.ownsRow w.heap.size 2 1 (.slice (some ⟨q, 0, none⟩) L.length c) L.length (cellsI L) ∧ Below w.heap.size w w') := hP
  have HW : Hid (∀ (k : Nat) (h : k < L.length) (w' : World), RowD w' g l → Calls Tryz.prog 19 #[.slice (some ⟨g, 0, none⟩) l.length cap, .int .i64 L[k]] w' fun e w'' => e = .returned (S (W (L[k]).toNat)) ∧ Below w'.heap.size w' w'') := hW
  have HL : Hid ((joinP W L).length ≤ 1600) := hlen
  have HV : Hid (∀ (k : Nat) (h : k < L.length), (W (L[k]).toNat).length ≤ 1600) := hlW
  clear hP hW hlen hlW hR hk
  obtain ⟨T, hT⟩ : ∃ T : Nat → ByteArray, ∀ k, T k = ⟨([40] ++ joinP W (L.take k)).toArray⟩ := ⟨_, fun _ => rfl⟩
  have HT : Hid (∀ k, T k = ⟨([40] ++ joinP W (L.take k)).toArray⟩) := hT
  obtain ⟨R, hRR⟩ : ∃ R : ByteArray, R = ⟨([40] ++ joinP W L ++ [41]).toArray⟩ := ⟨_, rfl⟩
  have HRR : Hid (R = ⟨([40] ++ joinP W L ++ [41]).toArray⟩) := hRR
  have hT0 : (⟨#[40]⟩ : ByteArray) = T 0 := by rw [hT]; simp [joinP_nil]
  show Calls _ _ _ w fun e w' => e = .returned (.string ⟨([40] ++ joinP W L ++ [41]).toArray⟩) ∧ Below w.heap.size w w'
  rw [← hRR]
  clear hT hRR
  have HT0 : Hid ((⟨#[40]⟩ : ByteArray) = T 0) := hT0
  clear hT0
  go_enter Tryz.func19, Tryz.ntmps19
  go_wp2_with fail
  refine HP.out.mono ?_
  rintro e w1 ⟨q, c, rfl, hown, hb⟩
  have HO : Hid (w1.ownsRow w.heap.size 2 1 (.slice (some ⟨q, 0, none⟩) L.length c) L.length (cellsI L)) := hown
  have HB : Hid (Below w.heap.size w w1) := hb
  clear hown hb
  go_wp2_with fail
  go_loopw [6, 8] (fun v i wr => ∃ k : Nat, k ≤ L.length ∧ i = .int .i64 (k : Int) ∧ v = .string (T k) ∧ Hid (Below w1.heap.size w1 wr)) (fun _ i _ => L.length - (RowKit.intOf i).toNat)
  case atStart => exact ⟨0, Nat.zero_le _, rfl, by rw [HT0.out], Below.refl _ _⟩
  case round =>
    obtain ⟨k, hk, rfl, rfl, HX⟩ := hrel
    have hs0 : (joinP W (L.take k)).length ≤ 1600 := Nat.le_trans (joinP_take_len W L k hk) HL.out
    have hsT : (T k).size ≤ 1601 := by rw [HT.out]; simp [ByteArray.size]; omega
    by_cases hlt : k < L.length
    · have HRr : Hid (RowD wr g l) := (HR.out.below HB.out).below HX.out
      obtain ⟨U, hU⟩ : ∃ U : ByteArray, U = ⟨(W (L[k]'hlt).toNat).toArray⟩ := ⟨_, rfl⟩
      have hs1 := HV.out k hlt
      have hsU : U.size ≤ 1600 := by rw [hU]; simp [ByteArray.size]; omega
      have HQ : Hid (Calls Tryz.prog 19 #[.slice (some ⟨g, 0, none⟩) l.length cap, .int .i64 (L[k]'hlt)] wr fun e w'' => e = .returned (.string U) ∧ Below wr.heap.size wr w'') := by
        rw [hU]; exact HW.out k hlt wr HRr.out
      have hcI : wr.cell? ⟨q, k, none⟩ = some (.int .i64 (L[k]'hlt)) := rowI_at (own_below HO.out HX.out) k hlt
      by_cases h0 : 0 < (k : Int)
      · have ha1 := fun (w : World) => run_string_add_sum (P := Tryz.prog) w (T k) ⟨#[32]⟩ (by have : (⟨#[32]⟩ : ByteArray).size = 1 := rfl; omega)
        have ha2 := fun (w : World) => run_string_add_sum (P := Tryz.prog) w (T k ++ ⟨#[32]⟩) U (by have : (⟨#[32]⟩ : ByteArray).size = 1 := rfl; rw [ByteArray.size_append]; omega)
        have HJ : Hid (T k ++ ⟨#[32]⟩ ++ U = T (k + 1)) := by
          show _ = _
          rw [HT.out, HT.out, hU, joinP_take W L k hlt (by omega)]
          apply ByteArray.ext
          simp
        clear hs0 hs1 hsT hsU hU
        go_wp2_with (go_at_call 19; refine HQ.out.mono ?_; rintro e w2 ⟨rfl, hq⟩)
        exact ⟨⟨k + 1, by omega, by go_num, by rw [HJ.out], HX.out.trans (hq.mono HX.out.size)⟩, by simp [RowKit.intOf]; omega⟩
      · have ha2 := fun (w : World) => run_string_add_sum (P := Tryz.prog) w (T k) U (by omega)
        have HJ : Hid (T k ++ U = T (k + 1)) := by
          show _ = _
          have hk0 : k = 0 := by omega
          subst hk0
          rw [HT.out, HT.out, hU, joinP_take0 W L hlt]
          apply ByteArray.ext
          simp
        clear hs0 hs1 hsT hsU hU
        go_wp2_with (go_at_call 19; refine HQ.out.mono ?_; rintro e w2 ⟨rfl, hq⟩)
        exact ⟨⟨k + 1, by omega, by go_num, by rw [HJ.out], HX.out.trans (hq.mono HX.out.size)⟩, by simp [RowKit.intOf]; omega⟩
    · have ha2 := fun (w : World) => run_string_add_sum (P := Tryz.prog) w (T k) ⟨#[41]⟩ (by have : (⟨#[41]⟩ : ByteArray).size = 1 := rfl; omega)
      have HJ : Hid (T k ++ ⟨#[41]⟩ = R) := by
        show _ = _
        have hkl : k = L.length := by omega
        rw [HT.out, HRR.out, hkl, List.take_length]
        apply ByteArray.ext
        simp
      clear hs0 hsT
      go_wp2
      go_ret
      rw [HJ.out]
      exact ⟨rfl, HB.out.trans (HX.out.mono HB.out.size)⟩
theorem cell_parts {l : List Dat} (F : Fine l) (a : Nat) (k : Nat) (h : k < (partsD l (a : Int)).length) : ∃ j : Nat, (partsD l (a : Int))[k] = (j : Int) ∧ j < l.length ∧ a < j := by
  obtain ⟨j, h1, h2, h3⟩ := (parts_mem l (a : Int) _).1 (List.getElem_mem h)
  exact ⟨j, h1, h2, F.parlt h2 h3⟩
/-- The text of the datum at a place. -/
theorem l3Write_any (g cap : Nat) (l : List Dat) (F : Fine l) : ∀ (f a : Nat) (w : World), a < l.length → l.length ≤ a + f → RowD w g l →
    Calls Tryz.prog 19 #[.slice (some ⟨g, 0, none⟩) l.length cap, .int .i64 (a : Int)] w fun e w' => e = .returned (S (writeF l f a)) ∧ Below w.heap.size w w' := by
  intro f
  induction f with
  | zero => intro a w h1 h2; omega
  | succ f ih =>
    intro a w ha hf hR
    have hs : ∀ z : ByteArray, S z.data.toList = .string z := fun z => by simp [S]
    rcases F.kinds a ha with ⟨h1, h2, _⟩ | ⟨h1, h2, _⟩ | ⟨h1, _, h2⟩ | ⟨h1, _⟩
    · rw [write_leaf l f a ha (by omega)]
      have e : leafT l[a] = itoa l[a].num := by simp [leafT, h1]
      rw [e]; exact wr_num g cap a l w ha hR h1 h2
    · rw [write_leaf l f a ha (by omega)]
      rcases h2 with h2 | h2
      · have e : leafT l[a] = [35, 102] := by simp [leafT, h1, h2]
        rw [e]; exact wr_no g cap a l w ha hR h1 h2
      · have e : leafT l[a] = [35, 116] := by simp [leafT, h1, h2]
        rw [e]; exact wr_yes g cap a l w ha hR h1 h2
    · rw [write_leaf l f a ha (by omega)]
      have e : leafT l[a] = l[a].name.data.toList := by simp [leafT, h1]
      rw [e, hs]; exact wr_sym g cap a l w ha hR h1
    · rw [write_list l f a ha h1]
      have h80 := F.len
      refine wr_list g cap a l (partsD l (a : Int)) (writeF l f) w ha hR h1 (Nat.le_trans (partsTo_len l _ _) h80) ?_ ?_ (l3Parts_any g cap l (a : Int) w hR (by omega)) ?_
      · have := write_small F (f + 1) a ha
        rw [write_list l f a ha h1] at this
        simp at this
        omega
      · intro k h
        obtain ⟨j, e, hj, _⟩ := cell_parts F a k h
        rw [e]; exact write_small F f j hj
      · intro k h w' hR'
        obtain ⟨j, e, hj, haj⟩ := cell_parts F a k h
        rw [e]
        exact ih j w' hj (by omega) hR'
/-- What WriteData answers. -/
def writeD (l : List Dat) : List UInt8 := writeF l l.length 0
def WD (l : List Dat) : Value := if dataFault l = 0 then (if 400 < (writeD l).length then .agg #[.int .i64 2, .string ⟨#[]⟩] else .agg #[.int .i64 0, S (writeD l)]) else .agg #[.int .i64 (dataFault l), .string ⟨#[]⟩]
set_option maxRecDepth 100000 in
theorem specWrite_any (ao : Option Addr) (cap base : Nat) (l : List Dat) (w : World) (h : w.ownsRow base 61 4 (.slice ao l.length cap) l.length (cellsD l)) (hz : ∀ (k : Nat) (h : k < l.length), l[k].name.size ≤ 9223372036854775807) :
    Calls Tryz.prog 12 #[.slice ao l.length cap] w fun e w' => e = .returned (WD l) ∧ Below w.heap.size w w' := by
  have HF : Hid (∀ o, Calls Tryz.prog 29 #[.slice ao l.length cap] (w.alloc o) fun e w' => e = .returned (.int .i64 (dataFault l)) ∧ w' = w.alloc o) := fun o => l3Fault_any ao cap base l (w.alloc o) (h.alloc _) hz
  by_cases hf : dataFault l = 0
  · have F := fine_of hf
    obtain ⟨g, c, hv, _, _⟩ := h.form F.pos
    obtain ⟨rfl, rfl⟩ : ao = some ⟨g, 0, none⟩ ∧ cap = c := by simp at hv; exact hv
    obtain ⟨T, hT⟩ : ∃ T : ByteArray, T = ⟨(writeD l).toArray⟩ := ⟨_, rfl⟩
    have hsz : T.size = (writeD l).length := by rw [hT]; simp [ByteArray.size]
    have hsm := write_small F l.length 0 F.pos
    have hs2 : T.size ≤ 1600 := by rw [hsz]; exact hsm
    have HW : Hid (∀ o, Calls Tryz.prog 19 #[.slice (some ⟨g, 0, none⟩) l.length cap, .int .i64 0] (w.alloc o) fun e w' => e = .returned (.string T) ∧ Below (w.alloc o).heap.size (w.alloc o) w') := fun o => by
      rw [hT]; exact l3Write_any g cap l F l.length 0 (w.alloc o) F.pos (by omega) (RowD.of (h.alloc _))
    rw [hf] at HF
    by_cases hb : 400 < (T.size : Int)
    · have e : WD l = .agg #[.int .i64 2, .string ⟨#[]⟩] := by
        unfold WD; rw [if_pos hf, if_pos (by omega)]
      rw [e]
      clear e hv h hf hz hT hsz hsm F
      go_enter Tryz.func12, Tryz.ntmps12
      go_wp2_with fail
      refine (HF.out _).mono ?_
      rintro e w' ⟨rfl, rfl⟩
      go_wp2_with fail
      refine (HW.out _).mono ?_
      rintro e w1 ⟨rfl, hq⟩
      obtain ⟨hc, hfz⟩ := bcell hq
      go_wp2
      refine bodyPost_ret (v := .agg #[.int .i64 2, .string ⟨#[]⟩]) (by simp [results, Tryz.results12, go_sem, hc]) rfl ⟨rfl, ?_⟩
      repeat (first | exact Below.refl _ _ | refine Below.setCell ?_ (by simp) _ | refine Below.trans ?_ (hq.mono (by simp)) | refine Below.alloc ?_ (by simp <;> omega) _)
    · have e : WD l = .agg #[.int .i64 0, .string T] := by
        unfold WD; rw [if_pos hf, if_neg (by omega), hT]
      rw [e]
      clear e hv h hf hz hT hsz hsm F
      go_enter Tryz.func12, Tryz.ntmps12
      go_wp2_with fail
      refine (HF.out _).mono ?_
      rintro e w' ⟨rfl, rfl⟩
      go_wp2_with fail
      refine (HW.out _).mono ?_
      rintro e w1 ⟨rfl, hq⟩
      obtain ⟨hc, hfz⟩ := bcell hq
      go_wp2
      refine bodyPost_ret (v := .agg #[.int .i64 0, .string T]) (by simp [results, Tryz.results12, go_sem, hc]) rfl ⟨rfl, ?_⟩
      repeat (first | exact Below.refl _ _ | refine Below.setCell ?_ (by simp) _ | refine Below.trans ?_ (hq.mono (by simp)) | refine Below.alloc ?_ (by simp <;> omega) _)
  · have e : WD l = .agg #[.int .i64 (dataFault l), .string ⟨#[]⟩] := by unfold WD; rw [if_neg hf]
    rw [e]
    have hb : (dataFault l != 0) = true := by simpa using hf
    clear e hf h hz
    go_enter Tryz.func12, Tryz.ntmps12
    go_wp2_with (go_at_call 29; refine (HF.out _).mono ?_; rintro e w' ⟨rfl, rfl⟩)
    refine bodyPost_ret (v := .agg #[.int .i64 (dataFault l), .string ⟨#[]⟩]) (by simp [results, Tryz.results12, go_sem]) rfl ⟨rfl, ?_⟩
    repeat (first | exact Below.refl _ _ | refine Below.setCell ?_ (by simp) _ | refine Below.alloc ?_ (by simp <;> omega) _)
end Go.Proofs.YtoljpgpkeploiaaGreatDoor
