/-
  Fine data as a tree: what each datum is; the parts of a datum stand apart and divide what stands behind it. No program in it.
-/
import Derived.Test.YtllcnkghakaifaaDoorTreeD
namespace Go.Proofs.YtllcnkghakaifaaDoor
open Go.RowKit Go.Extern.Stop Go.Stop Go.Extern Num Go.Lib

theorem chk_all {l : List Dat} {i : Nat} {t : Dat} (h : chkD l i t = 0) : bareB t = true ∧ rangeBad t = false ∧ symBad t = false ∧ parBad i t.parent = false ∧ (0 < i → lineB l i = true) ∧ deepF l 100 (i : Int) ≤ 12 := by
  unfold chkD at h
  by_cases h1 : bareB t = false
  · rw [if_pos h1] at h; cases h
  rw [if_neg h1] at h
  by_cases h2 : rangeBad t = true
  · rw [if_pos h2] at h; cases h
  rw [if_neg h2] at h
  by_cases h3 : symBad t = true
  · rw [if_pos h3] at h; cases h
  rw [if_neg h3] at h
  by_cases h4 : parBad i t.parent = true
  · rw [if_pos h4] at h; cases h
  rw [if_neg h4] at h
  by_cases h5 : (decide (0 < i) && !(lineB l i)) = true
  · rw [if_pos h5] at h; cases h
  rw [if_neg h5] at h
  by_cases h6 : 12 < deepF l 100 (i : Int)
  · rw [if_pos h6] at h; cases h
  refine ⟨by simpa using h1, by simpa using h2, by simpa using h3, by simpa using h4, fun h0 => ?_, by omega⟩
  cases hb : lineB l i with
  | true => rfl
  | false => exact absurd (by simp [hb, h0]) h5
/-- What a datum is. -/
theorem kind_cases {t : Dat} (hb : bareB t = true) (hr : rangeBad t = false) (hs : symBad t = false) :
    (t.kind = 1 ∧ inB t.num = true ∧ t.name.data.toList = []) ∨ (t.kind = 2 ∧ (t.num = 0 ∨ t.num = 1) ∧ t.name.data.toList = []) ∨ (t.kind = 3 ∧ t.num = 0 ∧ symL t.name.data.toList = true) ∨ (t.kind = 4 ∧ t.num = 0 ∧ t.name.data.toList = []) := by
  obtain ⟨k, p, n, z⟩ := t
  simp only [bareB, Bool.and_eq_true, decide_eq_true_eq, Bool.or_eq_true, beq_iff_eq] at hb
  obtain ⟨⟨hk, hn⟩, hz⟩ := hb
  have hk4 : k = 1 ∨ k = 2 ∨ k = 3 ∨ k = 4 := by omega
  rcases hk4 with rfl | rfl | rfl | rfl
  · left
    refine ⟨rfl, ?_, ?_⟩
    · simpa [rangeBad] using hr
    · simpa using hz
  · right; left
    refine ⟨rfl, ?_, ?_⟩
    · have : 0 ≤ n ∧ n ≤ 1 := by simpa [rangeBad] using hr
      show n = 0 ∨ n = 1
      omega
    · simpa using hz
  · right; right; left
    refine ⟨rfl, by simpa using hn, by simpa [symBad] using hs⟩
  · right; right; right
    exact ⟨rfl, by simpa using hn, by simpa using hz⟩
section
variable {l : List Dat}
theorem Fine.kinds (F : Fine l) (k : Nat) (hk : k < l.length) : (l[k].kind = 1 ∧ inB l[k].num = true ∧ l[k].name.data.toList = []) ∨ (l[k].kind = 2 ∧ (l[k].num = 0 ∨ l[k].num = 1) ∧ l[k].name.data.toList = []) ∨ (l[k].kind = 3 ∧ l[k].num = 0 ∧ symL l[k].name.data.toList = true) ∨ (l[k].kind = 4 ∧ l[k].num = 0 ∧ l[k].name.data.toList = []) := by
  obtain ⟨h1, h2, h3, _⟩ := chk_all (F.ok k hk hk)
  exact kind_cases h1 h2 h3
theorem Fine.deep (F : Fine l) (k : Nat) (hk : k < l.length) : dep l k ≤ 12 := (chk_all (F.ok k hk hk)).2.2.2.2.2
theorem Fine.first (F : Fine l) : par l 0 = -1 := by
  have h := F.parent 0 F.pos
  rw [par_at l 0 F.pos]
  omega
/-- All but the first are parts of a list. -/
theorem line_kind : ∀ (f : Nat) (p : Int) (k : Int), lineF l p f k = true → 0 ≤ p ∧ (l[p.toNat]?.map (·.kind)).getD 0 = 4 := by
  intro f
  induction f with
  | zero => intro p k h; cases h
  | succ f ih =>
    intro p k h
    unfold lineF at h
    split at h
    · cases h
    · split at h
      · rename_i h0 h1
        subst h1
        exact ⟨by omega, by simpa using h⟩
      · exact ih p _ h
theorem Fine.list (F : Fine l) {k : Nat} (hk : k < l.length) (h0 : 0 < k) : ∃ (q : Nat) (hq : q < l.length), par l k = (q : Int) ∧ q < k ∧ l[q].kind = 4 := by
  have h1 := (chk_all (F.ok k hk hk)).2.2.2.2.1 h0
  obtain ⟨hp, hkd⟩ := line_kind _ _ _ h1
  obtain ⟨q, hq⟩ := Int.eq_ofNat_of_zero_le hp
  have hlt := F.parlt hk hq
  rw [hq] at hkd
  refine ⟨q, by omega, hq, hlt, ?_⟩
  simpa [show q < l.length by omega] using hkd
theorem abv_trans (F : Fine l) {a p : Nat} (hA : Abv l a p) : ∀ (k : Nat), k < l.length → Abv l p k → Abv l a k := by
  intro k
  induction k using Nat.strongRecOn with
  | _ k ih =>
    intro hk hQ
    rcases abv_inv hQ with h | ⟨q, hq, hQ'⟩
    · rw [h]; exact hA
    · have := F.parlt hk hq
      exact abv_up hq (ih q this (by omega) hQ')
theorem abv_part {a p : Nat} (h : par l p = (a : Int)) : Abv l a p := abv_up h (abv_self l a)
/-- Two parts of one datum: the one ahead ends ahead of the other. -/
theorem parts_apart (F : Fine l) {a p q : Nat} (hp : par l p = (a : Int)) (hq : par l q = (a : Int)) (hpq : p < q) (hql : q < l.length) : endD l p ≤ q := by
  by_cases h : endD l p ≤ q
  · exact h
  · exfalso
    have hA := below_abv F p (by omega) q (by omega) (by omega)
    have hlt := F.parlt (k := p) (by omega) hp
    rcases abv_inv hA with e | ⟨r, hr, hA'⟩
    · omega
    · have : r = a := by omega
      subst this
      have := abv_le F r (by have := F.parlt hql hq; omega) hA'
      omega
/-- A part ends where its list ends, or ahead of it. -/
theorem part_in (F : Fine l) {a p : Nat} (hp : par l p = (a : Int)) (hpl : p < l.length) : a < p ∧ p < endD l a ∧ endD l p ≤ endD l a := by
  have hlt := F.parlt hpl hp
  have hpe : p < endD l a := by
    by_cases h : p < endD l a
    · exact h
    · exact absurd (abv_part hp) (behind_not F a (by omega) p (by omega) hpl)
  refine ⟨hlt, hpe, ?_⟩
  by_cases h : endD l p ≤ endD l a
  · exact h
  · exfalso
    have he := (end_facts l p hpl).2.1
    have hA := below_abv F p hpl (endD l a) (by omega) (by omega)
    exact behind_not F a (by omega) (endD l a) (Nat.le_refl _) (by omega) (abv_trans F (abv_part hp) _ (by omega) hA)
/-- All that is below a datum, is a part of it or below one. -/
theorem abv_via (F : Fine l) {a : Nat} : ∀ (k : Nat), k < l.length → Abv l a k → k ≠ a → ∃ p : Nat, par l p = (a : Int) ∧ p ≤ k ∧ Abv l p k := by
  intro k
  induction k using Nat.strongRecOn with
  | _ k ih =>
    intro hk hA hne
    rcases abv_inv hA with e | ⟨q, hq, hA'⟩
    · exact absurd e hne
    · have hlt := F.parlt hk hq
      by_cases hqa : q = a
      · subst hqa
        exact ⟨k, hq, Nat.le_refl _, abv_self l k⟩
      · obtain ⟨p, hp, hpk, hpA⟩ := ih q hlt (by omega) hA' hqa
        exact ⟨p, hp, by omega, abv_up hq hpA⟩
/-- How much a row of parts takes. -/
def spanL (l : List Dat) (L : List Int) : Nat := (L.map fun p => endD l p.toNat - p.toNat).sum
theorem parts_to_mem (l : List Dat) (a : Int) (k : Nat) (p : Int) : p ∈ partsTo l a k ↔ ∃ j : Nat, p = (j : Int) ∧ j < k ∧ par l j = a := by
  induction k with
  | zero => simp [partsTo]
  | succ k ih =>
    simp only [partsTo]
    split
    · rename_i h
      rw [List.mem_append, ih]
      constructor
      · rintro (⟨j, h1, h2, h3⟩ | h1)
        · exact ⟨j, h1, by omega, h3⟩
        · exact ⟨k, by simpa using h1, by omega, h⟩
      · rintro ⟨j, h1, h2, h3⟩
        by_cases hj : j < k
        · exact Or.inl ⟨j, h1, hj, h3⟩
        · right
          have : j = k := by omega
          subst this; simp [h1]
    · rename_i h
      rw [ih]
      constructor
      · rintro ⟨j, h1, h2, h3⟩; exact ⟨j, h1, by omega, h3⟩
      · rintro ⟨j, h1, h2, h3⟩
        by_cases hj : j < k
        · exact ⟨j, h1, hj, h3⟩
        · have : j = k := by omega
          subst this; exact absurd h3 h
theorem parts_mem (l : List Dat) (a : Int) (p : Int) : p ∈ partsD l a ↔ ∃ j : Nat, p = (j : Int) ∧ j < l.length ∧ par l j = a := parts_to_mem l a l.length p
/-- Up to a place the parts take all there is, and a bit more. -/
theorem span_to (F : Fine l) (a : Nat) (ha : a < l.length) : ∀ k, a + 1 ≤ k → k ≤ endD l a →
    (partsTo l a k = [] ∧ k = a + 1) ∨ (∃ p : Nat, p < k ∧ par l p = (a : Int) ∧ a + 1 + spanL l (partsTo l a k) = endD l p ∧ k ≤ endD l p ∧ ∀ q : Nat, q < k → par l q = (a : Int) → q ≤ p) := by
  obtain ⟨e1, e2, e3, e4⟩ := end_facts l a ha
  intro k
  induction k with
  | zero => intro h _; omega
  | succ k ih =>
    intro hk hke
    by_cases hka : k = a
    · subst hka
      left
      refine ⟨?_, rfl⟩
      have hne : ∀ p, p ∉ partsTo l (k : Int) (k + 1) := by
        intro p hp
        obtain ⟨j, _, hj, hjp⟩ := (parts_to_mem l _ _ _).1 hp
        have := F.parlt (k := j) (by omega) hjp
        omega
      exact List.eq_nil_iff_forall_not_mem.2 hne
    · have hkl : k < l.length := by omega
      right
      rcases ih (by omega) (by omega) with ⟨h1, h2⟩ | ⟨p, hp, hpa, hs, hkp, hmax⟩
      · -- the first part
        have hA := below_abv F a ha k (by omega) (by omega)
        obtain ⟨q, hq, hqk, _⟩ := abv_via F k hkl hA (by omega)
        have := F.parlt (k := q) (by omega) hq
        have hqk' : q = k := by omega
        subst hqk'
        refine ⟨q, by omega, hq, ?_, ?_, fun r hr _ => by omega⟩
        · have := (end_facts l q hkl).1
          simp only [partsTo, if_pos hq, h1, spanL]
          simp
          omega
        · have := (end_facts l q hkl).1
          omega
      · by_cases hkp' : k < endD l p
        · have hno : ¬ par l k = (a : Int) := by
            intro h
            have := parts_apart F hpa h hp hkl
            omega
          refine ⟨p, by omega, hpa, ?_, by omega, fun q hq hqa => ?_⟩
          · simp only [partsTo, if_neg hno]; exact hs
          · by_cases hqk : q < k
            · exact hmax q hqk hqa
            · have : q = k := by omega
              subst this; exact absurd hqa hno
        · have hkE : k = endD l p := by omega
          have hA := below_abv F a ha k (by omega) (by omega)
          obtain ⟨q, hq, hqk, hqA⟩ := abv_via F k hkl hA (by omega)
          have hqk' : q = k := by
            by_cases h : q = k
            · exact h
            · exfalso
              have hqp := hmax q (by omega) hq
              have hin : k < endD l q := by
                by_cases h' : k < endD l q
                · exact h'
                · exact absurd hqA (behind_not F q (by omega) k (by omega) hkl)
              by_cases hqp' : q = p
              · subst hqp'; omega
              · have := parts_apart F hq hpa (by omega) (by omega)
                omega
          subst hqk'
          refine ⟨q, by omega, hq, ?_, ?_, fun r hr _ => by omega⟩
          · have := (end_facts l q hkl).1
            have hs' : spanL l (partsTo l a q ++ [(q : Int)]) = spanL l (partsTo l a q) + (endD l q - q) := by simp [spanL]
            simp only [partsTo, if_pos hq]
            rw [hs']
            omega
          · have := (end_facts l q hkl).1
            omega
theorem parts_stop (F : Fine l) (a : Nat) (ha : a < l.length) : ∀ k, endD l a ≤ k → k ≤ l.length → partsTo l a k = partsTo l a (endD l a) := by
  intro k
  induction k with
  | zero => intro h _; have := (end_facts l a ha).1; omega
  | succ k ih =>
    intro h1 h2
    by_cases he : endD l a = k + 1
    · rw [he]
    · have hno : ¬ par l k = (a : Int) := by
        intro h
        have := part_in F h (by omega)
        omega
      rw [partsTo, if_neg hno]
      exact ih (by omega) (by omega)
/-- The parts of a datum divide what stands behind it. -/
theorem span_all (F : Fine l) (a : Nat) (ha : a < l.length) : a + 1 + spanL l (partsD l a) = endD l a := by
  obtain ⟨e1, e2, e3, e4⟩ := end_facts l a ha
  unfold partsD
  rw [parts_stop F a ha l.length e2 (Nat.le_refl _)]
  rcases span_to F a ha (endD l a) (by omega) (Nat.le_refl _) with ⟨h1, h2⟩ | ⟨p, hp, hpa, hs, hkp, _⟩
  · rw [h1]; simp [spanL]; omega
  · have := (part_in F hpa (by omega)).2.2
    omega
end
end Go.Proofs.YtllcnkghakaifaaDoor
