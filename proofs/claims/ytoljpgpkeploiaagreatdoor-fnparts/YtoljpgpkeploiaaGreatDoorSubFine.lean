/-
  What is taken out of data without fault has no fault. No program in it.
-/
import Derived.Test.YtoljpgpkeploiaaGreatDoorFpJ
namespace Go.Proofs.YtoljpgpkeploiaaGreatDoor
open Go.RowKit Go.Extern.Stop Go.Stop Go.Extern Num Go.Lib

section
variable {l : List Dat}
theorem sub_at (l : List Dat) (a j : Nat) (hj : j < (subD l a).length) : ∃ h : a + j < l.length, (subD l a)[j] = shiftD a (a + j) (l[a + j]'h) := subFrom_at l a l.length a j hj
theorem sub_len (l : List Dat) (a : Nat) : (subD l a).length = endD l a - a := by unfold endD; omega
/-- The places of what is taken out hang on each other as they did. -/
theorem sub_par (F : Fine l) (a : Nat) (ha : a < l.length) (j : Nat) (hj : j < (subD l a).length) (h0 : 0 < j) : ∃ p : Nat, par (subD l a) j = (p : Int) ∧ par l (a + j) = ((a + p : Nat) : Int) ∧ p < j := by
  obtain ⟨h, e⟩ := sub_at l a j hj
  have hl := sub_len l a
  rcases abv_inv (below_abv F a ha (a + j) (by omega) (by omega)) with e' | ⟨p, hp, hA⟩
  · omega
  · have h1 := F.parlt h hp
    have h2 := abv_le F p (by omega) hA
    refine ⟨p - a, ?_, by rw [hp]; omega, by omega⟩
    rw [par_at _ j hj, e]
    show (if a + j = a then -1 else l[a + j].parent - (a : Int)) = _
    rw [if_neg (by omega), ← par_at l (a + j) h, hp]
    omega
theorem sub_par0 (l : List Dat) (a : Nat) (hj : 0 < (subD l a).length) : par (subD l a) 0 = -1 := by
  obtain ⟨h, e⟩ := sub_at l a 0 hj
  rw [par_at _ 0 hj, e]
  show (if a + 0 = a then (-1 : Int) else _) = -1
  rw [if_pos (Nat.add_zero a)]
theorem sub_deep (F : Fine l) (a : Nat) (ha : a < l.length) : ∀ (f j : Nat), j < (subD l a).length → deepF (subD l a) f (j : Int) ≤ deepF l f ((a + j : Nat) : Int)
  | 0, _, _ => Nat.le_refl _
  | f + 1, j, hj => by
    have h0 : ¬ ((j : Int) < 0) := by omega
    have h1 : ¬ (((a + j : Nat) : Int) < 0) := by omega
    simp only [deepF, if_neg h0, if_neg h1, Int.toNat_natCast]
    by_cases hz : j = 0
    · subst hz
      rw [sub_par0 l a hj, deepF_neg _ f (-1) (by omega)]
      omega
    · obtain ⟨p, hp1, hp2, hpj⟩ := sub_par F a ha j hj (by omega)
      rw [hp1, hp2]
      have := sub_deep F a ha f p (by omega)
      omega
theorem sub_line (F : Fine l) (a : Nat) (ha : a < l.length) (q : Nat) : ∀ (f f' j : Nat), j < (subD l a).length → j < f' → lineF l ((a + q : Nat) : Int) f ((a + j : Nat) : Int) = true → lineF (subD l a) (q : Int) f' (j : Int) = true
  | 0, _, _, _, _, h => by simp [lineF] at h
  | f + 1, 0, _, _, h, _ => by omega
  | f + 1, f' + 1, j, hj, hf, h => by
    have h0 : ¬ ((j : Int) < 0) := by omega
    have h1 : ¬ (((a + j : Nat) : Int) < 0) := by omega
    obtain ⟨hl, e⟩ := sub_at l a j hj
    simp only [lineF, if_neg h0, if_neg h1, Int.toNat_natCast] at h ⊢
    by_cases hq : j = q
    · subst hq
      rw [if_pos rfl] at h ⊢
      have e1 : (l[a + j]?.map (·.kind)).getD 0 = l[a + j].kind := by simp [hl]
      have e2 : ((subD l a)[j]?.map (·.kind)).getD 0 = l[a + j].kind := by
        rw [List.getElem?_eq_getElem hj, e]; rfl
      rw [e1] at h
      rw [e2]
      exact h
    · rw [if_neg (by omega)] at h
      rw [if_neg (by omega)]
      by_cases hz : j = 0
      · exfalso
        subst hz
        have hneg : par l (a + 0) < 0 ∨ ∃ p : Nat, par l (a + 0) = (p : Int) := by
          rcases Int.lt_or_le (par l (a + 0)) 0 with h' | h'
          · exact .inl h'
          · exact .inr ⟨(par l (a + 0)).toNat, by omega⟩
        rcases hneg with h' | ⟨p, hp⟩
        · rw [lineF_neg l _ f _ h'] at h; cases h
        · have hlt := F.parlt hl hp
          rw [hp] at h
          obtain ⟨q', hq', hA⟩ := line_abv f _ p (by omega) h
          have := abv_le F p (by omega) hA
          omega
      · obtain ⟨p, hp1, hp2, hpj⟩ := sub_par F a ha j hj (by omega)
        rw [hp1]
        rw [hp2] at h
        exact sub_line F a ha q f f' p (by omega) (by omega) h
theorem chk_mk {l : List Dat} {i : Nat} {t : Dat} (h1 : bareB t = true) (h2 : rangeBad t = false) (h3 : symBad t = false) (h4 : parBad i t.parent = false) (h5 : 0 < i → lineB l i = true) (h6 : deepF l 100 (i : Int) ≤ 12) : chkD l i t = 0 := by
  unfold chkD
  rw [if_neg (by simp [h1]), if_neg (by simp [h2]), if_neg (by simp [h3]), if_neg (by simp [h4]), if_neg, if_neg (by omega)]
  by_cases h0 : 0 < i
  · simp [h5 h0]
  · simp [h0]
/-- What is taken out of data without fault has no fault. -/
theorem sub_fine (F : Fine l) (a : Nat) (ha : a < l.length) : Fine (subD l a) := by
  obtain ⟨h1, h2, _, _⟩ := end_facts l a ha
  have hl := sub_len l a
  refine ⟨by omega, by have := F.len; omega, fun j hj _ => ?_⟩
  obtain ⟨h, e⟩ := sub_at l a j hj
  obtain ⟨g1, g2, g3, g4, g5, g6⟩ := chk_all (F.ok (a + j) h h)
  rw [e]
  refine chk_mk (by exact g1) (by exact g2) (by exact g3) ?_ (fun h0 => ?_) (Nat.le_trans (sub_deep F a ha 100 j hj) g6)
  · show parBad j (if a + j = a then -1 else l[a + j].parent - (a : Int)) = false
    by_cases hz : j = 0
    · subst hz; simp [parBad]
    · rw [if_neg (by omega)]
      obtain ⟨p, hp1, hp2, hpj⟩ := sub_par F a ha j hj (by omega)
      rw [par_at l (a + j) h] at hp2
      rw [hp2]
      have e1 : (((a + p : Nat) : Int) - (a : Int)) = (p : Int) := by omega
      rw [e1]
      simp [parBad]
      omega
  · obtain ⟨p, hp1, hp2, hpj⟩ := sub_par F a ha j hj h0
    have hb := g5 (by omega)
    unfold lineB at hb ⊢
    rw [hp2] at hb
    rw [hp1]
    have e1 : (((a + j : Nat) : Int) - 1) = ((a + (j - 1) : Nat) : Int) := by omega
    have e2 : ((j : Int) - 1) = ((j - 1 : Nat) : Int) := by omega
    rw [e1] at hb
    rw [e2]
    exact sub_line F a ha p (a + j) j (j - 1) (by omega) (by omega) hb
theorem fault_none {l : List Dat} (F : Fine l) : dataFault l = 0 := by
  unfold dataFault
  rw [if_neg (by have := F.pos; have := F.len; omega)]
  exact fault_end l F.ok
end
end Go.Proofs.YtoljpgpkeploiaaGreatDoor
