/-
  Parts of the proof laid into one text, one behind the other; each says at its head what is proved in it.
-/
import Derived.Test.YtfdkklhigliciaaGreatDoorXaH
/-
  How many data lie below a place: those below its parts are apart. No program in it.
-/
namespace Go.Proofs.YtfdkklhigliciaaGreatDoor
open Go.RowKit Go.Extern.Stop Go.Stop Go.Extern Num Go.Lib

/-- Whether a place is come to from another one by going up, so often at most. -/
def rcB (l : List Dat) : Nat → Nat → Nat → Bool
  | 0, j, a => j == a
  | n + 1, j, a => (j == a) || (decide (0 ≤ par l j) && rcB l n (par l j).toNat a)
def belB (l : List Dat) (j a : Nat) : Bool := rcB l j j a
theorem par_ltX {l : List Dat} (hF : Fine l) (j : Nat) (hp : 0 ≤ par l j) : (par l j).toNat < j ∧ j < l.length := by
  rcases Nat.lt_or_ge j l.length with h | h
  · have := (hF.parent j h).1
    rw [par_at l j h] at hp ⊢
    exact ⟨by omega, h⟩
  · simp [par, List.getElem?_eq_none h] at hp
theorem rcB_fuel {l : List Dat} (hF : Fine l) : ∀ (n j a : Nat), j ≤ n → rcB l n j a = rcB l j j a := by
  intro n
  induction n using Nat.strongRecOn with
  | ind n ih =>
    intro j a hj
    rcases n with _ | n
    · have : j = 0 := by omega
      subst this; rfl
    · rcases j with _ | j
      · have hp : decide (0 ≤ par l 0) = false := by
          rw [decide_eq_false_iff_not]
          intro h
          have := (par_ltX hF 0 h).1
          omega
        simp only [rcB, hp, Bool.false_and, Bool.or_false]
      · simp only [rcB]
        by_cases hp : 0 ≤ par l (j + 1)
        · have h1 := (par_ltX hF (j + 1) hp).1
          rw [ih n (by omega) _ a (by omega)]
          by_cases hjn : j = n
          · subst hjn
            rw [ih j (by omega) _ a (by omega)]
          · rw [ih j (by omega) _ a (by omega)]
        · simp [hp]
theorem belB_iff {l : List Dat} (hF : Fine l) (j a : Nat) : belB l j a = true ↔ j = a ∨ (0 ≤ par l j ∧ belB l (par l j).toNat a = true) := by
  unfold belB
  rcases j with _ | j
  · have hp : ¬ 0 ≤ par l 0 := fun h => by have := (par_ltX hF 0 h).1; omega
    simp [rcB, hp]
  · simp only [rcB, Bool.or_eq_true, beq_iff_eq, Bool.and_eq_true, decide_eq_true_eq]
    constructor
    · rintro (h | ⟨h1, h2⟩)
      · exact .inl h
      · refine .inr ⟨h1, ?_⟩
        rw [rcB_fuel hF j _ a (by have := (par_ltX hF (j + 1) h1).1; omega)] at h2
        exact h2
    · rintro (h | ⟨h1, h2⟩)
      · exact .inl h
      · refine .inr ⟨h1, ?_⟩
        rw [rcB_fuel hF j _ a (by have := (par_ltX hF (j + 1) h1).1; omega)]
        exact h2
theorem belB_le {l : List Dat} (hF : Fine l) : ∀ (j a : Nat), belB l j a = true → a ≤ j := by
  intro j
  induction j using Nat.strongRecOn with
  | ind j ih =>
    intro a h
    rcases (belB_iff hF j a).1 h with h | ⟨h1, h2⟩
    · omega
    · have := (par_ltX hF j h1).1
      have := ih _ this a h2
      omega
theorem belB_kid {l : List Dat} (hF : Fine l) {a b : Nat} (hb : par l b = (a : Int)) : ∀ (j : Nat), belB l j b = true → belB l j a = true ∧ j ≠ a := by
  intro j
  induction j using Nat.strongRecOn with
  | ind j ih =>
    intro h
    have hab := (par_ltX hF b (by omega)).1
    rcases (belB_iff hF j b).1 h with h | ⟨h1, h2⟩
    · subst h
      refine ⟨(belB_iff hF j a).2 (.inr ⟨by omega, ?_⟩), by omega⟩
      rw [hb]
      exact (belB_iff hF _ a).2 (.inl (by simp))
    · have hlt := (par_ltX hF j h1).1
      obtain ⟨h3, h4⟩ := ih _ hlt h2
      exact ⟨(belB_iff hF j a).2 (.inr ⟨h1, h3⟩), by have := belB_le hF _ _ h2; omega⟩
theorem belB_apart {l : List Dat} (hF : Fine l) {a b c : Nat} (hb : par l b = (a : Int)) (hc : par l c = (a : Int)) (hbc : b ≠ c) : ∀ (j : Nat), belB l j b = true → belB l j c = true → False := by
  intro j
  induction j using Nat.strongRecOn with
  | ind j ih =>
    intro h h'
    have hab := (par_ltX hF b (by omega)).1
    have hac := (par_ltX hF c (by omega)).1
    rcases (belB_iff hF j b).1 h with e | ⟨h1, h2⟩
    · subst e
      rcases (belB_iff hF j c).1 h' with e | ⟨h3, h4⟩
      · exact hbc e
      · have := belB_le hF _ _ h4
        omega
    · rcases (belB_iff hF j c).1 h' with e | ⟨h3, h4⟩
      · subst e
        have := belB_le hF _ _ h2
        omega
      · exact ih _ (par_ltX hF j h1).1 h2 h4
/-- How many data lie below a place, itself among them. -/
def cntB (l : List Dat) (a : Nat) : Nat := (List.range l.length).countP fun j => belB l j a
def cntL (l : List Dat) : List Int → Nat
  | [] => 0
  | b :: r => cntB l b.toNat + cntL l r
theorem countP_two {α : Type} (p q : α → Bool) : ∀ (L : List α), (∀ x ∈ L, ¬ (p x = true ∧ q x = true)) → L.countP p + L.countP q = L.countP fun x => p x || q x
  | [], _ => rfl
  | x :: L, h => by
    have ih := countP_two p q L (fun y hy => h y (List.mem_cons_of_mem _ hy))
    have hx := h x (by simp)
    simp only [List.countP_cons]
    cases hp : p x <;> cases hq : q x <;> simp_all <;> omega
theorem partsTo_nodup (l : List Dat) (a : Int) : ∀ k, (partsTo l a k).Nodup
  | 0 => by simp [partsTo]
  | k + 1 => by
    simp only [partsTo]
    split
    · rw [List.nodup_append]
      refine ⟨partsTo_nodup l a k, by simp, fun x hx y hy => ?_⟩
      obtain ⟨j, h1, h2, _⟩ := mem_partsTo hx
      have : y = (k : Int) := by simpa using hy
      omega
    · exact partsTo_nodup l a k
theorem cntL_any {l : List Dat} (hF : Fine l) (a : Nat) : ∀ (L : List Int), (∀ b ∈ L, ∃ j : Nat, b = (j : Int) ∧ par l j = (a : Int)) → L.Nodup → cntL l L = (List.range l.length).countP fun j => L.any fun b => belB l j b.toNat
  | [], _, _ => by simp [cntL]
  | b :: r, h, hn => by
    rw [List.nodup_cons] at hn
    have ih := cntL_any hF a r (fun c hc => h c (List.mem_cons_of_mem _ hc)) hn.2
    show cntB l b.toNat + cntL l r = _
    rw [ih]
    unfold cntB
    rw [countP_two]
    · rfl
    · rintro j _ ⟨h1, h2⟩
      obtain ⟨c, hc, hjc⟩ := List.any_eq_true.1 h2
      obtain ⟨jb, e1, p1⟩ := h b (by simp)
      obtain ⟨jc, e2, p2⟩ := h c (List.mem_cons_of_mem _ hc)
      subst e1 e2
      exact belB_apart hF p1 p2 (fun e => hn.1 (by rw [e]; exact hc)) j (by simpa using h1) (by simpa using hjc)
theorem cnt_kids {l : List Dat} (hF : Fine l) {a : Nat} (ha : a < l.length) : cntL l (partsD l a) + 1 ≤ cntB l a := by
  have hm : ∀ b ∈ partsD l a, ∃ j : Nat, b = (j : Int) ∧ par l j = (a : Int) := fun b hb => by
    obtain ⟨j, _, h2, h3⟩ := mem_partsTo hb
    exact ⟨j, h2, h3⟩
  rw [cntL_any hF a _ hm (partsTo_nodup l a _)]
  have h1 : 1 ≤ (List.range l.length).countP fun j => j == a := by
    rw [Nat.one_le_iff_ne_zero, ← Nat.pos_iff_ne_zero, List.countP_pos_iff]
    exact ⟨a, List.mem_range.2 ha, by simp⟩
  have h2 := countP_two (fun j => (partsD l a).any fun b => belB l j b.toNat) (fun j => j == a) (List.range l.length) (by
    rintro j _ ⟨h1, h2⟩
    obtain ⟨c, hc, hjc⟩ := List.any_eq_true.1 h1
    obtain ⟨jc, e2, p2⟩ := hm c hc
    subst e2
    exact (belB_kid hF p2 j (by simpa using hjc)).2 (by simpa using h2))
  have h3 : ((List.range l.length).countP fun j => ((partsD l a).any fun b => belB l j b.toNat) || (j == a)) ≤ cntB l a := by
    unfold cntB
    refine List.countP_mono_left (fun j _ h => ?_)
    rcases (Bool.or_eq_true _ _).mp h with h | h
    · obtain ⟨c, hc, hjc⟩ := List.any_eq_true.1 h
      obtain ⟨jc, e2, p2⟩ := hm c hc
      subst e2
      exact (belB_kid hF p2 j (by simpa using hjc)).1
    · have : j = a := by simpa using h
      subst this
      exact (belB_iff hF j j).2 (.inl rfl)
  omega
theorem cnt_pos {l : List Dat} (hF : Fine l) {a : Nat} (ha : a < l.length) : 1 ≤ cntB l a := Nat.le_trans (Nat.le_add_left _ _) (cnt_kids hF ha)
theorem cnt_all (l : List Dat) (a : Nat) : cntB l a ≤ l.length := Nat.le_trans (List.countP_le_length) (by simp)
theorem cntL_mem {l : List Dat} : ∀ {L : List Int} {b : Int}, b ∈ L → cntB l b.toNat ≤ cntL l L
  | c :: r, b, h => by
    show _ ≤ cntB l c.toNat + cntL l r
    rcases List.mem_cons.1 h with h | h
    · subst h; omega
    · have := cntL_mem (l := l) h; omega
theorem cntL_drop {l : List Dat} : ∀ (L : List Int) (k : Nat), cntL l (L.drop k) ≤ cntL l L
  | [], _ => by simp
  | c :: r, 0 => Nat.le_refl _
  | c :: r, k + 1 => Nat.le_trans (cntL_drop r k) (Nat.le_add_left _ _)
theorem cntL_append {l : List Dat} : ∀ (A B : List Int), cntL l (A ++ B) = cntL l A + cntL l B
  | [], B => by simp [cntL]
  | c :: r, B => by
    show cntB l c.toNat + cntL l (r ++ B) = cntB l c.toNat + cntL l r + cntL l B
    rw [cntL_append r B]; omega
/-- What a let's values have below them. -/
theorem cnt_let {l : List Dat} (hF : Fine l) : ∀ (L : List Int) (N : List ByteArray) (V : List Int) (N' : List ByteArray) (V' : List Int), (∀ b ∈ L, ∃ j : Nat, b = (j : Int) ∧ j < l.length) → letF l L N V = some (N', V') → cntL l V' ≤ cntL l V + cntL l L
  | [], N, V, N', V', _, h => by
    simp only [letF, Option.some.injEq, Prod.mk.injEq] at h
    rw [← h.2]; exact Nat.le_add_right _ _
  | a :: r, N, V, N', V', hb, h => by
    obtain ⟨j, rfl, hj⟩ := hb a (by simp)
    have hk := cnt_kids hF hj
    rcases hp : partsD l (j : Int) with _ | ⟨x, _ | ⟨y, _ | ⟨z, q⟩⟩⟩
    · simp only [letF, hp] at h; cases h
    · simp only [letF, hp] at h; cases h
    · simp only [letF, hp] at h
      split at h
      · have ih := cnt_let hF r _ _ N' V' (fun b h => hb b (List.mem_cons_of_mem _ h)) h
        rw [cntL_append] at ih
        rw [hp] at hk
        have e1 : cntL l [x, y] = cntB l x.toNat + (cntB l y.toNat + 0) := rfl
        have e2 : cntL l [y] = cntB l y.toNat + 0 := rfl
        have e3 : cntL l ((j : Int) :: r) = cntB l ((j : Int)).toNat + cntL l r := rfl
        simp at e3
        omega
      · cases h
    · simp only [letF, hp] at h; cases h
theorem let_mem {l : List Dat} (hF : Fine l) : ∀ (L : List Int) (N : List ByteArray) (V : List Int) (N' : List ByteArray) (V' : List Int), (∀ b ∈ L, ∃ j : Nat, b = (j : Int) ∧ j < l.length) → (∀ b ∈ V, ∃ j : Nat, b = (j : Int) ∧ j < l.length) → letF l L N V = some (N', V') → ∀ b ∈ V', ∃ j : Nat, b = (j : Int) ∧ j < l.length
  | [], N, V, N', V', _, hV, h => by
    simp only [letF, Option.some.injEq, Prod.mk.injEq] at h
    rw [← h.2]; exact hV
  | a :: r, N, V, N', V', hb, hV, h => by
    obtain ⟨j, rfl, hj⟩ := hb a (by simp)
    rcases hp : partsD l (j : Int) with _ | ⟨x, _ | ⟨y, _ | ⟨z, q⟩⟩⟩
    · simp only [letF, hp] at h; cases h
    · simp only [letF, hp] at h; cases h
    · simp only [letF, hp] at h
      split at h
      · refine let_mem hF r _ _ N' V' (fun b h => hb b (List.mem_cons_of_mem _ h)) (fun b hbV => ?_) h
        rcases List.mem_append.1 hbV with hbV | hbV
        · exact hV b hbV
        · obtain rfl : b = y := by simpa using hbV
          obtain ⟨i, e1, e2, _⟩ := mem_partsD hF (show b ∈ partsD l (j : Int) by rw [hp]; simp)
          exact ⟨i, e1, e2⟩
      · cases h
    · simp only [letF, hp] at h; cases h
theorem allF_bound {l : List Dat} (f : Nat → List Cor → Int × List Cor) : ∀ (L : List Int) (C : List Cor), (∀ b ∈ L, ∀ D, (f b.toNat D).2.length ≤ D.length + 2 * cntB l b.toNat) → (allF f L C).2.length ≤ C.length + 2 * cntL l L
  | [], C, _ => Nat.le_add_right _ _
  | b :: r, C, h => by
    show (if (f b.toNat C).1 = 0 then allF f r (f b.toNat C).2 else f b.toNat C).2.length ≤ C.length + 2 * (cntB l b.toNat + cntL l r)
    have h1 := h b (by simp) C
    split
    · have := allF_bound f r (f b.toNat C).2 (fun c hc => h c (List.mem_cons_of_mem _ hc))
      omega
    · omega
theorem exp_bound {l : List Dat} (hF : Fine l) : ∀ (n a : Nat) (par : Int) (E : Env) (C : List Cor), a < l.length → (expF l n a par E C).2.length ≤ C.length + 2 * cntB l a := by
  intro n
  induction n with
  | zero => intro a par E C _; exact Nat.le_add_right _ _
  | succ n ih =>
    intro a par E C ha
    have hk := cnt_kids hF ha
    have hm : ∀ b ∈ partsD l a, ∃ j : Nat, b = (j : Int) ∧ j < l.length := fun b hb => by
      obtain ⟨j, h1, h2, _⟩ := mem_partsD hF hb
      exact ⟨j, h1, h2⟩
    have hall : ∀ (par : Int) (E : Env) (L : List Int) (D : List Cor), (∀ b ∈ L, ∃ j : Nat, b = (j : Int) ∧ j < l.length) → (allF (fun b D => expF l n b par E D) L D).2.length ≤ D.length + 2 * cntL l L := fun par E L D hL => allF_bound _ L D (fun b hb D => by
      obtain ⟨j, rfl, hj⟩ := hL b hb
      exact ih _ _ _ _ (by simpa using hj))
    have hkid : ∀ k, k < (partsD l a).length → ((partsD l a).getD k 0) ∈ partsD l a := fun k hk => by
      rw [List.getD_eq_getElem?_getD, List.getElem?_eq_getElem hk]; exact List.getElem_mem hk
    have hto : ∀ b ∈ partsD l a, b.toNat < l.length := fun b hb => by obtain ⟨j, rfl, hj⟩ := hm b hb; simpa using hj
    have hdrop := cntL_drop (l := l) (partsD l a) 1
    have hasg : ∀ k, (asgF l (expF l n) k (partsD l a) par E C).2.length ≤ C.length + 2 * cntB l a := fun k => by
      unfold asgF
      split
      · rename_i h
        have h2 := hkid 2 (by omega)
        have := ih _ C.length E (C ++ [coC k par 0 0 (nameAt l ((partsD l a).getD 1 0)) []]) (hto _ h2)
        have := cntL_mem (l := l) h2
        simp at *
        omega
      · exact Nat.le_add_right _ _
    have hone : ∀ t : Cor, (C ++ [t]).length ≤ C.length + 2 * cntB l a := fun t => by simp; omega
    have hif : ∀ t : Cor, (allF (fun b D => expF l n b C.length E D) ((partsD l a).drop 1) (C ++ [t])).2.length ≤ C.length + 2 * cntB l a := fun t => by
      have h1 := hall C.length E ((partsD l a).drop 1) (C ++ [t]) (fun b hb => hm b (List.mem_of_mem_drop hb))
      have h2 : (C ++ [t]).length = C.length + 1 := by simp
      omega
    simp only [expF]
    split
    · exact hone _
    · split
      · split
        · exact Nat.le_add_right _ _
        · split <;> exact hone _
      · split
        · exact Nat.le_add_right _ _
        · split
          · unfold formF
            split
            · split
              · exact hone _
              · exact Nat.le_add_right _ _
            · split
              · split
                · exact hif _
                · exact Nat.le_add_right _ _
              · split
                · split
                  · exact hif _
                  · exact Nat.le_add_right _ _
                · split
                  · unfold lamF
                    split
                    · rename_i h
                      split
                      · exact Nat.le_add_right _ _
                      · rename_i N hN
                        split
                        · exact Nat.le_add_right _ _
                        · have h2 := hkid 2 (by omega)
                          have h3 := ih _ C.length (N :: E) (C ++ [coC 5 par N.length 0 ⟨#[]⟩ []]) (hto _ h2)
                          have h4 := cntL_mem (l := l) h2
                          have h5 : (C ++ [coC 5 par N.length 0 ⟨#[]⟩ []]).length = C.length + 1 := by simp
                          omega
                    · exact Nat.le_add_right _ _
                  · split
                    · unfold letG
                      split
                      · rename_i h
                        split
                        · exact Nat.le_add_right _ _
                        · rename_i N V hN
                          split
                          · exact Nat.le_add_right _ _
                          · obtain ⟨x0, x1, x2, hp⟩ : ∃ x0 x1 x2, partsD l (a : Int) = [x0, x1, x2] := by
                              match partsD l (a : Int), h.1 with
                              | [x, y, z], _ => exact ⟨x, y, z, rfl⟩
                            have m1 : x1 ∈ partsD l (a : Int) := by rw [hp]; simp
                            have m2 : x2 ∈ partsD l (a : Int) := by rw [hp]; simp
                            rw [hp] at hN hk ⊢
                            have g1 : [x0, x1, x2].getD 1 0 = x1 := rfl
                            have g2 : [x0, x1, x2].getD 2 0 = x2 := rfl
                            rw [g1] at hN
                            rw [g2]
                            obtain ⟨j1, rfl, hj1⟩ := hm x1 m1
                            have hv := cnt_let hF _ [] [] N V (fun b hb => by obtain ⟨j, e1, e2, _⟩ := mem_partsD hF hb; exact ⟨j, e1, e2⟩) hN
                            have hk1 := cnt_kids hF hj1
                            have e1 : cntL l [x0, (j1 : Int), x2] = cntB l x0.toNat + (cntB l ((j1 : Int)).toNat + (cntB l x2.toNat + 0)) := rfl
                            have e2 : cntL l [] = 0 := rfl
                            have e3 : ((j1 : Int)).toNat = j1 := by simp
                            rw [e3] at e1
                            have hb := ih x2.toNat ((C.length + 1 : Nat) : Int) (N :: E) (C ++ [coC 9 par 0 0 ⟨#[]⟩ []] ++ [coC 5 C.length N.length 0 ⟨#[]⟩ []]) (hto _ m2)
                            have hl : (C ++ [coC 9 par 0 0 ⟨#[]⟩ []] ++ [coC 5 C.length N.length 0 ⟨#[]⟩ []]).length = C.length + 2 := by simp
                            have hVm : ∀ b ∈ V, ∃ j : Nat, b = (j : Int) ∧ j < l.length := let_mem hF _ [] [] N V (fun b hb => by obtain ⟨j, e1, e2, _⟩ := mem_partsD hF hb; exact ⟨j, e1, e2⟩) (fun b hb => by cases hb) hN
                            split
                            · have := hall C.length E V (expF l n x2.toNat ((C.length + 1 : Nat) : Int) (N :: E) (C ++ [coC 9 par 0 0 ⟨#[]⟩ []] ++ [coC 5 C.length N.length 0 ⟨#[]⟩ []])).2 hVm
                              omega
                            · omega
                      · exact Nat.le_add_right _ _
                    · split <;> exact hasg _
          · split
            · exact Nat.le_add_right _ _
            · have h1 := hall C.length E (partsD l a) (C ++ [coC 9 par 0 0 ⟨#[]⟩ []]) hm
              have h2 : (C ++ [coC 9 par 0 0 ⟨#[]⟩ []]).length = C.length + 1 := by simp
              omega
/-- All in all no more than two cores for each datum. -/
theorem exp_few {l : List Dat} (hF : Fine l) : (expF l l.length 0 (-1) [] []).2.length ≤ 900 := by
  have h1 := exp_bound hF l.length 0 (-1) [] [] hF.pos
  have h2 := cnt_all l 0
  have h3 := hF.len
  simp only [List.length_nil] at h1
  omega
end Go.Proofs.YtfdkklhigliciaaGreatDoor
