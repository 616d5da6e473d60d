/-
  Parts of the proof laid into one text, one behind the other: TgtMath. Contracts of the program's and the model's functions, and what they are proved of, as their theorems say.
-/
import Derived.Test.YtoafolefecddmaaGreatDoorUiB
import Derived.Lib.SlicesCompact
namespace Go.Proofs.YtoafolefecddmaaGreatDoor
open Go.Lib
def tgtO (t : Opr) : Int := if t.kind = 5 ∨ t.kind = 6 then t.a else if t.kind = 16 then t.c else -1
def hasT (t : Opr) : Bool := t.kind == 5 || (t.kind == 6 || t.kind == 16)
def tgts (l : List Opr) : List Int := (l.filter hasT).map tgtO
def isT (l : List Opr) (x : Int) : Bool := l.any (fun t => tgtO t == x)
def tgtTo (l : List Opr) (n : Nat) : List Int := ((List.range n).filter (fun (k : Nat) => isT l (k : Int))).map (fun (k : Nat) => (k : Int))
theorem strict_ext : ∀ (a b : List Int), a.Pairwise (· < ·) → b.Pairwise (· < ·) → (∀ x, x ∈ a ↔ x ∈ b) → a = b
  | [], [], _, _, _ => rfl
  | [], y :: b, _, _, h => by have := (h y).2 (by simp); cases this
  | x :: a, [], _, _, h => by have := (h x).1 (by simp); cases this
  | x :: a, y :: b, ha, hb, h => by
    rw [List.pairwise_cons] at ha hb
    have e : x = y := by
      have h1 : x ∈ y :: b := (h x).1 (by simp)
      have h2 : y ∈ x :: a := (h y).2 (by simp)
      rcases List.mem_cons.1 h1 with e | h1
      · exact e
      rcases List.mem_cons.1 h2 with e | h2
      · exact e.symm
      have := hb.1 x h1
      have := ha.1 y h2
      omega
    subst e
    rw [strict_ext a b ha.2 hb.2 (fun z => ?_)]
    constructor
    · intro hz
      have h1 := ha.1 z hz
      rcases List.mem_cons.1 ((h z).1 (List.mem_cons_of_mem _ hz)) with e | h2
      · omega
      · exact h2
    · intro hz
      have h1 := hb.1 z hz
      rcases List.mem_cons.1 ((h z).2 (List.mem_cons_of_mem _ hz)) with e | h2
      · omega
      · exact h2
theorem compact_up (d : Array Int) (hs : ∀ i j, i < j → j < d.size → d[i]! ≤ d[j]!) : ∀ m, m ≤ d.size → (compactUpTo d m).Pairwise (· < ·) ∧ (∀ x, x ∈ compactUpTo d m ↔ ∃ j, j < m ∧ d[j]! = x) ∧ ∀ x ∈ compactUpTo d m, x ≤ d[m - 1]!
  | 0, _ => by simp [compactUpTo]
  | m + 1, h => by
    obtain ⟨h1, h2, h3⟩ := compact_up d hs m (by omega)
    have hm : ∀ x ∈ compactUpTo d m, x ≤ d[m]! := fun x hx => by
      have hx3 := h3 x hx
      by_cases e : m = 0
      · subst e; simp [compactUpTo] at hx
      · have := hs (m - 1) m (by omega) (by omega); omega
    rw [compactUpTo_succ]
    by_cases hk : keeps d m = true
    · rw [if_pos hk]
      have hlt : ∀ x ∈ compactUpTo d m, x < d[m]! := fun x hx => by
        have hx3 := h3 x hx
        unfold keeps at hk
        have hk' : m = 0 ∨ d[m]! ≠ d[m - 1]! := of_decide_eq_true hk
        rcases hk' with e | e
        · subst e; simp [compactUpTo] at hx
        · by_cases e0 : m = 0
          · subst e0; simp [compactUpTo] at hx
          · have := hs (m - 1) m (by omega) (by omega)
            have e' : d[m]! ≠ d[m - 1]! := e
            omega
      refine ⟨List.pairwise_append.2 ⟨h1, by simp, fun x hx y hy => ?_⟩, fun x => ?_, fun x hx => ?_⟩
      · rw [List.mem_singleton] at hy
        subst hy
        exact hlt x hx
      · rw [List.mem_append, List.mem_singleton, h2]
        constructor
        · rintro (⟨j, hj, e⟩ | e)
          · exact ⟨j, by omega, e⟩
          · exact ⟨m, by omega, e.symm⟩
        · rintro ⟨j, hj, e⟩
          by_cases ej : j < m
          · exact .inl ⟨j, ej, e⟩
          · have : j = m := by omega
            subst this; exact .inr e.symm
      · rw [Nat.add_sub_cancel]
        rcases List.mem_append.1 hx with hx | hx
        · exact hm x hx
        · rw [List.mem_singleton] at hx; subst hx; exact Int.le_refl _
    · rw [if_neg hk, List.append_nil]
      have hk' : ¬ (m = 0 ∨ d[m]! ≠ d[m - 1]!) := fun e => hk (decide_eq_true e)
      have e0 : m ≠ 0 := fun e => hk' (.inl e)
      have e1 : d[m]! = d[m - 1]! := Classical.byContradiction fun e => hk' (.inr e)
      refine ⟨h1, fun x => ?_, fun x hx => ?_⟩
      · rw [h2]
        constructor
        · rintro ⟨j, hj, e⟩
          exact ⟨j, by omega, e⟩
        · rintro ⟨j, hj, e⟩
          by_cases ej : j < m
          · exact ⟨j, ej, e⟩
          · have : j = m := by omega
            subst this
            exact ⟨j - 1, by omega, by rw [← e1]; exact e⟩
      · rw [Nat.add_sub_cancel]; exact hm x hx
theorem compact_strict (zs : List Int) (hs : zs.Pairwise (· ≤ ·)) : (compact zs).Pairwise (· < ·) ∧ ∀ x, x ∈ compact zs ↔ x ∈ zs := by
  have hs' : ∀ i j, i < j → j < zs.toArray.size → zs.toArray[i]! ≤ zs.toArray[j]! := fun i j hij hj => by
    have hj' : j < zs.length := by simpa using hj
    have := List.pairwise_iff_getElem.1 hs i j (by omega) hj' hij
    simpa [hj', show i < zs.length by omega] using this
  obtain ⟨h1, h2, _⟩ := compact_up zs.toArray hs' zs.length (by simp)
  refine ⟨h1, fun x => ?_⟩
  unfold compact
  rw [h2]
  constructor
  · rintro ⟨j, hj, rfl⟩
    simp [hj]
  · intro hx
    obtain ⟨j, hj, e⟩ := List.getElem_of_mem hx
    exact ⟨j, hj, by simp [hj, e]⟩
theorem tgtTo_strict (l : List Opr) (n : Nat) : (tgtTo l n).Pairwise (· < ·) := by
  unfold tgtTo
  rw [List.pairwise_map]
  refine List.Pairwise.imp (R := (· < ·)) (fun h => by omega) ?_
  exact List.Pairwise.filter _ List.pairwise_lt_range
theorem tgt_mem (l : List Opr) (hf : ∀ t ∈ l, opFault t = 0) (x : Int) : x ∈ tgts l ↔ x ∈ tgtTo l 1000 := by
  have hb : ∀ t ∈ l, hasT t = true → 0 ≤ tgtO t ∧ tgtO t ≤ 999 := fun t ht hh => by
    have h0 := hf t ht
    have hin : (decide (1 ≤ t.kind) && decide (t.kind ≤ 16)) = true := by
      cases e : (decide (1 ≤ t.kind) && decide (t.kind ≤ 16))
      · unfold opFault at h0; rw [e] at h0; cases h0
      · rfl
    unfold opFault at h0
    rw [hin] at h0
    simp only [if_true] at h0
    by_cases e1 : (extraN t || extraT t) = true
    · rw [if_pos e1] at h0; cases h0
    rw [if_neg e1] at h0
    by_cases e2 : outO t = true
    · rw [if_pos e2] at h0; cases h0
    have e3 : outO t = false := by simpa using e2
    have ho : outN t.a = false ∧ outN t.b = false ∧ outN t.c = false ∧ outN t.d = false := by simpa [outO, numsL] using e3
    have oa : 0 ≤ t.a ∧ t.a ≤ 999 := by have := ho.1; simp only [outN, Bool.or_eq_false_iff, decide_eq_false_iff_not] at this; omega
    have oc : 0 ≤ t.c ∧ t.c ≤ 999 := by have := ho.2.2.1; simp only [outN, Bool.or_eq_false_iff, decide_eq_false_iff_not] at this; omega
    unfold tgtO
    unfold hasT at hh
    simp only [Bool.or_eq_true, beq_iff_eq] at hh
    by_cases k1 : t.kind = 5 ∨ t.kind = 6
    · rw [if_pos k1]; exact oa
    · rw [if_neg k1, if_pos (by omega)]; exact oc
  have hn : ∀ t, hasT t = false → tgtO t = -1 := fun t h => by
    unfold hasT at h
    simp only [Bool.or_eq_false_iff, beq_eq_false_iff_ne] at h
    unfold tgtO
    rw [if_neg (by omega), if_neg (by omega)]
  unfold tgts tgtTo isT
  simp only [List.mem_map, List.mem_filter, List.mem_range, List.any_eq_true, beq_iff_eq]
  constructor
  · rintro ⟨t, ⟨ht, hh⟩, rfl⟩
    have := hb t ht hh
    exact ⟨(tgtO t).toNat, ⟨by omega, t, ht, by omega⟩, by omega⟩
  · rintro ⟨k, ⟨_, t, ht, e⟩, rfl⟩
    refine ⟨t, ⟨ht, ?_⟩, e⟩
    cases hh : hasT t
    · have := hn t hh; omega
    · rfl
theorem tgt_sorted (l : List Opr) (hf : ∀ t ∈ l, opFault t = 0) : compact ((tgts l).mergeSort (fun x y => decide (x ≤ y))) = tgtTo l 1000 := by
  have hs : ((tgts l).mergeSort (fun x y => decide (x ≤ y))).Pairwise (· ≤ ·) := by
    have := List.pairwise_mergeSort (le := fun (x y : Int) => decide (x ≤ y)) (fun a b c h1 h2 => by simp at h1 h2 ⊢; omega) (fun a b => by simp; omega) (tgts l)
    exact this.imp (fun h => by simpa using h)
  obtain ⟨h1, h2⟩ := compact_strict _ hs
  refine strict_ext _ _ h1 (tgtTo_strict l 1000) (fun x => ?_)
  rw [h2, List.mem_mergeSort, tgt_mem l hf]
end Go.Proofs.YtoafolefecddmaaGreatDoor
