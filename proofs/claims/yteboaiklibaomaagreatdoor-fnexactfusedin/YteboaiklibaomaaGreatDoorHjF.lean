/-
  Parts of the proof laid into one text, one behind the other; each says at its head what is proved in it.
-/
import Derived.Test.YteboaiklibaomaaGreatDoorHgA
import Derived.Test.YteboaiklibaomaaGreatDoorTjB
import Derived.Deep.MidRow
import Derived.Test.YteboaiklibaomaaGreatDoorHjD
import Derived.Test.YteboaiklibaomaaGreatDoorHjE
import Derived.Test.YteboaiklibaomaaGreatDoorTiC
/-
  Code that is fused and taken apart: what two are as one, where targets are then; what is made of operations without fault has none.
-/
namespace Go.Proofs.YteboaiklibaomaaGreatDoor

/-- Whether a table has a bit. -/
def bitT (tb bit : Int) : Bool := tb / bit % 2 == 1
/-- What two kinds are as one; 0: the table has them not. -/
def twoK (tb j k : Int) : Int :=
  if j = 1 ∧ k = 12 then (if bitT tb 1 then 13 else 0)
  else if j = 2 ∧ k = 12 then (if bitT tb 2 then 14 else 0)
  else if j = 2 ∧ k = 2 then (if bitT tb 4 then 15 else 0)
  else if j = 2 ∧ k = 6 then (if bitT tb 8 then 16 else 0) else 0
def opK (k a b c d : Int) (x : List Dat) : Opr := ⟨k, a, b, c, d, ⟨#[]⟩, x⟩
def joinO (a b : Opr) (k : Int) : Opr := if k = 13 then opK 13 0 0 0 0 a.data else if k = 14 then opK 14 a.a a.b 0 0 [] else if k = 15 then opK 15 a.a a.b b.a b.b [] else opK 16 a.a a.b b.a 0 []
def splitO (t : Opr) : List Opr :=
  if t.kind = 13 then [opK 1 0 0 0 0 t.data, opK 12 0 0 0 0 []] else if t.kind = 14 then [opK 2 t.a t.b 0 0 [], opK 12 0 0 0 0 []]
  else if t.kind = 15 then [opK 2 t.a t.b 0 0 [], opK 2 t.c t.d 0 0 []] else if t.kind = 16 then [opK 2 t.a t.b 0 0 [], opK 6 t.c 0 0 0 []] else [t]
/-- Operations as far as they are made, and where the old ones are then. -/
abbrev StF := List Opr × List Int
def putF (s : StF) (old : Nat) (new : List Opr) : StF := (s.1 ++ new, s.2 ++ List.replicate old (s.1.length : Int))
def pairs (tb : Int) (l : List Opr) (i : Nat) (a b : Opr) : Bool := twoK tb a.kind b.kind != 0 && !(isT l ((i : Int) + 1))
def stepF (tb : Int) (l : List Opr) (s : StF) : StF :=
  match l[s.2.length]? with
  | none => s
  | some a => match l[s.2.length + 1]? with
    | none => putF s 1 [a]
    | some b => if pairs tb l s.2.length a b then putF s 2 [joinO a b (twoK tb a.kind b.kind)] else putF s 1 [a]
def runF (tb : Int) (l : List Opr) : Nat → StF
  | 0 => ([], [])
  | n + 1 => stepF tb l (runF tb l n)
def turnO (Q : List Int) (t : Opr) : Opr := if t.kind = 5 ∨ t.kind = 6 then { t with a := Q.getD t.a.toNat 0 } else if t.kind = 16 then { t with c := Q.getD t.c.toNat 0 } else t
def turned (s : StF) : List Opr := s.1.map (turnO s.2)
def fuseO (tb : Int) (l : List Opr) : List Opr := turned (runF tb l l.length)
def unfS (l : List Opr) : Nat → StF
  | 0 => ([], [])
  | k + 1 => match l[k]? with
    | none => unfS l k
    | some t => putF (unfS l k) 1 (splitO t)
def unfO (l : List Opr) : List Opr := turned (unfS l l.length)
def fuseB (tb : Int) (b : Blk) : Blk := ⟨b.args, fuseO tb b.ops⟩
def unfB (b : Blk) : Blk := ⟨b.args, unfO b.ops⟩
/-- One that two are made of, or one of the two of one. -/
def fine1 (n : Nat) (t : Opr) : Prop := opFault t = 0 ∧ (hasT t = true → 0 ≤ tgtO t ∧ tgtO t < (n : Int)) ∧ t.small
structure FInv (l : List Opr) (m : Nat) (s : StF) : Prop where
  olds : s.2.length ≤ l.length
  news : s.1.length ≤ m * s.2.length
  ops : ∀ t ∈ s.1, fine1 l.length t
  places : ∀ (j : Nat) (x : Int), s.2[j]? = some x → 0 ≤ x ∧ x ≤ (s.1.length : Int)
theorem FInv.zero (l : List Opr) (m : Nat) : FInv l m ([], []) := ⟨Nat.zero_le _, Nat.zero_le _, (fun t ht => by cases ht), (fun j x h => by simp at h)⟩
theorem FInv.put {l : List Opr} {m : Nat} {s : StF} (h : FInv l m s) {old : Nat} {new : List Opr} (h1 : s.2.length + old ≤ l.length) (h2 : new.length ≤ m * old) (h3 : ∀ t ∈ new, fine1 l.length t) : FInv l m (putF s old new) := by
  refine ⟨by simpa [putF] using h1, ?_, ?_, ?_⟩
  · have := h.news
    simp only [putF, List.length_append, List.length_replicate, Nat.mul_add]; omega
  · intro t ht
    rcases List.mem_append.1 ht with q | q
    · exact h.ops t q
    · exact h3 t q
  · intro j x hj
    simp only [putF] at hj ⊢
    by_cases e : j < s.2.length
    · rw [List.getElem?_append_left e] at hj
      have := h.places j x hj
      simp only [List.length_append]; omega
    · rw [List.getElem?_append_right (by omega), List.getElem?_replicate] at hj
      split at hj
      · have := Option.some.inj hj
        simp only [List.length_append]; omega
      · cases hj
theorem hasT_kind {t : Opr} : hasT t = true ↔ t.kind = 5 ∨ t.kind = 6 ∨ t.kind = 16 := by simp [hasT]
theorem fineF_of {l : List Opr} (h0 : ∀ t ∈ l, opFault t = 0) (hs : ∀ t ∈ l, t.small) (ho : leadsOut l = false) : ∀ t ∈ l, fine1 l.length t := fun t ht => by
  refine ⟨h0 t ht, fun hh => ?_, hs t ht⟩
  have h1 := (opBnd (h0 t ht)).tgt hh
  have h2 : outO1 l.length t = false := by
    cases e : outO1 l.length t
    · rfl
    · have : leadsOut l = true := List.any_eq_true.2 ⟨t, ht, e⟩
      rw [ho] at this; cases this
  simp only [outO1, hh, Bool.true_and, decide_eq_false_iff_not] at h2
  omega
/-- What a kind without a name, data or some numbers has: nothing of it. -/
theorem fault_parts {t : Opr} (h : opFault t = 0) : extraN t = false ∧ extraT t = false ∧ (constO t.kind = true → dataFault t.data = 0) := by
  have hb := opBnd h
  have hin : (decide (1 ≤ t.kind) && decide (t.kind ≤ 16)) = true := by simp [hb.k1, hb.k2]
  unfold opFault at h
  rw [hin] at h
  simp only [if_true] at h
  by_cases e1 : (extraN t || extraT t) = true
  · rw [if_pos e1] at h; cases h
  rw [if_neg e1] at h
  simp only [Bool.not_eq_true, Bool.or_eq_false_iff] at e1
  refine ⟨e1.1, e1.2, fun hc => ?_⟩
  have hn : namedO t.kind = false := by
    unfold constO at hc; unfold namedO
    simp only [Bool.or_eq_true, beq_iff_eq] at hc
    rcases hc with e | e <;> rw [e] <;> rfl
  by_cases e2 : outO t = true
  · rw [if_pos e2] at h; cases h
  rw [if_neg e2] at h
  by_cases e3 : manyO t = true
  · rw [if_pos e3] at h; cases h
  rw [if_neg e3, hn, hc] at h
  simpa using h
theorem size_nil : ({ data := #[] } : ByteArray).size = 0 := rfl
theorem fault_plain {k a b c d : Int} {x : List Dat} (hk : k = 2 ∨ k = 6 ∨ k = 12 ∨ k = 14 ∨ k = 15 ∨ k = 16) (hx : x = []) (ha : 0 ≤ a ∧ a ≤ 999) (hb : 0 ≤ b ∧ b ≤ 999) (hc : 0 ≤ c ∧ c ≤ 999) (hd : 0 ≤ d ∧ d ≤ 999) (he : extraN (opK k a b c d x) = false) : opFault (opK k a b c d x) = 0 := by
  subst hx
  have hout : outO (opK k a b c d []) = false := by
    have q : ∀ x : Int, 0 ≤ x ∧ x ≤ 999 → outN x = false := fun x hx => by
      unfold outN
      rw [Bool.or_eq_false_iff]
      exact ⟨decide_eq_false (by omega), decide_eq_false (by omega)⟩
    simp [outO, numsL, opK, q _ ha, q _ hb, q _ hc, q _ hd]
  unfold opFault
  rw [he, hout]
  rcases hk with e | e | e | e | e | e <;> subst e <;> simp [opK, extraT, namedO, constO, manyO, size_nil]
theorem fault_const {k : Int} {x : List Dat} (hk : k = 1 ∨ k = 13) (hd : dataFault x = 0) : opFault (opK k 0 0 0 0 x) = 0 := by
  unfold opFault
  rcases hk with e | e <;> subst e <;> simp [opK, extraN, extraT, namedO, constO, manyO, outO, outN, numsL, numsO, hd, size_nil]
theorem small_K {k a b c d : Int} : (opK k a b c d []).small := ⟨by simp [opK, size_nil], by simp [opK], fun k h => by simp [opK] at h⟩
theorem small_D {k a b c d : Int} {t : Opr} (h : t.small) : (opK k a b c d t.data).small := ⟨by simp [opK, size_nil], h.len, h.names⟩
theorem nums_of {t : Opr} (he : extraN t = false) (n : Nat) (hn : numsO t.kind = n) : ((numsL t).drop n).all (· == 0) = true := by
  unfold extraN at he
  rw [hn] at he
  rw [List.any_eq_false] at he
  rw [List.all_eq_true]
  intro x hx
  have := he x hx
  simpa using this
theorem fine_return (n : Nat) : fine1 n (opK 12 0 0 0 0 []) := ⟨fault_plain (by simp) rfl (by omega) (by omega) (by omega) (by omega) rfl, fun h => by simp [hasT, opK] at h, small_K⟩
theorem fine_local {n : Nat} {a b : Int} (ha : 0 ≤ a ∧ a ≤ 999) (hb : 0 ≤ b ∧ b ≤ 999) : fine1 n (opK 2 a b 0 0 []) := ⟨fault_plain (by simp) rfl ha hb (by omega) (by omega) (by simp [extraN, numsL, numsO, opK]), fun h => by simp [hasT, opK] at h, small_K⟩
theorem fine_split {n : Nat} {t : Opr} (h : fine1 n t) : ∀ u ∈ splitO t, fine1 n u := by
  have hb := opBnd h.1
  have ha := And.intro hb.a1 hb.a2
  have hbb := And.intro hb.b1 hb.b2
  have hcc := And.intro hb.c1 hb.c2
  have hdd := And.intro hb.d1 hb.d2
  obtain ⟨he, -, hdat⟩ := fault_parts h.1
  intro u hu
  unfold splitO at hu
  by_cases k1 : t.kind = 13
  · rw [if_pos k1] at hu
    simp only [List.mem_cons, List.not_mem_nil, or_false] at hu
    rcases hu with rfl | rfl
    · exact ⟨fault_const (.inl rfl) (hdat (by rw [k1]; rfl)), fun h => by simp [hasT, opK] at h, small_D h.2.2⟩
    · exact fine_return n
  rw [if_neg k1] at hu
  by_cases k2 : t.kind = 14
  · rw [if_pos k2] at hu
    simp only [List.mem_cons, List.not_mem_nil, or_false] at hu
    rcases hu with rfl | rfl
    · exact fine_local ha hbb
    · exact fine_return n
  rw [if_neg k2] at hu
  by_cases k3 : t.kind = 15
  · rw [if_pos k3] at hu
    simp only [List.mem_cons, List.not_mem_nil, or_false] at hu
    rcases hu with rfl | rfl
    · exact fine_local ha hbb
    · exact fine_local hcc hdd
  rw [if_neg k3] at hu
  by_cases k4 : t.kind = 16
  · rw [if_pos k4] at hu
    simp only [List.mem_cons, List.not_mem_nil, or_false] at hu
    rcases hu with rfl | rfl
    · exact fine_local ha hbb
    · have ht := h.2.1 (hasT_kind.2 (.inr (.inr k4)))
      have hte : tgtO t = t.c := by unfold tgtO; rw [if_neg (by omega), if_pos k4]
      rw [hte] at ht
      exact ⟨fault_plain (by simp) rfl hcc (by omega) (by omega) (by omega) (by simp [extraN, numsL, numsO, opK]), fun _ => by simpa [tgtO, opK] using ht, small_K⟩
  rw [if_neg k4] at hu
  simp only [List.mem_cons, List.not_mem_nil, or_false] at hu
  rw [hu]; exact h
theorem split_len (t : Opr) : (splitO t).length ≤ 2 * 1 := by
  unfold splitO
  by_cases k1 : t.kind = 13
  · rw [if_pos k1]; simp
  rw [if_neg k1]
  by_cases k2 : t.kind = 14
  · rw [if_pos k2]; simp
  rw [if_neg k2]
  by_cases k3 : t.kind = 15
  · rw [if_pos k3]; simp
  rw [if_neg k3]
  by_cases k4 : t.kind = 16
  · rw [if_pos k4]; simp
  rw [if_neg k4]; simp
theorem twoK_cases {tb j k : Int} (h : twoK tb j k ≠ 0) : (twoK tb j k = 13 ∧ j = 1 ∧ k = 12) ∨ (twoK tb j k = 14 ∧ j = 2 ∧ k = 12) ∨ (twoK tb j k = 15 ∧ j = 2 ∧ k = 2) ∨ (twoK tb j k = 16 ∧ j = 2 ∧ k = 6) := by
  unfold twoK at h ⊢
  by_cases e1 : j = 1 ∧ k = 12
  · rw [if_pos e1] at h ⊢
    cases e : bitT tb 1
    · rw [e] at h; exact absurd rfl h
    · exact .inl ⟨rfl, e1⟩
  rw [if_neg e1] at h ⊢
  by_cases e2 : j = 2 ∧ k = 12
  · rw [if_pos e2] at h ⊢
    cases e : bitT tb 2
    · rw [e] at h; exact absurd rfl h
    · exact .inr (.inl ⟨rfl, e2⟩)
  rw [if_neg e2] at h ⊢
  by_cases e3 : j = 2 ∧ k = 2
  · rw [if_pos e3] at h ⊢
    cases e : bitT tb 4
    · rw [e] at h; exact absurd rfl h
    · exact .inr (.inr (.inl ⟨rfl, e3⟩))
  rw [if_neg e3] at h ⊢
  by_cases e4 : j = 2 ∧ k = 6
  · rw [if_pos e4] at h ⊢
    cases e : bitT tb 8
    · rw [e] at h; exact absurd rfl h
    · exact .inr (.inr (.inr ⟨rfl, e4⟩))
  rw [if_neg e4] at h
  exact absurd rfl h
theorem fine_join {n : Nat} {tb : Int} {a b : Opr} (ha : fine1 n a) (hb : fine1 n b) (hk : twoK tb a.kind b.kind ≠ 0) : fine1 n (joinO a b (twoK tb a.kind b.kind)) := by
  have qa := opBnd ha.1
  have qb := opBnd hb.1
  have a1 := And.intro qa.a1 qa.a2
  have a2 := And.intro qa.b1 qa.b2
  have b1 := And.intro qb.a1 qb.a2
  have b2 := And.intro qb.b1 qb.b2
  rcases twoK_cases hk with ⟨e, k1, k2⟩ | ⟨e, k1, k2⟩ | ⟨e, k1, k2⟩ | ⟨e, k1, k2⟩ <;> rw [e] <;> unfold joinO
  · rw [if_pos rfl]
    exact ⟨fault_const (.inr rfl) ((fault_parts ha.1).2.2 (by rw [k1]; rfl)), fun h => by simp [hasT, opK] at h, small_D ha.2.2⟩
  · rw [if_neg (by omega), if_pos rfl]
    exact ⟨fault_plain (by simp) rfl a1 a2 (by omega) (by omega) (by simp [extraN, numsL, numsO, opK]), fun h => by simp [hasT, opK] at h, small_K⟩
  · rw [if_neg (by omega), if_neg (by omega), if_pos rfl]
    exact ⟨fault_plain (by simp) rfl a1 a2 b1 b2 (by simp [extraN, numsL, numsO, opK]), fun h => by simp [hasT, opK] at h, small_K⟩
  · rw [if_neg (by omega), if_neg (by omega), if_neg (by omega)]
    have ht := hb.2.1 (hasT_kind.2 (.inr (.inl k2)))
    have hte : tgtO b = b.a := by unfold tgtO; rw [if_pos (.inr k2)]
    rw [hte] at ht
    exact ⟨fault_plain (by simp) rfl a1 a2 b1 (by omega) (by simp [extraN, numsL, numsO, opK]), fun _ => by simpa [tgtO, opK] using ht, small_K⟩
theorem runF_inv {tb : Int} {l : List Opr} (hf : ∀ t ∈ l, fine1 l.length t) : ∀ n, FInv l 1 (runF tb l n)
  | 0 => FInv.zero l 1
  | n + 1 => by
    have h := runF_inv (tb := tb) hf n
    simp only [runF]
    generalize runF tb l n = s at h
    unfold stepF
    cases e1 : l[s.2.length]? with
    | none => exact h
    | some a =>
      have h1 : s.2.length < l.length := by
        rcases Nat.lt_or_ge s.2.length l.length with q | q
        · exact q
        · rw [List.getElem?_eq_none_iff.2 q] at e1; cases e1
      have m1 := List.mem_of_getElem? e1
      cases e2 : l[s.2.length + 1]? with
      | none => exact h.put (by omega) (by simp) (fun t ht => by simp only [List.mem_cons, List.not_mem_nil, or_false] at ht; rw [ht]; exact hf a m1)
      | some b =>
        have h2 : s.2.length + 1 < l.length := by
          rcases Nat.lt_or_ge (s.2.length + 1) l.length with q | q
          · exact q
          · rw [List.getElem?_eq_none_iff.2 q] at e2; cases e2
        have m2 := List.mem_of_getElem? e2
        show FInv l 1 (if pairs tb l s.2.length a b then _ else _)
        cases e3 : pairs tb l s.2.length a b
        · exact h.put (by omega) (by simp) (fun t ht => by simp only [List.mem_cons, List.not_mem_nil, or_false] at ht; rw [ht]; exact hf a m1)
        · refine h.put (by omega) (by simp) (fun t ht => ?_)
          simp only [List.mem_cons, List.not_mem_nil, or_false] at ht
          rw [ht]
          unfold pairs at e3
          simp only [Bool.and_eq_true, bne_iff_ne] at e3
          exact fine_join (hf a m1) (hf b m2) e3.1
theorem unfS_inv {l : List Opr} (hf : ∀ t ∈ l, fine1 l.length t) : ∀ k, k ≤ l.length → FInv l 2 (unfS l k) ∧ (unfS l k).2.length = k
  | 0, _ => ⟨FInv.zero l 2, rfl⟩
  | k + 1, hk => by
    obtain ⟨h, hl⟩ := unfS_inv hf k (by omega)
    have e : l[k]? = some (l[k]'(by omega)) := List.getElem?_eq_getElem (by omega)
    simp only [unfS, e]
    refine ⟨h.put (by omega) ?_ (fine_split (hf _ (List.getElem_mem _))), by simp [putF, hl]⟩
    exact split_len _
theorem runF_step {tb : Int} {l : List Opr} (n : Nat) (h : (runF tb l n).2.length < l.length) : (runF tb l n).2.length < (runF tb l (n + 1)).2.length := by
  simp only [runF]
  generalize runF tb l n = s at h
  unfold stepF
  rw [List.getElem?_eq_getElem h]
  cases l[s.2.length + 1]? with
  | none => simp [putF]
  | some b =>
    show s.2.length < (if _ then _ else _ : StF).2.length
    split <;> simp [putF]
theorem runF_done {tb : Int} {l : List Opr} (n : Nat) (h : l.length ≤ (runF tb l n).2.length) : ∀ k, runF tb l (n + k) = runF tb l n
  | 0 => rfl
  | k + 1 => by
    have e := runF_done n h k
    show stepF tb l (runF tb l (n + k)) = _
    rw [e]
    unfold stepF
    rw [List.getElem?_eq_none_iff.2 h]
theorem runF_le {tb : Int} {l : List Opr} : ∀ n, n ≤ l.length → n ≤ (runF tb l n).2.length ∨ l.length ≤ (runF tb l n).2.length
  | 0, _ => .inl (Nat.zero_le _)
  | n + 1, hn => by
    rcases Nat.lt_or_ge (runF tb l n).2.length l.length with q | q
    · have := runF_step (tb := tb) n q
      rcases runF_le (tb := tb) (l := l) n (by omega) with h | h <;> omega
    · right; have := runF_done (tb := tb) n q 1; rw [this]; exact q
theorem runF_end {tb : Int} {l : List Opr} (n : Nat) (h : l.length ≤ (runF tb l n).2.length) : runF tb l n = runF tb l l.length := by
  have h2 : l.length ≤ (runF tb l l.length).2.length := by rcases runF_le (tb := tb) (l := l) l.length (Nat.le_refl _) with q | q <;> exact q
  rcases Nat.le_total n l.length with q | q
  · have := runF_done n h (l.length - n)
    rw [show n + (l.length - n) = l.length by omega] at this
    exact this.symm
  · have := runF_done l.length h2 (n - l.length)
    rw [show l.length + (n - l.length) = n by omega] at this
    exact this
/-- What is turned is as it was but for where it leads to. -/
theorem turn_fine {Q : List Int} {n : Nat} {t : Opr} (h : fine1 n t) (hq : ∀ (j : Nat) (x : Int), Q[j]? = some x → 0 ≤ x ∧ x ≤ 400) : opFault (turnO Q t) = 0 ∧ (turnO Q t).small := by
  have hd : ∀ j, 0 ≤ Q.getD j 0 ∧ Q.getD j 0 ≤ 999 := fun j => by
    rcases Nat.lt_or_ge j Q.length with q | q
    · have := hq j (Q.getD j 0) (by simp [q])
      omega
    · simp [List.getD_eq_getElem?_getD, List.getElem?_eq_none_iff.2 q]
  have hb := opBnd h.1
  obtain ⟨he, hT, -⟩ := fault_parts h.1
  unfold turnO
  by_cases k1 : t.kind = 5 ∨ t.kind = 6
  · rw [if_pos k1]
    refine ⟨?_, h.2.2.name, h.2.2.len, h.2.2.names⟩
    have hnm : 0 < t.name.size → False := fun q => by
      unfold extraT at hT
      rcases k1 with e | e <;> rw [e] at hT <;> simp [namedO, constO, q] at hT
    have hdt : 0 < t.data.length → False := fun q => by
      unfold extraT at hT
      rcases k1 with e | e <;> rw [e] at hT <;> simp [namedO, constO, q] at hT
    have hn := nums_of he 1 (by rcases k1 with e | e <;> rw [e] <;> rfl)
    simp [numsL] at hn
    have hnn : ¬ 0 < t.name.size := fun q => hnm q
    have hdd : ¬ 0 < t.data.length := fun q => hdt q
    have hz := hd t.a.toNat
    have ho : outN (Q.getD t.a.toNat 0) = false := by
      unfold outN
      rw [Bool.or_eq_false_iff]
      exact ⟨decide_eq_false (by omega), decide_eq_false (by omega)⟩
    generalize Q.getD t.a.toNat 0 = z at *
    unfold opFault
    rcases k1 with e | e <;> rw [e] <;> simp only [extraN, extraT, namedO, constO, manyO, outO, numsL, numsO] <;> (simp [hn, hnn, hdd, ho]; try simp [outN])
  rw [if_neg k1]
  by_cases k2 : t.kind = 16
  · rw [if_pos k2]
    refine ⟨?_, h.2.2.name, h.2.2.len, h.2.2.names⟩
    have hnn : ¬ 0 < t.name.size := fun q => by
      unfold extraT at hT
      rw [k2] at hT; simp [namedO, constO, q] at hT
    have hdd : ¬ 0 < t.data.length := fun q => by
      unfold extraT at hT
      rw [k2] at hT; simp [namedO, constO, q] at hT
    have hn := nums_of he 3 (by rw [k2]; rfl)
    simp [numsL] at hn
    have hz := hd t.c.toNat
    have q : ∀ x : Int, 0 ≤ x ∧ x ≤ 999 → outN x = false := fun x hx => by
      unfold outN
      rw [Bool.or_eq_false_iff]
      exact ⟨decide_eq_false (by omega), decide_eq_false (by omega)⟩
    have ho := q _ hz
    have oa := q _ ⟨hb.a1, hb.a2⟩
    have ob := q _ ⟨hb.b1, hb.b2⟩
    generalize Q.getD t.c.toNat 0 = z at *
    unfold opFault
    rw [k2]
    simp only [extraN, extraT, namedO, constO, manyO, outO, numsL, numsO]
    simp [hn, hnn, hdd, ho, oa, ob]
    simp [outN]
  · rw [if_neg k2]; exact ⟨h.1, h.2.2⟩
theorem unf_fault {b : Blk} (hb : blkFault b = 0) (hs : ∀ t ∈ b.ops, t.small) (ho : leadsOut b.ops = false) : blkFault (unfB b) = (if 200 < (unfO b.ops).length then 2 else 0) ∧ (∀ t ∈ (unfB b).ops, opFault t = 0 ∧ t.small) ∧ (unfO b.ops).length ≤ 400 := by
  obtain ⟨h1, h2, h3, h4⟩ := blk_ops hb
  have hf := fineF_of h2 hs ho
  obtain ⟨hi, hl⟩ := unfS_inv hf b.ops.length (Nat.le_refl _)
  have hp : ∀ (j : Nat) (x : Int), (unfS b.ops b.ops.length).2[j]? = some x → 0 ≤ x ∧ x ≤ 400 := fun j x hj => by
    have := hi.places j x hj
    have := hi.news
    omega
  have ht : ∀ t ∈ (unfB b).ops, opFault t = 0 ∧ t.small := fun t ht => by
    obtain ⟨u, hu, rfl⟩ := List.mem_map.1 ht
    exact turn_fine (hi.ops u hu) hp
  have hlen : (unfO b.ops).length ≤ 400 := by
    have := hi.news
    simp only [unfO, turned, List.length_map]; omega
  refine ⟨?_, ht, hlen⟩
  unfold blkFault
  have hn : ¬ ((decide ((unfB b).args < 0) || decide (3 < (unfB b).args)) = true) := by
    show ¬ ((decide (b.args < 0) || decide (3 < b.args)) = true)
    simp only [Bool.or_eq_true, decide_eq_true_eq]; omega
  rw [if_neg hn]
  show (if 200 < (unfO b.ops).length then _ else _) = _
  by_cases q : 200 < (unfO b.ops).length
  · rw [if_pos q, if_pos q]
  · rw [if_neg q, if_neg q]
    have : ∀ r : List Opr, (∀ t ∈ r, opFault t = 0) → firstC opFault r = 0 := by
      intro r hr
      induction r with
      | nil => rfl
      | cons t r ih => rw [firstC, if_pos (hr t (by simp)), ih (fun u hu => hr u (by simp [hu]))]
    exact this _ (fun t h => (ht t h).1)
/-- How many are two at once. -/
def fusedO (l : List Opr) : Nat → Int
  | 0 => 0
  | k + 1 => fusedO l k + (if 12 < (l.getD k (opK 0 0 0 0 0 [])).kind then 1 else 0)
def fusedL (l : List Blk) : Nat → Int
  | 0 => 0
  | k + 1 => fusedL l k + fusedO (l.getD k ⟨0, []⟩).ops (l.getD k ⟨0, []⟩).ops.length
theorem fusedO_le (l : List Opr) : ∀ k : Nat, 0 ≤ fusedO l k ∧ fusedO l k ≤ (k : Int)
  | 0 => by simp [fusedO]
  | k + 1 => by
    have := fusedO_le l k
    simp only [fusedO]
    split <;> omega
theorem fusedL_le (l : List Blk) (h : ∀ k, k < l.length → (l.getD k ⟨0, []⟩).ops.length ≤ 200) : ∀ k : Nat, k ≤ l.length → 0 ≤ fusedL l k ∧ fusedL l k ≤ 200 * (k : Int)
  | 0, _ => by simp [fusedL]
  | k + 1, hk => by
    have h1 := fusedL_le l h k (by omega)
    have h2 := fusedO_le (l.getD k ⟨0, []⟩).ops (l.getD k ⟨0, []⟩).ops.length
    have h3 := h k (by omega)
    simp only [fusedL]
    omega
end Go.Proofs.YteboaiklibaomaaGreatDoor
/-
  The program's table of pairs, and fusionInto: what an operation is two of; nothing that was there is turned.
-/
namespace Go.Proofs.YteboaiklibaomaaGreatDoor
open Go.RowKit Go.Extern.Stop Go.Stop Go.Extern Num Go.Lib

/-- Bit, first, second and both of each pair, one behind the other. -/
def fusT : List Int := [1, 1, 12, 13, 2, 2, 12, 14, 4, 2, 2, 15, 8, 2, 6, 16]
/-- The table as it lies. -/
structure FU (w : World) : Prop where
  lt : 0 < w.heap.size
  range : w.rangeAt 0 0 [.int .i64 1, .int .i64 1, .int .i64 12, .int .i64 13, .int .i64 2, .int .i64 2, .int .i64 12, .int .i64 14, .int .i64 4, .int .i64 2, .int .i64 2, .int .i64 15, .int .i64 8, .int .i64 2, .int .i64 6, .int .i64 16]
theorem FU.below {w w' : World} (h : FU w) (hb : Below w.heap.size w w') : FU w' := ⟨Nat.lt_of_lt_of_le h.lt hb.size, fun j v hj => cell_keep hb (h.range j v hj)⟩
/-- A pair as a value: the number q of the table; 4: none. -/
def fusV (q : Nat) : Value := .agg #[.int .i64 (fusT.getD (q * 4) 0), .int .i64 (fusT.getD (q * 4 + 1) 0), .int .i64 (fusT.getD (q * 4 + 2) 0), .int .i64 (fusT.getD (q * 4 + 3) 0)]
def fusK (k : Int) : Nat := if k = 13 then 0 else if k = 14 then 1 else if k = 15 then 2 else if k = 16 then 3 else 4
theorem idxFu0 (u : World) : (Instr.index 99 (.agg #[.int .i64 1, .int .i64 1, .int .i64 12, .int .i64 13, .int .i64 2, .int .i64 2, .int .i64 12, .int .i64 14, .int .i64 4, .int .i64 2, .int .i64 2, .int .i64 15, .int .i64 8, .int .i64 2, .int .i64 6, .int .i64 16]) (.int .i64 0)).run Tryz.prog u = .ok (.agg #[.int .i64 1, .int .i64 1, .int .i64 12, .int .i64 13]) u := by kernel_rfl
theorem idxFu1 (u : World) : (Instr.index 99 (.agg #[.int .i64 1, .int .i64 1, .int .i64 12, .int .i64 13, .int .i64 2, .int .i64 2, .int .i64 12, .int .i64 14, .int .i64 4, .int .i64 2, .int .i64 2, .int .i64 15, .int .i64 8, .int .i64 2, .int .i64 6, .int .i64 16]) (.int .i64 1)).run Tryz.prog u = .ok (.agg #[.int .i64 2, .int .i64 2, .int .i64 12, .int .i64 14]) u := by kernel_rfl
theorem idxFu2 (u : World) : (Instr.index 99 (.agg #[.int .i64 1, .int .i64 1, .int .i64 12, .int .i64 13, .int .i64 2, .int .i64 2, .int .i64 12, .int .i64 14, .int .i64 4, .int .i64 2, .int .i64 2, .int .i64 15, .int .i64 8, .int .i64 2, .int .i64 6, .int .i64 16]) (.int .i64 2)).run Tryz.prog u = .ok (.agg #[.int .i64 4, .int .i64 2, .int .i64 2, .int .i64 15]) u := by kernel_rfl
theorem idxFu3 (u : World) : (Instr.index 99 (.agg #[.int .i64 1, .int .i64 1, .int .i64 12, .int .i64 13, .int .i64 2, .int .i64 2, .int .i64 12, .int .i64 14, .int .i64 4, .int .i64 2, .int .i64 2, .int .i64 15, .int .i64 8, .int .i64 2, .int .i64 6, .int .i64 16]) (.int .i64 3)).run Tryz.prog u = .ok (.agg #[.int .i64 8, .int .i64 2, .int .i64 6, .int .i64 16]) u := by kernel_rfl
theorem fusK_no {k : Int} (h : ∀ q, q < 4 → fusT.getD (q * 4 + 3) 0 ≠ k) : fusK k = 4 := by
  have h0 : (13 : Int) ≠ k := h 0 (by omega)
  have h1 : (14 : Int) ≠ k := h 1 (by omega)
  have h2 : (15 : Int) ≠ k := h 2 (by omega)
  have h3 : (16 : Int) ≠ k := h 3 (by omega)
  unfold fusK
  rw [if_neg (fun e => h0 e.symm), if_neg (fun e => h1 e.symm), if_neg (fun e => h2 e.symm), if_neg (fun e => h3 e.symm)]
set_option maxHeartbeats 2000000 in
theorem fusionInto_any (k : Int) (w : World) (hF : FU w) : Calls Tryz.prog 38 #[.int .i64 k] w fun e w' => e = .returned (.tuple #[fusV (fusK k), .bool (decide (fusK k < 4))]) ∧ Below w.heap.size w w' := by
  obtain ⟨W, hW⟩ : ∃ W, W = w.alloc (.cells #[.int .i64 0, .int .i64 0, .int .i64 0, .int .i64 0] 68) := ⟨_, rfl⟩
  have hb0 : Below w.heap.size w W := by rw [hW]; exact bnew _ _
  have HW : Hid (W = w.alloc (.cells #[.int .i64 0, .int .i64 0, .int .i64 0, .int .i64 0] 68)) := hW
  have r0 : W.cell? ⟨w.heap.size, 0, none⟩ = some (.int .i64 0) := by rw [hW]; simp [go_sem]
  have r1 : W.cell? ⟨w.heap.size, 1, none⟩ = some (.int .i64 0) := by rw [hW]; simp [go_sem]
  have r2 : W.cell? ⟨w.heap.size, 2, none⟩ = some (.int .i64 0) := by rw [hW]; simp [go_sem]
  have r3 : W.cell? ⟨w.heap.size, 3, none⟩ = some (.int .i64 0) := by rw [hW]; simp [go_sem]
  have rf : ∀ j, W.frozen? ⟨w.heap.size, j, none⟩ = false := fun j => by rw [hW]; simp [go_sem]
  have rl : w.heap.size < W.heap.size := by rw [hW]; simp
  have HQ : Hid (∀ u, Below W.heap.size W u → u.cell? ⟨w.heap.size, 0, none⟩ = some (.int .i64 0) ∧ u.cell? ⟨w.heap.size, 1, none⟩ = some (.int .i64 0) ∧ u.cell? ⟨w.heap.size, 2, none⟩ = some (.int .i64 0) ∧ u.cell? ⟨w.heap.size, 3, none⟩ = some (.int .i64 0) ∧ (∀ j, u.frozen? ⟨w.heap.size, j, none⟩ = false) ∧ w.heap.size < u.heap.size) := fun u hu => ⟨cell_keep hu r0, cell_keep hu r1, cell_keep hu r2, cell_keep hu r3, fun j => by rw [(bcell hu).2 _ _ rl]; exact rf j, Nat.lt_of_lt_of_le rl hu.size⟩
  have HB0 : Hid (Below w.heap.size w W) := hb0
  have HR : Hid (W.rangeAt 0 0 [.int .i64 1, .int .i64 1, .int .i64 12, .int .i64 13, .int .i64 2, .int .i64 2, .int .i64 12, .int .i64 14, .int .i64 4, .int .i64 2, .int .i64 2, .int .i64 15, .int .i64 8, .int .i64 2, .int .i64 6, .int .i64 16]) := (hF.below hb0).range
  clear hF hb0 hW r0 r1 r2 r3 rf rl
  go_enter Tryz.func38, Tryz.ntmps38
  go_wp2_with (rw [← HW.out]; refine wpList_load_mid rfl 99 _ rfl 0 0 rfl [.int .i64 1, .int .i64 1, .int .i64 12, .int .i64 13, .int .i64 2, .int .i64 2, .int .i64 12, .int .i64 14, .int .i64 4, .int .i64 2, .int .i64 2, .int .i64 15, .int .i64 8, .int .i64 2, .int .i64 6, .int .i64 16] _ HR.out Tryz.underlying99 rfl (by kernel_rfl) ?_; clear HR)
  go_loopw [7] (fun i wr => ∃ j : Nat, j ≤ 4 ∧ i = .int .i64 (j : Int) ∧ Hid (∀ q, q < j → fusT.getD (q * 4 + 3) 0 ≠ k) ∧ Below W.heap.size W wr) (fun i _ => 4 - (RowKit.intOf i).toNat)
  case atStart => exact ⟨0, by omega, rfl, fun q hq => by omega, Below.refl _ _⟩
  case round =>
    obtain ⟨j, hj, rfl, HN, hb⟩ := hrel
    obtain ⟨q0, q1, q2, q3, qf, ql⟩ := HQ.out wr hb
    have HB : Hid (Below w.heap.size w wr) := HB0.out.trans (hb.mono HB0.out.size)
    have HBW : Hid (Below W.heap.size W wr) := hb
    clear hb
    rcases (show j = 0 ∨ j = 1 ∨ j = 2 ∨ j = 3 ∨ j = 4 by omega) with rfl | rfl | rfl | rfl | rfl
    · have hix := idxFu0
      by_cases hk : k = 13
      · subst hk
        clear HN
        go_wp2
        refine bodyPost_ret (v := .tuple #[fusV 0, .bool true]) (by simp [results, Tryz.results38, go_sem, fusV, fusT, ql, q0, q1, q2, q3]) rfl ⟨by simp [fusK], ?_⟩
        repeat (first | exact HB.out | refine Below.setCell ?_ (by have := HB.out.size; simp at this ⊢ <;> omega) _ | refine Below.alloc ?_ (by have := HB.out.size; simp at this ⊢ <;> omega) _)
      · have HN2 : Hid (∀ q, q < 1 → fusT.getD (q * 4 + 3) 0 ≠ k) := fun q hq => by
          by_cases e : q < 0
          · exact HN.out q e
          · have : q = 0 := by omega
            subst this
            exact fun e => hk e.symm
        clear HN
        go_wp2
        refine ⟨⟨1, by omega, rfl, HN2.out, ?_⟩, by simp [RowKit.intOf]⟩
        repeat (first | exact HBW.out | refine Below.setCell ?_ (by have := HBW.out.size; simp at this ⊢ <;> omega) _ | refine Below.alloc ?_ (by have := HBW.out.size; simp at this ⊢ <;> omega) _)
    · have hix := idxFu1
      by_cases hk : k = 14
      · subst hk
        clear HN
        go_wp2
        refine bodyPost_ret (v := .tuple #[fusV 1, .bool true]) (by simp [results, Tryz.results38, go_sem, fusV, fusT, ql, q0, q1, q2, q3]) rfl ⟨by simp [fusK], ?_⟩
        repeat (first | exact HB.out | refine Below.setCell ?_ (by have := HB.out.size; simp at this ⊢ <;> omega) _ | refine Below.alloc ?_ (by have := HB.out.size; simp at this ⊢ <;> omega) _)
      · have HN2 : Hid (∀ q, q < 2 → fusT.getD (q * 4 + 3) 0 ≠ k) := fun q hq => by
          by_cases e : q < 1
          · exact HN.out q e
          · have : q = 1 := by omega
            subst this
            exact fun e => hk e.symm
        clear HN
        go_wp2
        refine ⟨⟨2, by omega, rfl, HN2.out, ?_⟩, by simp [RowKit.intOf]⟩
        repeat (first | exact HBW.out | refine Below.setCell ?_ (by have := HBW.out.size; simp at this ⊢ <;> omega) _ | refine Below.alloc ?_ (by have := HBW.out.size; simp at this ⊢ <;> omega) _)
    · have hix := idxFu2
      by_cases hk : k = 15
      · subst hk
        clear HN
        go_wp2
        refine bodyPost_ret (v := .tuple #[fusV 2, .bool true]) (by simp [results, Tryz.results38, go_sem, fusV, fusT, ql, q0, q1, q2, q3]) rfl ⟨by simp [fusK], ?_⟩
        repeat (first | exact HB.out | refine Below.setCell ?_ (by have := HB.out.size; simp at this ⊢ <;> omega) _ | refine Below.alloc ?_ (by have := HB.out.size; simp at this ⊢ <;> omega) _)
      · have HN2 : Hid (∀ q, q < 3 → fusT.getD (q * 4 + 3) 0 ≠ k) := fun q hq => by
          by_cases e : q < 2
          · exact HN.out q e
          · have : q = 2 := by omega
            subst this
            exact fun e => hk e.symm
        clear HN
        go_wp2
        refine ⟨⟨3, by omega, rfl, HN2.out, ?_⟩, by simp [RowKit.intOf]⟩
        repeat (first | exact HBW.out | refine Below.setCell ?_ (by have := HBW.out.size; simp at this ⊢ <;> omega) _ | refine Below.alloc ?_ (by have := HBW.out.size; simp at this ⊢ <;> omega) _)
    · have hix := idxFu3
      by_cases hk : k = 16
      · subst hk
        clear HN
        go_wp2
        refine bodyPost_ret (v := .tuple #[fusV 3, .bool true]) (by simp [results, Tryz.results38, go_sem, fusV, fusT, ql, q0, q1, q2, q3]) rfl ⟨by simp [fusK], ?_⟩
        repeat (first | exact HB.out | refine Below.setCell ?_ (by have := HB.out.size; simp at this ⊢ <;> omega) _ | refine Below.alloc ?_ (by have := HB.out.size; simp at this ⊢ <;> omega) _)
      · have HN2 : Hid (∀ q, q < 4 → fusT.getD (q * 4 + 3) 0 ≠ k) := fun q hq => by
          by_cases e : q < 3
          · exact HN.out q e
          · have : q = 3 := by omega
            subst this
            exact fun e => hk e.symm
        clear HN
        go_wp2
        refine ⟨⟨4, by omega, rfl, HN2.out, ?_⟩, by simp [RowKit.intOf]⟩
        repeat (first | exact HBW.out | refine Below.setCell ?_ (by have := HBW.out.size; simp at this ⊢ <;> omega) _ | refine Below.alloc ?_ (by have := HBW.out.size; simp at this ⊢ <;> omega) _)
    · have HE : Hid (fusK k = 4) := fusK_no HN.out
      clear HN
      go_wp2
      refine bodyPost_ret (v := .tuple #[fusV 4, .bool false]) (by simp [results, Tryz.results38, go_sem, fusV, fusT, q0, q1, q2, q3]) rfl ⟨by rw [HE.out]; rfl, ?_⟩
      repeat (first | refine Below.setCell ?_ (by simp) _ | exact HB.out)
end Go.Proofs.YteboaiklibaomaaGreatDoor
/-
  The model's FusedIn: how many operations are two at once; nothing that was there is turned.
-/
namespace Go.Proofs.YteboaiklibaomaaGreatDoor
open Go.RowKit Go.Extern.Stop Go.Stop Go.Extern Num Go.Lib

/-- What FusedIn tells. -/
def fusedV (ok : Bool) (l : List Blk) : Int := if codeF ok l ≠ 0 then 0 else fusedL l l.length
theorem codeF_nineF {ok : Bool} {l : List Blk} (h : codeF ok l = 0) : codeFault9 l = 0 := by
  by_cases e : codeFault9 l = 0
  · exact e
  · rw [codeF_nine e] at h; exact absurd h e
set_option maxRecDepth 100000 in
set_option maxHeartbeats 2000000 in
theorem specFi_any (g cap B : Nat) (l : List Blk) (ok : Bool) (w : World) (hl : l.length ≤ 1048576) (hz : ∀ (k : Nat) (h : k < l.length), l[k].small) (hB : RowBl w B g l) (hok : OkR l ok) :
    Calls Tryz.prog 17 #[.slice (some ⟨g, 0, none⟩) l.length cap] w fun e w' => e = .returned (.agg #[.int .i64 (codeF ok l), .int .i64 (fusedV ok l)]) ∧ Below w.heap.size w w' := by
  obtain ⟨W, hW⟩ : ∃ W, W = w.alloc (.cells #[.int .i64 0, .int .i64 0] 37) := ⟨_, rfl⟩
  have HW : Hid (W = w.alloc (.cells #[.int .i64 0, .int .i64 0] 37)) := hW
  have hb0 : Below w.heap.size w W := by rw [hW]; exact (Below.refl _ _).alloc (Nat.le_refl _) _
  have r0 : W.cell? ⟨w.heap.size, 0, none⟩ = some (.int .i64 0) := by rw [hW]; simp [go_sem]
  have r1 : W.cell? ⟨w.heap.size, 1, none⟩ = some (.int .i64 0) := by rw [hW]; simp [go_sem]
  have rf : ∀ j, W.frozen? ⟨w.heap.size, j, none⟩ = false := fun j => by rw [hW]; simp [go_sem]
  have rl : w.heap.size < W.heap.size := by rw [hW]; simp
  have HQ : Hid (∀ u, Below W.heap.size W u → u.cell? ⟨w.heap.size, 0, none⟩ = some (.int .i64 0) ∧ u.cell? ⟨w.heap.size, 1, none⟩ = some (.int .i64 0) ∧ (∀ j, u.frozen? ⟨w.heap.size, j, none⟩ = false) ∧ w.heap.size < u.heap.size) := fun u hu => ⟨cell_keep hu r0, cell_keep hu r1, fun j => by rw [(bcell hu).2 _ _ rl]; exact rf j, Nat.lt_of_lt_of_le rl hu.size⟩
  have HB0 : Hid (Below w.heap.size w W) := hb0
  have HB : Hid (RowBl W B g l) := hB.below hb0
  have HF : Hid (Calls Tryz.prog 21 #[.slice (some ⟨g, 0, none⟩) l.length cap] W fun e w' => AnsF ok l W e w') := l10Fault_any g cap B l ok W hl hz (hB.below hb0) hok
  obtain ⟨C, hC⟩ : ∃ C, C = codeF ok l := ⟨_, rfl⟩
  obtain ⟨V, hV⟩ : ∃ V, V = fusedV ok l := ⟨_, rfl⟩
  rw [← hC, ← hV]
  have HC : Hid (codeF ok l = C) := hC.symm
  have HV : Hid (V = if C ≠ 0 then 0 else fusedL l l.length) := by show _ = _; rw [hV, ← HC.out]; rfl
  clear hC hV hB hz hok hW r0 r1 rf rl hb0
  go_enter Tryz.func17, Tryz.ntmps17
  go_wp2_with fail
  rw [← HW.out]
  refine HF.out.mono ?_
  rintro e w1 ⟨hcase, b1⟩
  have HB1 : Hid (Below W.heap.size W w1) := b1
  clear b1 HF HW
  rcases hcase with ⟨hn, rfl⟩ | ⟨h0, A, gA, cA, -, rfl, -⟩
  · rw [HC.out]
    rw [HC.out] at hn
    have hcn : (C != 0) = true := by rw [bne_iff_ne]; exact hn
    have HE : Hid (V = 0) := by show _ = _; rw [HV.out, if_pos hn]
    obtain ⟨q0, q1, qf, ql⟩ := HQ.out w1 HB1.out
    have HBw : Hid (Below w.heap.size w w1) := HB0.out.trans (HB1.out.mono HB0.out.size)
    clear hn HQ
    go_wp2
    refine bodyPost_ret (v := .agg #[.int .i64 C, .int .i64 V]) (by rw [HE.out]; simp [results, Tryz.results17, go_sem, q0, q1]) rfl ⟨rfl, ?_⟩
    repeat (first | refine Below.setCell ?_ (by simp) _ | exact HBw.out)
  · have h9 := codeF_nineF h0
    have HC0 : Hid (C = 0) := by show _ = _; rw [← HC.out]; exact h0
    have HVe : Hid (V = fusedL l l.length) := by show _ = _; rw [HV.out, HC0.out]; rfl
    have h60 := (nine_all h9).1
    have HLn : Hid (∀ k, k < l.length → (l.getD k ⟨0, []⟩).ops.length ≤ 200) := fun k hk => by
      have e : l.getD k ⟨0, []⟩ = l[k] := by simp [hk]
      rw [e]; exact (blk_ops ((nine_all h9).2 k hk)).1
    have HLe : Hid (∀ k, k ≤ l.length → 0 ≤ fusedL l k ∧ fusedL l k ≤ 200 * (k : Int)) := fun k hk => fusedL_le l HLn.out k hk
    clear h9 h0
    go_wp2_with fail
    go_loopw [5, 6] (fun v u wr => ∃ (i : Nat) (m : Int), i ≤ l.length ∧ v = .int .i64 m ∧ u = .int .i64 (i : Int) ∧ Hid (m = fusedL l i) ∧ Hid (Below w1.heap.size w1 wr)) (fun _ u _ => l.length - (RowKit.intOf u).toNat)
    case atStart => exact ⟨0, 0, Nat.zero_le _, rfl, rfl, rfl, Below.refl _ _⟩
    case round =>
      obtain ⟨i, m, hi, rfl, rfl, HM, HBr⟩ := hrel
      have HBW : Hid (Below W.heap.size W wr) := HB1.out.trans (HBr.out.mono HB1.out.size)
      by_cases hlt : i < l.length
      · obtain ⟨p0, gx, p1, hio⟩ := HB.out i hlt
        obtain ⟨b, hb⟩ : ∃ b, b = l[i]'hlt := ⟨_, rfl⟩
        have hol := HLn.out i hlt
        have hle := HLe.out i (by omega)
        have hbe : l.getD i ⟨0, []⟩ = b := by rw [hb]; simp [hlt]
        rw [← hb] at p0 p1 hio
        rw [hbe] at hol
        have HNx : Hid (fusedL l (i + 1) = fusedL l i + fusedO b.ops b.ops.length) := by show _ = _; rw [fusedL, hbe]
        have HP : Hid (∀ u, Below W.heap.size W u → u.cell? ⟨g, i * 2, none⟩ = some (.int .i64 b.args) ∧ u.cell? ⟨g, i * 2 + 1, none⟩ = some (.slice (some ⟨gx, 0, none⟩) b.ops.length b.ops.length) ∧ RowOp u B gx b.ops) := fun u hu => ⟨cell_keep hu p0, cell_keep hu p1, (hio.below hu).row⟩
        clear p0 p1 hio hb hbe
        go_wp2_with fail
        go_loopw [5, 7] (fun v u wz => ∃ (k : Nat) (q : Int), k ≤ b.ops.length ∧ v = .int .i64 q ∧ u = .int .i64 (k : Int) ∧ Hid (q = m + fusedO b.ops k) ∧ Hid (Below wr.heap.size wr wz)) (fun _ u _ => b.ops.length - (RowKit.intOf u).toNat)
        case atStart => exact ⟨0, m, Nat.zero_le _, rfl, rfl, by show _ = _; simp [fusedO], Below.refl _ _⟩
        case round =>
          obtain ⟨k, q, hk, rfl, rfl, HM2, HB3⟩ := hrel
          have HBW3 : Hid (Below W.heap.size W wr) := HBW.out.trans (HB3.out.mono HBW.out.size)
          obtain ⟨-, s1, hro⟩ := HP.out wr HBW3.out
          have hfo := fusedO_le b.ops k
          have hq : -1000000 ≤ q ∧ q ≤ 1000000 := by have := HM2.out; have := HM.out; omega
          clear hfo hle
          by_cases hlk : k < b.ops.length
          · obtain ⟨gy, hop⟩ := hro.at k hlk
            obtain ⟨t, ht⟩ : ∃ t, t = b.ops[k]'hlk := ⟨_, rfl⟩
            rw [← ht] at hop
            have c0 := hop.c0
            have HNk : Hid (fusedO b.ops (k + 1) = fusedO b.ops k + (if 12 < t.kind then 1 else 0)) := by
              show _ = _
              have e : b.ops.getD k (opK 0 0 0 0 0 []) = t := by rw [ht]; simp [hlk]
              rw [fusedO, e]
            clear ht hro hop
            by_cases h12 : 12 < t.kind
            · have HM3 : Hid (q + 1 = m + fusedO b.ops (k + 1)) := by show _ = _; rw [HNk.out, if_pos h12, HM2.out]; omega
              clear HM2 HNk
              go_wp2
              exact ⟨⟨k + 1, q + 1, by omega, by go_num, by go_num, HM3.out, HB3.out⟩, by simp [RowKit.intOf]; omega⟩
            · have HM3 : Hid (q = m + fusedO b.ops (k + 1)) := by show _ = _; rw [HNk.out, if_neg h12, HM2.out]; omega
              clear HM2 HNk
              go_wp2
              exact ⟨⟨k + 1, q, by omega, rfl, by go_num, HM3.out, HB3.out⟩, by simp [RowKit.intOf]; omega⟩
          · have HM3 : Hid (q = fusedL l (i + 1)) := by
              show _ = _
              have e : k = b.ops.length := by omega
              rw [HNx.out, HM2.out, HM.out, e]
            clear HM2 hro
            go_wp2
            exact ⟨⟨i + 1, q, by omega, rfl, by go_num, HM3.out, HBr.out.trans (HB3.out.mono HBr.out.size)⟩, by simp [RowKit.intOf]; omega⟩
      · have HE : Hid (V = m) := by
          show _ = _
          have e : i = l.length := by omega
          rw [HVe.out, HM.out, e]
        obtain ⟨q0, q1, qf, ql⟩ := HQ.out wr HBW.out
        have HBw : Hid (Below w.heap.size w wr) := HB0.out.trans (HBW.out.mono HB0.out.size)
        clear HM HQ
        go_wp2
        refine bodyPost_ret (v := .agg #[.int .i64 C, .int .i64 V]) (by rw [HE.out, HC0.out]; simp [results, Tryz.results17, go_sem, q0, q1]) rfl ⟨rfl, ?_⟩
        repeat (first | refine Below.setCell ?_ (by simp) _ | exact HBw.out)
end Go.Proofs.YteboaiklibaomaaGreatDoor
/-
  The program's FusedIn: how many operations are two at once; nothing that was there is turned.
-/
namespace Go.Proofs.YteboaiklibaomaaGreatDoor
open Go.RowKit Go.Extern.Stop Go.Stop Go.Extern Num Go.Lib

theorem fusK_yes {k : Int} (h1 : k ≤ 16) : decide (fusK k < 4) = decide (12 < k) := by
  unfold fusK
  by_cases a : k = 13
  · subst a; rfl
  by_cases b : k = 14
  · subst b; rfl
  by_cases c : k = 15
  · subst c; rfl
  by_cases d : k = 16
  · subst d; rfl
  rw [if_neg a, if_neg b, if_neg c, if_neg d, decide_eq_false (by omega), decide_eq_false (by omega)]
set_option maxRecDepth 100000 in
set_option maxHeartbeats 2000000 in
theorem implFi_any (g cap B : Nat) (l : List Blk) (ok : Bool) (w : World) (hl : l.length ≤ 1048576) (hz : ∀ (k : Nat) (h : k < l.length), l[k].small) (hB : RowBl w B g l) (hL : LT w) (hF : FU w) (hok : OkR l ok) :
    Calls Tryz.prog 18 #[.slice (some ⟨g, 0, none⟩) l.length cap] w fun e w' => e = .returned (.agg #[.int .i64 (codeF ok l), .int .i64 (fusedV ok l)]) ∧ Below w.heap.size w w' := by
  obtain ⟨W, hW⟩ : ∃ W, W = w.alloc (.cells #[.int .i64 0, .int .i64 0] 37) := ⟨_, rfl⟩
  have HW : Hid (W = w.alloc (.cells #[.int .i64 0, .int .i64 0] 37)) := hW
  have hb0 : Below w.heap.size w W := by rw [hW]; exact (Below.refl _ _).alloc (Nat.le_refl _) _
  have r0 : W.cell? ⟨w.heap.size, 0, none⟩ = some (.int .i64 0) := by rw [hW]; simp [go_sem]
  have r1 : W.cell? ⟨w.heap.size, 1, none⟩ = some (.int .i64 0) := by rw [hW]; simp [go_sem]
  have rf : ∀ j, W.frozen? ⟨w.heap.size, j, none⟩ = false := fun j => by rw [hW]; simp [go_sem]
  have rl : w.heap.size < W.heap.size := by rw [hW]; simp
  have HQ : Hid (∀ u, Below W.heap.size W u → u.cell? ⟨w.heap.size, 0, none⟩ = some (.int .i64 0) ∧ u.cell? ⟨w.heap.size, 1, none⟩ = some (.int .i64 0) ∧ (∀ j, u.frozen? ⟨w.heap.size, j, none⟩ = false) ∧ w.heap.size < u.heap.size) := fun u hu => ⟨cell_keep hu r0, cell_keep hu r1, fun j => by rw [(bcell hu).2 _ _ rl]; exact rf j, Nat.lt_of_lt_of_le rl hu.size⟩
  have HB0 : Hid (Below w.heap.size w W) := hb0
  have HB : Hid (RowBl W B g l) := hB.below hb0
  have HF : Hid (Calls Tryz.prog 26 #[.slice (some ⟨g, 0, none⟩) l.length cap] W fun e w' => e = .returned (.int .i64 (codeF ok l)) ∧ Below W.heap.size W w') := implCF_any g cap B l ok W hl hz (hB.below hb0) (hL.below hb0) hok
  have HFu : Hid (∀ u (k : Int), Below W.heap.size W u → Calls Tryz.prog 38 #[.int .i64 k] u fun e w' => e = .returned (.tuple #[fusV (fusK k), .bool (decide (fusK k < 4))]) ∧ Below u.heap.size u w') := fun u k hu => fusionInto_any k u ((hF.below hb0).below hu)
  obtain ⟨C, hC⟩ : ∃ C, C = codeF ok l := ⟨_, rfl⟩
  obtain ⟨V, hV⟩ : ∃ V, V = fusedV ok l := ⟨_, rfl⟩
  rw [← hC, ← hV]
  have HC : Hid (codeF ok l = C) := hC.symm
  have HV : Hid (V = if C ≠ 0 then 0 else fusedL l l.length) := by show _ = _; rw [hV, ← HC.out]; rfl
  clear hC hV hB hz hok hW r0 r1 rf rl hb0 hL hF
  go_enter Tryz.func18, Tryz.ntmps18
  go_wp2_with fail
  rw [← HW.out]
  refine HF.out.mono ?_
  rintro e w1 ⟨rfl, b1⟩
  have HB1 : Hid (Below W.heap.size W w1) := b1
  clear b1 HF HW
  rw [HC.out]
  by_cases hn : C = 0
  · have h9 := codeF_nineF (HC.out.trans hn)
    have HVe : Hid (V = fusedL l l.length) := by show _ = _; rw [HV.out, hn]; rfl
    have h60 := (nine_all h9).1
    have HOp : Hid (∀ (k : Nat) (hk : k < l.length), ∀ t ∈ (l[k]'hk).ops, t.kind ≤ 16) := fun k hk t ht => (opBnd ((blk_ops ((nine_all h9).2 k hk)).2.1 t ht)).k2
    have HLn : Hid (∀ k, k < l.length → (l.getD k ⟨0, []⟩).ops.length ≤ 200) := fun k hk => by
      have e : l.getD k ⟨0, []⟩ = l[k] := by simp [hk]
      rw [e]; exact (blk_ops ((nine_all h9).2 k hk)).1
    have HLe : Hid (∀ k, k ≤ l.length → 0 ≤ fusedL l k ∧ fusedL l k ≤ 200 * (k : Int)) := fun k hk => fusedL_le l HLn.out k hk
    have HVV : Hid (V = fusedL l l.length) := HVe.out
    subst hn
    clear h9
    go_wp2_with fail
    go_loopw [4, 19] (fun v u wr => ∃ (i : Nat) (m : Int), i ≤ l.length ∧ v = .int .i64 m ∧ u = .int .i64 (i : Int) ∧ Hid (m = fusedL l i) ∧ Hid (Below w1.heap.size w1 wr)) (fun _ u _ => l.length - (RowKit.intOf u).toNat)
    case atStart => exact ⟨0, 0, Nat.zero_le _, rfl, rfl, rfl, Below.refl _ _⟩
    case round =>
      obtain ⟨i, m, hi, rfl, rfl, HM, HBr⟩ := hrel
      have HBW : Hid (Below W.heap.size W wr) := HB1.out.trans (HBr.out.mono HB1.out.size)
      by_cases hlt : i < l.length
      · obtain ⟨p0, gx, p1, hio⟩ := HB.out i hlt
        obtain ⟨b, hb⟩ : ∃ b, b = l[i]'hlt := ⟨_, rfl⟩
        have hol := HLn.out i hlt
        have hle := HLe.out i (by omega)
        have hop := HOp.out i hlt
        have hbe : l.getD i ⟨0, []⟩ = b := by rw [hb]; simp [hlt]
        rw [← hb] at p0 p1 hio hop
        rw [hbe] at hol
        have HNx : Hid (fusedL l (i + 1) = fusedL l i + fusedO b.ops b.ops.length) := by show _ = _; rw [fusedL, hbe]
        have HK : Hid (∀ t ∈ b.ops, t.kind ≤ 16) := hop
        have HP : Hid (∀ u, Below W.heap.size W u → u.cell? ⟨g, i * 2, none⟩ = some (.int .i64 b.args) ∧ u.cell? ⟨g, i * 2 + 1, none⟩ = some (.slice (some ⟨gx, 0, none⟩) b.ops.length b.ops.length) ∧ RowOp u B gx b.ops) := fun u hu => ⟨cell_keep hu p0, cell_keep hu p1, (hio.below hu).row⟩
        clear p0 p1 hio hb hbe hop
        obtain ⟨a0, a1, -⟩ := HP.out wr HBW.out
        go_wp2_with fail
        go_loopw [4, 26] (fun v u wz => ∃ (k : Nat) (q : Int), k ≤ b.ops.length ∧ v = .int .i64 q ∧ u = .int .i64 (k : Int) ∧ Hid (q = m + fusedO b.ops k) ∧ Hid (Below wr.heap.size wr wz)) (fun _ u _ => b.ops.length - (RowKit.intOf u).toNat)
        case atStart => exact ⟨0, m, Nat.zero_le _, rfl, rfl, by show _ = _; simp [fusedO], by repeat (first | exact Below.refl _ _ | refine Below.setCell ?_ (by simp) _ | refine Below.alloc ?_ (by simp) _)⟩
        case round =>
          obtain ⟨k, q, hk, rfl, rfl, HM2, HB3⟩ := hrel
          have HBW3 : Hid (Below W.heap.size W wr) := HBW.out.trans (HB3.out.mono HBW.out.size)
          obtain ⟨-, s1, hro⟩ := HP.out wr HBW3.out
          have hfo := fusedO_le b.ops k
          have hq : -1000000 ≤ q ∧ q ≤ 1000000 := by have := HM2.out; have := HM.out; omega
          clear hfo hle
          by_cases hlk : k < b.ops.length
          · obtain ⟨gy, hop⟩ := hro.at k hlk
            obtain ⟨t, ht⟩ : ∃ t, t = b.ops[k]'hlk := ⟨_, rfl⟩
            rw [← ht] at hop
            have hk16 : t.kind ≤ 16 := HK.out t (by rw [ht]; exact List.getElem_mem hlk)
            obtain ⟨c0, c1, c2, c3, c4, c5, c6, -⟩ := hop
            have HNk : Hid (fusedO b.ops (k + 1) = fusedO b.ops k + (if 12 < t.kind then 1 else 0)) := by
              show _ = _
              have e : b.ops.getD k (opK 0 0 0 0 0 []) = t := by rw [ht]; simp [hlk]
              rw [fusedO, e]
            have HYes : Hid (decide (fusK t.kind < 4) = decide (12 < t.kind)) := fusK_yes hk16
            clear ht hro
            go_wp2_with fail
            refine (HFu.out _ t.kind (HBW3.out.alloc HBW3.out.size _)).mono ?_
            rintro e w4 ⟨rfl, b4⟩
            have HB4 : Hid (Below wr.heap.size wr w4) := ((Below.refl _ wr).alloc (Nat.le_refl _) _).trans (b4.mono (by simp))
            clear b4 c0 c1 c2 c3 c4 c5 c6 s1
            rw [HYes.out]
            unfold fusV
            by_cases h12 : 12 < t.kind
            · have HM3 : Hid (q + 1 = m + fusedO b.ops (k + 1)) := by show _ = _; rw [HNk.out, if_pos h12, HM2.out]; omega
              clear HM2 HNk HYes
              go_wp2
              refine ⟨⟨k + 1, q + 1, by omega, by go_num, by go_num, HM3.out, ?_⟩, by simp [RowKit.intOf]; omega⟩
              refine HB3.out.trans (Below.mono ?_ HB3.out.size)
              repeat (first | exact HB4.out | refine Below.setCell ?_ (by have := HB4.out.size; simp at this ⊢ <;> omega) _ | refine Below.alloc ?_ (by have := HB4.out.size; simp at this ⊢ <;> omega) _)
            · have HM3 : Hid (q = m + fusedO b.ops (k + 1)) := by show _ = _; rw [HNk.out, if_neg h12, HM2.out]; omega
              clear HM2 HNk HYes
              go_wp2
              refine ⟨⟨k + 1, q, by omega, rfl, by go_num, HM3.out, ?_⟩, by simp [RowKit.intOf]; omega⟩
              refine HB3.out.trans (Below.mono ?_ HB3.out.size)
              repeat (first | exact HB4.out | refine Below.setCell ?_ (by have := HB4.out.size; simp at this ⊢ <;> omega) _ | refine Below.alloc ?_ (by have := HB4.out.size; simp at this ⊢ <;> omega) _)
          · have HM3 : Hid (q = fusedL l (i + 1)) := by
              show _ = _
              have e : k = b.ops.length := by omega
              rw [HNx.out, HM2.out, HM.out, e]
            clear HM2 hro
            go_wp2
            exact ⟨⟨i + 1, q, by omega, rfl, by go_num, HM3.out, HBr.out.trans (HB3.out.mono HBr.out.size)⟩, by simp [RowKit.intOf]; omega⟩
      · have HE : Hid (V = m) := by
          show _ = _
          have e : i = l.length := by omega
          rw [HVV.out, HM.out, e]
        obtain ⟨q0, q1, qf, ql⟩ := HQ.out wr HBW.out
        have HBw : Hid (Below w.heap.size w wr) := HB0.out.trans (HBW.out.mono HB0.out.size)
        clear HM HQ
        go_wp2
        refine bodyPost_ret (v := .agg #[.int .i64 0, .int .i64 V]) (by rw [HE.out]; simp [results, Tryz.results18, go_sem, q0, q1]) rfl ⟨rfl, ?_⟩
        repeat (first | refine Below.setCell ?_ (by simp) _ | exact HBw.out)
  · have hcn : (C != 0) = true := by rw [bne_iff_ne]; exact hn
    have HE : Hid (V = 0) := by show _ = _; rw [HV.out, if_pos hn]
    obtain ⟨q0, q1, qf, ql⟩ := HQ.out w1 HB1.out
    have HBw : Hid (Below w.heap.size w w1) := HB0.out.trans (HB1.out.mono HB0.out.size)
    clear hn HQ
    go_wp2
    refine bodyPost_ret (v := .agg #[.int .i64 C, .int .i64 V]) (by rw [HE.out]; simp [results, Tryz.results18, go_sem, q0, q1]) rfl ⟨rfl, ?_⟩
    repeat (first | refine Below.setCell ?_ (by simp) _ | exact HBw.out)
end Go.Proofs.YteboaiklibaomaaGreatDoor
/-
  The exact law of FusedIn answers true at every code; nothing that was there is turned.
-/
namespace Go.Proofs.YteboaiklibaomaaGreatDoor
open Go.RowKit Go.Extern.Stop Go.Stop Go.Extern Num Go.Lib

theorem eqIntR_Fi (c v : Int) (w : World) : Calls Tryz.prog 19 #[.agg #[.int .i64 c, .int .i64 v], .agg #[.int .i64 c, .int .i64 v]] w fun e w' => e = .returned (.bool true) ∧ Below w.heap.size w w' := by
  go_enter Tryz.func19, Tryz.ntmps19
  go_wp2
  go_ret
  exact ⟨rfl, by repeat (first | exact Below.refl _ _ | refine Below.alloc ?_ (by simp <;> omega) _)⟩
set_option maxHeartbeats 1000000 in
theorem lawFi_any (w : World) (hG : LT w ∧ FU w) (a : Option Addr) (cp : Nat) (l : List Blk) (hl : l.length ≤ 9223372036854775807) (h : MemBl w a l) (hz : ∀ (k : Nat) (h : k < l.length), l[k].able) :
    Calls Tryz.prog 5 #[.slice a l.length cp] w fun e w' => e = .returned (.bool true) ∧ Below w.heap.size w w' := by
  have HS : Hid (Calls Tryz.prog 6 #[.slice a l.length cp, .int .i64 1048576] w fun e w' => SZBl l w e w') := szBlS_any a cp l w 1048576 (Nat.le_refl _) hl h hz
  have HT : Hid (MemBl w a l) := h
  have HG : Hid (∀ u, Below w.heap.size w u → LT u ∧ FU u) := fun u hu => ⟨hG.1.below hu, hG.2.below hu⟩
  obtain ⟨ok, hok⟩ := okR_some l
  have HOk : Hid (OkR l ok) := hok
  obtain ⟨c, hc⟩ : ∃ c, c = codeF ok l := ⟨_, rfl⟩
  obtain ⟨x, hx⟩ : ∃ x, x = fusedV ok l := ⟨_, rfl⟩
  have HE : Hid (codeF ok l = c ∧ fusedV ok l = x) := ⟨hc.symm, hx.symm⟩
  clear hok
  clear h hz hG hc hx hl
  go_enter Tryz.func5, Tryz.ntmps5
  go_wp2_with fail
  refine HS.out.mono ?_
  rintro e w1 ⟨h1, b1⟩
  have B1 : Hid (Below w.heap.size w w1) := b1
  clear b1
  rcases h1 with rfl | ⟨q, hq, rfl, hl, hz⟩
  · go_wp2
    go_ret
    exact ⟨rfl, B1.out⟩
  have HZ : Hid (∀ (k : Nat) (h : k < l.length), l[k].small) := hz
  have HN : Hid (l.length ≤ 1048576) := hl
  have HU : Hid (∀ wx, Below w.heap.size w wx → Calls Tryz.prog 8 #[.slice a l.length cp] wx fun e w' => ∃ g, e = .returned (.slice (some ⟨g, 0, none⟩) l.length l.length) ∧ IsBl w' wx.heap.size g l.length l ∧ Below wx.heap.size wx w') := fun wx hx => (toBlS_any a cp l wx hl hz (HT.out.below hx)).mono fun e w' ⟨h1, h2, h3⟩ => ⟨_, h1, h2, h3⟩
  clear hz hl
  go_wp2_with fail
  refine (HU.out _ B1.out).mono ?_
  rintro e w2 ⟨g2, rfl, o2, b2⟩
  have O2 : Hid (IsBl w2 w1.heap.size g2 l.length l) := o2
  have B2 : Hid (Below w.heap.size w w2) := B1.out.trans (b2.mono B1.out.size)
  clear o2 b2
  go_wp2_with fail
  refine (specFi_any _ _ _ l ok w2 HN.out HZ.out O2.out.row HOk.out).mono ?_
  rw [HE.out.1, HE.out.2]
  rintro e w3 ⟨rfl, b3⟩
  have B3 : Hid (Below w.heap.size w w3) := B2.out.trans (b3.mono B2.out.size)
  have z3 : w.heap.size ≤ w3.heap.size := B3.out.size
  clear b3 O2
  go_wp2_with fail
  refine (HU.out _ (B3.out.alloc z3 _)).mono ?_
  rintro e w4 ⟨g4, rfl, o4, b4⟩
  obtain ⟨BB4, hBB4⟩ : ∃ n, n = (w3.alloc (.cells #[.int .i64 c, .int .i64 x] 37)).heap.size := ⟨_, rfl⟩
  rw [← hBB4] at o4
  clear hBB4
  have O4 : Hid (IsBl w4 BB4 g4 l.length l) := o4
  have B4 : Hid (Below w.heap.size w w4) := (B3.out.alloc z3 _).trans (b4.mono (by simp; omega))
  obtain ⟨c4, f4⟩ := bcell b4
  have z4 : w3.heap.size < w4.heap.size := by have := b4.size; simp at this; omega
  clear o4 b4
  go_wp2_with fail
  refine (implFi_any _ _ _ l ok w4 HN.out HZ.out O4.out.row (HG.out _ B4.out).1 (HG.out _ B4.out).2 HOk.out).mono ?_
  rw [HE.out.1, HE.out.2]
  rintro e w5 ⟨rfl, b5⟩
  obtain ⟨c5, f5⟩ := bcell b5
  have O5 : Hid (IsBl w5 BB4 g4 l.length l) := O4.out.below b5
  have z5 : w3.heap.size < w5.heap.size := by have := b5.size; omega
  have B5 : Hid (Below w.heap.size w w5) := B4.out.trans (b5.mono (by omega))
  clear b5 O4
  go_wp2_with fail
  refine (eqIntR_Fi _ _ _).mono ?_
  rintro e w6 ⟨rfl, b6⟩
  have O6 : Hid (IsBl w6 BB4 g4 l.length l) := (O5.out.below ((Below.refl _ _).alloc (Nat.le_refl _) _)).below b6
  have B6 : Hid (Below w.heap.size w w6) := (B5.out.alloc (by omega) _).trans (b6.mono (by simp; omega))
  clear b6 O5 c4 f4 c5 f5
  go_wp2_with fail
  refine (HU.out _ B6.out).mono ?_
  rintro e w7 ⟨g7, rfl, o7, b7⟩
  obtain ⟨BB7, hBB7⟩ : ∃ n, n = w6.heap.size := ⟨_, rfl⟩
  rw [← hBB7] at o7
  clear hBB7
  have O7 : Hid (IsBl w7 BB7 g7 l.length l) := o7
  have P7 : Hid (IsBl w7 BB4 g4 l.length l) := O6.out.below b7
  have B7 : Hid (Below w.heap.size w w7) := B6.out.trans (b7.mono B6.out.size)
  clear o7 b7 O6
  go_wp2_with fail
  refine (eqBlS_same _ _ _ _ _ _ l w7 HN.out HZ.out P7.out.row O7.out.row).mono ?_
  rintro e w8 ⟨rfl, b8⟩
  go_wp2
  go_ret
  exact ⟨rfl, B7.out.trans (b8.mono B7.out.size)⟩
end Go.Proofs.YteboaiklibaomaaGreatDoor
