/-
  Parts of the proof laid into one text, one behind the other: HeightMath, OpBnd, HeightMath2. Contracts of the program's and the model's functions, and what they are proved of, as their theorems say.
-/
import Derived.Test.YtoafolefecddmaaGreatDoorTgtMathHv
namespace Go.Proofs.YtoafolefecddmaaGreatDoor
def takeO (t : Opr) : Int := if t.kind = 6 ∨ t.kind = 7 ∨ t.kind = 8 ∨ t.kind = 9 then 1 else if t.kind = 10 then t.a + 1 else 0
def putO (t : Opr) : Int := if t.kind = 1 ∨ t.kind = 2 ∨ t.kind = 3 ∨ t.kind = 4 ∨ t.kind = 8 ∨ t.kind = 9 ∨ t.kind = 10 then 1 else if t.kind = 15 then 2 else 0
def nextO (t : Opr) (h : Int) : Int := h - takeO t + putO t
def leavesO (t : Opr) : Bool := t.kind == 11 || (t.kind == 12 || (t.kind == 13 || t.kind == 14))
def endsO (t : Opr) : Bool := t.kind == 5 || leavesO t
def atEndO (t : Opr) : Int := if t.kind = 12 then 1 else if t.kind = 11 then t.a + 1 else 0
def okO (t : Opr) (h : Int) : Bool := if leavesO t then h == atEndO t else decide (takeO t ≤ h)
theorem putO_pos (t : Opr) : 0 ≤ putO t := by unfold putO; repeat (first | omega | split)
theorem hasT_leaves {t : Opr} (h : hasT t = true) : leavesO t = false := by
  unfold hasT at h
  simp only [Bool.or_eq_true, beq_iff_eq] at h
  unfold leavesO
  simp only [Bool.or_eq_false_iff, beq_eq_false_iff_ne]
  omega
def Lead (l : List Opr) (j : Nat) (g : Int) (i : Nat) (h : Int) : Prop :=
  ∃ t, l[j]? = some t ∧ h = nextO t g ∧ ((endsO t = false ∧ i = j + 1) ∨ (hasT t = true ∧ (i : Int) = tgtO t))
def Rch (l : List Opr) (i : Nat) (h : Int) : Prop := ∀ P : Nat → Int → Prop, P 0 0 → (∀ j g i h, P j g → Lead l j g i h → P i h) → P i h
theorem Rch.zero (l : List Opr) : Rch l 0 0 := fun _ h0 _ => h0
theorem Rch.lead {l : List Opr} {j i : Nat} {g h : Int} (hj : Rch l j g) (hl : Lead l j g i h) : Rch l i h := fun P h0 hs => hs j g i h (hj P h0 hs) hl
structure IsHgt (l : List Opr) (H : List Int) : Prop where
  len : H.length = l.length
  fit : ∀ i h, Rch l i h → H[i]? = some h ∧ ∃ t, l[i]? = some t ∧ okO t h = true
  only : ∀ i h, H[i]? = some h → h = -1 ∨ (0 ≤ h ∧ Rch l i h)
theorem IsHgt.uniq {l : List Opr} {H H' : List Int} (a : IsHgt l H) (b : IsHgt l H') : H = H' := by
  apply List.ext_getElem?
  intro i
  cases e : H[i]? with
  | none =>
    have h1 : H.length ≤ i := List.getElem?_eq_none_iff.1 e
    exact (List.getElem?_eq_none_iff.2 (by have := a.len; have := b.len; omega)).symm
  | some x =>
    have hi : i < H.length := by
      rcases Nat.lt_or_ge i H.length with h | h
      · exact h
      · rw [List.getElem?_eq_none_iff.2 h] at e; cases e
    have hi' : i < H'.length := by have := a.len; have := b.len; omega
    have e' : H'[i]? = some H'[i] := List.getElem?_eq_getElem hi'
    rcases a.only i x e with rfl | ⟨_, hr⟩
    · rcases b.only i _ e' with h | ⟨h0, hr⟩
      · rw [e', h]
      · have h1 := (a.fit i _ hr).1
        rw [e] at h1
        have : (-1 : Int) = H'[i] := Option.some.inj h1
        omega
    · exact (b.fit i x hr).1.symm
def openN : List Int → Nat
  | [] => 0
  | x :: r => (if x = -1 then 1 else 0) + openN r
theorem openN_set : ∀ (H : List Int) (i : Nat) (h : Int), H[i]? = some (-1) → h ≠ -1 → openN (H.set i h) + 1 = openN H
  | [], i, h, e, _ => by simp at e
  | x :: r, 0, h, e, hn => by
    have : x = -1 := by simpa using e
    subst this
    simp [openN, hn]; omega
  | x :: r, i + 1, h, e, hn => by
    have e' : r[i]? = some (-1) := by simpa using e
    have := openN_set r i h e' hn
    simp only [List.set_cons_succ, openN]
    omega
theorem openN_le : ∀ H : List Int, openN H ≤ H.length
  | [] => Nat.le_refl _
  | x :: r => by have := openN_le r; simp only [openN, List.length_cons]; split <;> omega
structure HInv (l : List Opr) (H : List Int) : Prop where
  len : H.length = l.length
  only : ∀ i h, H[i]? = some h → h = -1 ∨ (0 ≤ h ∧ Rch l i h)
  top : ∀ (i : Nat) (h : Int), H[i]? = some h → h ≤ 2 * ((l.length : Int) - (openN H : Int))
def ClosedAt (l : List Opr) (H : List Int) (j : Nat) : Prop := ∀ t g, l[j]? = some t → H[j]? = some g → 0 ≤ g → okO t g = true ∧ ∀ i h, Lead l j g i h → H[i]? = some h
theorem hgt_closed {l : List Opr} {H : List Int} (hi : HInv l H) (h0 : H[0]? = some 0) (hc : ∀ j, j < l.length → ClosedAt l H j) : IsHgt l H := by
  have key : ∀ i h, Rch l i h → H[i]? = some h ∧ 0 ≤ h := fun i h hr => hr (fun i h => H[i]? = some h ∧ 0 ≤ h) ⟨h0, by omega⟩ (fun j g i h ⟨hg, hp⟩ hl => by
    obtain ⟨t, ht, e, hw⟩ := hl
    have hj : j < l.length := by
      rcases Nat.lt_or_ge j l.length with h | h
      · exact h
      · rw [List.getElem?_eq_none_iff.2 h] at ht; cases ht
    obtain ⟨hok, hcl⟩ := hc j hj t g ht hg hp
    refine ⟨hcl i h ⟨t, ht, e, hw⟩, ?_⟩
    have hlv : leavesO t = false := by
      rcases hw with ⟨h1, _⟩ | ⟨h1, _⟩
      · unfold endsO at h1; simp only [Bool.or_eq_false_iff] at h1; exact h1.2
      · exact hasT_leaves h1
    unfold okO at hok
    rw [hlv] at hok
    have h2 : takeO t ≤ g := by simpa using hok
    have h3 := putO_pos t
    rw [e]; unfold nextO; omega)
  refine ⟨hi.len, fun i h hr => ?_, hi.only⟩
  obtain ⟨h1, h2⟩ := key i h hr
  refine ⟨h1, ?_⟩
  have hil : i < l.length := by
    rcases Nat.lt_or_ge i l.length with h | h
    · exact h
    · rw [List.getElem?_eq_none_iff.2 (by rw [hi.len]; exact h)] at h1; cases h1
  exact ⟨l[i], List.getElem?_eq_getElem hil, (hc i hil _ _ (List.getElem?_eq_getElem hil) h1 h2).1⟩
def NoH (l : List Opr) : Prop := ¬ ∃ H, IsHgt l H
theorem noH_out {l : List Opr} {i : Nat} {h : Int} (hr : Rch l i h) (hi : l.length ≤ i) : NoH l := fun ⟨H, hH⟩ => by
  have := (hH.fit i h hr).1
  rw [List.getElem?_eq_none_iff.2 (by rw [hH.len]; exact hi)] at this; cases this
theorem noH_two {l : List Opr} {i : Nat} {h h' : Int} (hr : Rch l i h) (hr' : Rch l i h') (hne : h ≠ h') : NoH l := fun ⟨H, hH⟩ => by
  have h1 := (hH.fit i h hr).1
  have h2 := (hH.fit i h' hr').1
  rw [h1] at h2
  exact hne (Option.some.inj h2)
theorem noH_bad {l : List Opr} {i : Nat} {h : Int} {t : Opr} (hr : Rch l i h) (ht : l[i]? = some t) (hb : okO t h = false) : NoH l := fun ⟨H, hH⟩ => by
  obtain ⟨_, u, hu, ho⟩ := hH.fit i h hr
  rw [ht] at hu
  obtain rfl := Option.some.inj hu
  rw [hb] at ho; cases ho
theorem HInv.put {l : List Opr} {H : List Int} (hi : HInv l H) {i : Nat} {h : Int} (hm : H[i]? = some (-1)) (hp : 0 ≤ h) (ht : h ≤ 2 * ((l.length : Int) - (openN H : Int)) + 2) (hr : Rch l i h) : HInv l (H.set i h) := by
  have hN := openN_set H i h hm (by omega)
  have hlt : i < H.length := by
    rcases Nat.lt_or_ge i H.length with h | h
    · exact h
    · rw [List.getElem?_eq_none_iff.2 h] at hm; cases hm
  refine ⟨by rw [List.length_set]; exact hi.len, fun k x hk => ?_, fun k x hk => ?_⟩
  · by_cases e : i = k
    · subst e
      rw [List.getElem?_set_self hlt] at hk
      obtain rfl := Option.some.inj hk
      exact .inr ⟨hp, hr⟩
    · rw [List.getElem?_set_ne e] at hk
      exact hi.only k x hk
  · by_cases e : i = k
    · subst e
      rw [List.getElem?_set_self hlt] at hk
      obtain rfl := Option.some.inj hk
      omega
    · rw [List.getElem?_set_ne e] at hk
      have := hi.top k x hk
      omega
theorem putO_le (t : Opr) : putO t ≤ 2 := by unfold putO; repeat (first | omega | split)
theorem next_le {t : Opr} (h : 0 ≤ takeO t) (g : Int) : nextO t g ≤ g + 2 := by have := putO_le t; unfold nextO; omega
theorem next_pos {t : Opr} {g : Int} (hl : leavesO t = false) (hok : okO t g = true) : 0 ≤ nextO t g := by
  unfold okO at hok
  rw [hl] at hok
  have h2 : takeO t ≤ g := by simpa using hok
  have h3 := putO_pos t
  unfold nextO; omega
def outO1 (n : Nat) (t : Opr) : Bool := hasT t && decide ((n : Int) ≤ tgtO t)
def leadsOut (l : List Opr) : Bool := l.any (outO1 l.length)
def HRel (b : Blk) (c : Int) (H : List Int) : Prop :=
  (blkFault b ≠ 0 ∧ c = blkFault b ∧ H = []) ∨ (blkFault b = 0 ∧ c = 0 ∧ leadsOut b.ops = false ∧ IsHgt b.ops H) ∨ (blkFault b = 0 ∧ c = 1 ∧ H = [] ∧ (leadsOut b.ops = true ∨ NoH b.ops))
theorem HRel.some (b : Blk) : ∃ c H, HRel b c H := by
  by_cases h : blkFault b = 0
  · cases ho : leadsOut b.ops
    · by_cases hx : ∃ H, IsHgt b.ops H
      · obtain ⟨H, hH⟩ := hx
        exact ⟨0, H, .inr (.inl ⟨h, rfl, ho, hH⟩)⟩
      · exact ⟨1, [], .inr (.inr ⟨h, rfl, rfl, .inr hx⟩)⟩
    · exact ⟨1, [], .inr (.inr ⟨h, rfl, rfl, .inl ho⟩)⟩
  · exact ⟨blkFault b, [], .inl ⟨h, rfl, rfl⟩⟩
def Holds (l : List Opr) (H : List Int) : Prop := leadsOut l = false ∧ IsHgt l H
theorem noH_nil : NoH [] := noH_out (Rch.zero []) (Nat.le_refl _)
theorem tgt_none {t : Opr} (h : hasT t = false) : tgtO t = -1 := by
  unfold hasT at h
  simp only [Bool.or_eq_false_iff, beq_eq_false_iff_ne] at h
  unfold tgtO
  rw [if_neg (by omega), if_neg (by omega)]
def leadF (H : List Int) (k : Int) (h : Int) : Bool × Bool × List Int :=
  if 0 ≤ k ∧ k < (H.length : Int) then (if H.getD k.toNat 0 < 0 then (true, true, H.set k.toNat h) else (false, H.getD k.toNat 0 == h, H)) else (false, false, H)
theorem getD_some {H : List Int} {i : Nat} (h : i < H.length) : H[i]? = some (H.getD i 0) := by simp [h]
theorem lead_step {l : List Opr} {H : List Int} (hi : HInv l H) {i : Nat} {h : Int} (hr : Rch l i h) (hp : 0 ≤ h) (htop : h ≤ 2 * ((l.length : Int) - (openN H : Int)) + 2) {n o : Bool} {H' : List Int} (e : leadF H (i : Int) h = (n, o, H')) :
    (o = false → NoH l) ∧ (o = true → HInv l H' ∧ H'[i]? = some h ∧ (n = false → H' = H) ∧ (n = true → openN H' + 1 = openN H) ∧ ∀ (j : Nat) (x : Int), H[j]? = some x → 0 ≤ x → H'[j]? = some x) := by
  unfold leadF at e
  by_cases hk : 0 ≤ (i : Int) ∧ (i : Int) < (H.length : Int)
  · rw [if_pos hk] at e
    have hlt : i < H.length := by omega
    have hg := getD_some hlt
    rw [Int.toNat_natCast] at e
    by_cases hn : H.getD i 0 < 0
    · rw [if_pos hn] at e
      obtain ⟨rfl, rfl, rfl⟩ : true = n ∧ true = o ∧ H.set i h = H' := by simpa using e
      have hm : H.getD i 0 = -1 := by
        rcases hi.only i _ hg with h1 | ⟨h1, _⟩
        · exact h1
        · omega
      refine ⟨(fun h => by cases h), fun _ => ⟨hi.put (by rw [hg, hm]) hp htop hr, by simp [hlt], (fun h => by cases h), fun _ => openN_set H i h (by rw [hg, hm]) (by omega), fun j x hj hx => ?_⟩⟩
      by_cases ej : i = j
      · subst ej
        rw [hg, hm] at hj
        have := Option.some.inj hj
        omega
      · rw [List.getElem?_set_ne ej]; exact hj
    · rw [if_neg hn] at e
      obtain ⟨rfl, ho, rfl⟩ : false = n ∧ (H.getD i 0 == h) = o ∧ H = H' := by simpa using e
      rcases hi.only i _ hg with h1 | ⟨_, hr2⟩
      · omega
      refine ⟨fun h1 => noH_two hr2 hr (by rw [h1] at ho; simpa using ho), fun h1 => ?_⟩
      rw [h1] at ho
      have he : H.getD i 0 = h := by simpa using ho
      exact ⟨hi, by rw [hg, he], fun _ => rfl, (fun h => by cases h), fun j x hj _ => hj⟩
  · rw [if_neg hk] at e
    obtain ⟨rfl, rfl, rfl⟩ : false = n ∧ false = o ∧ H = H' := by simpa using e
    exact ⟨fun _ => noH_out hr (by have := hi.len; omega), fun h => by cases h⟩
structure PassI (l : List Opr) (H0 H : List Int) (k : Nat) (turned : Bool) : Prop where
  inv : HInv l H
  first : H[0]? = some 0
  le : openN H ≤ openN H0
  less : turned = true → openN H < openN H0
  same : turned = false → H = H0 ∧ ∀ j, j < k → ClosedAt l H j
theorem PassI.skip {l : List Opr} {H0 H : List Int} {k : Nat} {u : Bool} (h : PassI l H0 H k u) (hn : H.getD k 0 < 0) (hk : k < l.length) : PassI l H0 H (k + 1) u := by
  refine ⟨h.inv, h.first, h.le, h.less, fun hu => ⟨(h.same hu).1, fun j hj => ?_⟩⟩
  by_cases e : j < k
  · exact (h.same hu).2 j e
  · have : j = k := by omega
    subst this
    intro t g _ hg hp
    rw [getD_some (by rw [h.inv.len]; exact hk)] at hg
    have := Option.some.inj hg
    omega
theorem PassI.done {l : List Opr} {H0 H : List Int} (h : PassI l H0 H l.length false) : IsHgt l H := hgt_closed h.inv h.first (h.same rfl).2
theorem PassI.step {l : List Opr} {H0 H H1 H2 : List Int} {k : Nat} {u n1 n2 : Bool} {t : Opr} {g : Int} (h : PassI l H0 H k u) (ht : l[k]? = some t) (hg : H[k]? = some g) (hp : 0 ≤ g) (hok : okO t g = true)
    (h1 : (endsO t = false ∧ leadF H ((k + 1 : Nat) : Int) (nextO t g) = (n1, true, H1)) ∨ (endsO t = true ∧ n1 = false ∧ H1 = H))
    (h2 : (hasT t = true ∧ leadF H1 (tgtO t) (nextO t g) = (n2, true, H2)) ∨ (hasT t = false ∧ n2 = false ∧ H2 = H1)) (hpos : hasT t = true → 0 ≤ tgtO t) (htk : 0 ≤ takeO t) : PassI l H0 H2 (k + 1) (u || n1 || n2) := by
  have hnt := next_le htk g
  have hgt := h.inv.top k g hg
  have hr : Rch l k g := by
    rcases h.inv.only k g hg with e | e
    · omega
    · exact e.2
  have hlv : ∀ (_ : endsO t = false ∨ hasT t = true), leavesO t = false := fun hw => by
    rcases hw with h1 | h1
    · unfold endsO at h1; simp only [Bool.or_eq_false_iff] at h1; exact h1.2
    · exact hasT_leaves h1
  have s1 : HInv l H1 ∧ (endsO t = false → H1[k + 1]? = some (nextO t g)) ∧ (n1 = false → H1 = H) ∧ (n1 = true → openN H1 + 1 = openN H) ∧ ∀ (j : Nat) (x : Int), H[j]? = some x → 0 ≤ x → H1[j]? = some x := by
    rcases h1 with ⟨he, h1⟩ | ⟨he, rfl, rfl⟩
    · obtain ⟨a, b, c, d, e⟩ := (lead_step h.inv (hr.lead ⟨t, ht, rfl, .inl ⟨he, rfl⟩⟩) (next_pos (hlv (.inl he)) hok) (by omega) h1).2 rfl
      exact ⟨a, fun _ => b, c, d, e⟩
    · exact ⟨h.inv, (fun e => by rw [he] at e; cases e), fun _ => rfl, (fun e => by cases e), fun _ _ hj _ => hj⟩
  obtain ⟨i1, b1, c1, d1, e1⟩ := s1
  have l1 : openN H1 ≤ openN H := by
    cases n1
    · rw [c1 rfl]; exact Nat.le_refl _
    · have := d1 rfl; omega
  have s2 : HInv l H2 ∧ (hasT t = true → H2[(tgtO t).toNat]? = some (nextO t g)) ∧ (n2 = false → H2 = H1) ∧ (n2 = true → openN H2 + 1 = openN H1) ∧ ∀ (j : Nat) (x : Int), H1[j]? = some x → 0 ≤ x → H2[j]? = some x := by
    rcases h2 with ⟨he, h2⟩ | ⟨he, rfl, rfl⟩
    · have hq := hpos he
      have hc : (((tgtO t).toNat : Nat) : Int) = tgtO t := by omega
      obtain ⟨a, b, c, d, e⟩ := (lead_step i1 (hr.lead ⟨t, ht, rfl, .inr ⟨he, hc⟩⟩) (next_pos (hlv (.inr he)) hok) (by omega) (by rw [hc]; exact h2)).2 rfl
      exact ⟨a, fun _ => b, c, d, e⟩
    · exact ⟨i1, (fun e => by rw [he] at e; cases e), fun _ => rfl, (fun e => by cases e), fun _ _ hj _ => hj⟩
  obtain ⟨i2, b2, c2, d2, e2⟩ := s2
  have l2 : openN H2 ≤ openN H1 := by
    cases n2
    · rw [c2 rfl]; exact Nat.le_refl _
    · have := d2 rfl; omega
  refine ⟨i2, e2 _ _ (e1 _ _ h.first (by omega)) (by omega), by have := h.le; omega, fun hu => ?_, fun hu => ?_⟩
  · have h0 := h.le
    cases u
    · cases n1
      · cases n2
        · cases hu
        · have := d2 rfl; omega
      · have := d1 rfl; omega
    · have := h.less rfl; omega
  · simp only [Bool.or_eq_false_iff] at hu
    obtain ⟨⟨rfl, rfl⟩, rfl⟩ := hu
    have q1 := c1 rfl
    have q2 := c2 rfl
    subst q1; subst q2
    obtain ⟨q0, hc⟩ := h.same rfl
    refine ⟨q0, fun j hj => ?_⟩
    by_cases e : j < k
    · exact hc j e
    · have : j = k := by omega
      subst this
      intro t' g' ht' hg' _
      rw [ht] at ht'; obtain rfl := Option.some.inj ht'
      rw [hg] at hg'; obtain rfl := Option.some.inj hg'
      refine ⟨hok, fun i x hl => ?_⟩
      obtain ⟨t2, ht2, rfl, hw⟩ := hl
      rw [ht] at ht2; obtain rfl := Option.some.inj ht2
      rcases hw with ⟨h1, rfl⟩ | ⟨h1, h2⟩
      · exact b1 h1
      · have := b2 h1
        rw [← h2] at this
        simpa using this
structure OpBnd (t : Opr) : Prop where
  k1 : 1 ≤ t.kind
  k2 : t.kind ≤ 16
  a1 : 0 ≤ t.a
  a2 : t.a ≤ 999
  b1 : 0 ≤ t.b
  b2 : t.b ≤ 999
  c1 : 0 ≤ t.c
  c2 : t.c ≤ 999
  d1 : 0 ≤ t.d
  d2 : t.d ≤ 999
theorem opBnd {t : Opr} (h0 : opFault t = 0) : OpBnd t := by
  have hin : (decide (1 ≤ t.kind) && decide (t.kind ≤ 16)) = true := by
    cases e : (decide (1 ≤ t.kind) && decide (t.kind ≤ 16))
    · unfold opFault at h0; rw [e] at h0; cases h0
    · rfl
  unfold opFault at h0
  rw [hin] at h0
  simp only [if_true] at h0
  by_cases e1 : (extraN t || extraT t) = true
  · rw [if_pos e1] at h0; cases h0
  rw [if_neg e1] at h0
  by_cases e2 : outO t = true
  · rw [if_pos e2] at h0; cases h0
  have e3 : outO t = false := by simpa using e2
  have ho : outN t.a = false ∧ outN t.b = false ∧ outN t.c = false ∧ outN t.d = false := by simpa [outO, numsL] using e3
  have q : ∀ x, outN x = false → 0 ≤ x ∧ x ≤ 999 := fun x hx => by
    simp only [outN, Bool.or_eq_false_iff, decide_eq_false_iff_not] at hx; omega
  simp only [Bool.and_eq_true, decide_eq_true_eq] at hin
  exact ⟨hin.1, hin.2, (q _ ho.1).1, (q _ ho.1).2, (q _ ho.2.1).1, (q _ ho.2.1).2, (q _ ho.2.2.1).1, (q _ ho.2.2.1).2, (q _ ho.2.2.2).1, (q _ ho.2.2.2).2⟩
theorem OpBnd.tgt {t : Opr} (h : OpBnd t) (hh : hasT t = true) : 0 ≤ tgtO t ∧ tgtO t ≤ 999 := by
  unfold hasT at hh
  simp only [Bool.or_eq_true, beq_iff_eq] at hh
  have := h.a1; have := h.a2; have := h.c1; have := h.c2
  unfold tgtO
  by_cases k1 : t.kind = 5 ∨ t.kind = 6
  · rw [if_pos k1]; omega
  · rw [if_neg k1, if_pos (by omega)]; omega
theorem OpBnd.take {t : Opr} (h : OpBnd t) : 0 ≤ takeO t ∧ takeO t ≤ 1000 ∧ 0 ≤ putO t ∧ putO t ≤ 2 := by
  have := h.a1; have := h.a2
  unfold takeO putO
  refine ⟨?_, ?_, ?_, ?_⟩ <;> (repeat (first | omega | split))
theorem OpBnd.kinds {t : Opr} (h : OpBnd t) : t.kind = 1 ∨ t.kind = 2 ∨ t.kind = 3 ∨ t.kind = 4 ∨ t.kind = 5 ∨ t.kind = 6 ∨ t.kind = 7 ∨ t.kind = 8 ∨ t.kind = 9 ∨ t.kind = 10 ∨ t.kind = 11 ∨ t.kind = 12 ∨ t.kind = 13 ∨ t.kind = 14 ∨ t.kind = 15 ∨ t.kind = 16 := by
  have := h.k1; have := h.k2; omega
theorem blk_ops {b : Blk} (h : blkFault b = 0) : b.ops.length ≤ 200 ∧ (∀ t ∈ b.ops, opFault t = 0) ∧ 0 ≤ b.args ∧ b.args ≤ 3 := by
  unfold blkFault at h
  split at h
  · cases h
  · rename_i h1
    split at h
    · cases h
    · rename_i h2
      simp only [Bool.or_eq_true, decide_eq_true_eq] at h1
      exact ⟨by omega, fun t ht => firstC_zero b.ops h t ht, by omega, by omega⟩
def Known (H : List Int) (O : List (Nat × Int)) (i : Nat) (h : Int) : Prop := H[i]? = some h ∨ (i, h) ∈ O
structure PInv (l : List Opr) (H : List Int) (O : List (Nat × Int)) : Prop where
  inv : HInv l H
  opens : ∀ p ∈ O, p.1 < l.length ∧ 0 ≤ p.2 ∧ Rch l p.1 p.2 ∧ H[p.1]? = some (-1) ∧ p.2 ≤ 2 * ((l.length : Int) - (openN H : Int))
  keys : (O.map Prod.fst).Nodup
def ClosedP (l : List Opr) (H : List Int) (O : List (Nat × Int)) (j : Nat) : Prop := ∀ t g, l[j]? = some t → H[j]? = some g → 0 ≤ g → okO t g = true ∧ ∀ i h, Lead l j g i h → 0 ≤ h ∧ Known H O i h
def ComeR (H : List Int) (O : List (Nat × Int)) (i : Nat) (h : Int) (ok : Bool) (O' : List (Nat × Int)) : Prop :=
  (H.length ≤ i ∧ ok = false ∧ O' = O) ∨ (∃ g, H[i]? = some g ∧ g ≠ -1 ∧ ok = (g == h) ∧ O' = O) ∨ (H[i]? = some (-1) ∧ ∃ g, (i, g) ∈ O ∧ ok = (g == h) ∧ O' = O) ∨ (H[i]? = some (-1) ∧ (∀ p ∈ O, p.1 ≠ i) ∧ ok = true ∧ O' = O ++ [(i, h)])
theorem come_step {l : List Opr} {H : List Int} {O O' : List (Nat × Int)} {i : Nat} {h : Int} {ok : Bool} (hi : PInv l H O) (hr : Rch l i h) (hp : 0 ≤ h) (htop : h ≤ 2 * ((l.length : Int) - (openN H : Int))) (hc : ComeR H O i h ok O') :
    (ok = false → NoH l) ∧ (ok = true → PInv l H O' ∧ Known H O' i h ∧ ∀ p ∈ O, p ∈ O') := by
  rcases hc with ⟨h1, rfl, rfl⟩ | ⟨g, h1, h2, rfl, rfl⟩ | ⟨h1, g, h2, rfl, rfl⟩ | ⟨h1, h2, rfl, rfl⟩
  · exact ⟨fun _ => noH_out hr (by rw [← hi.inv.len]; exact h1), (fun e => by cases e)⟩
  · have hg : Rch l i g := by
      rcases hi.inv.only i g h1 with e | e
      · exact absurd e h2
      · exact e.2
    refine ⟨fun e => noH_two hg hr (by simpa using e), fun e => ?_⟩
    have e' : g = h := by simpa using e
    subst e'
    exact ⟨hi, .inl h1, fun p hp => hp⟩
  · have hg : Rch l i g := (hi.opens _ h2).2.2.1
    refine ⟨fun e => noH_two hg hr (by simpa using e), fun e => ?_⟩
    have e' : g = h := by simpa using e
    subst e'
    exact ⟨hi, .inr h2, fun p hp => hp⟩
  · refine ⟨(fun e => by cases e), fun _ => ⟨⟨hi.inv, fun p hq => ?_, ?_⟩, .inr (by simp), fun p hp => by simp [hp]⟩⟩
    · rcases List.mem_append.1 hq with hq | hq
      · exact hi.opens p hq
      · rw [List.mem_singleton] at hq
        subst hq
        refine ⟨?_, hp, hr, h1, htop⟩
        rcases Nat.lt_or_ge i l.length with e | e
        · exact e
        · rw [List.getElem?_eq_none_iff.2 (by rw [hi.inv.len]; exact e)] at h1; cases h1
    · rw [List.map_append, List.nodup_append]
      refine ⟨hi.keys, by simp, fun a ha b hb => ?_⟩
      simp only [List.map_cons, List.map_nil, List.mem_singleton] at hb
      subst hb
      obtain ⟨p, hp, rfl⟩ := List.mem_map.1 ha
      exact h2 p hp
structure JP (l : List Opr) (H : List Int) (O : List (Nat × Int)) : Prop where
  pinv : PInv l H O
  start : Known H O 0 0
  closed : ∀ j, j < l.length → ClosedP l H O j
theorem JP.done {l : List Opr} {H : List Int} (h : JP l H []) : IsHgt l H := by
  have hk : ∀ i x, Known H [] i x → H[i]? = some x := fun i x hx => by
    rcases hx with h | h
    · exact h
    · cases h
  exact hgt_closed h.pinv.inv (hk 0 0 h.start) (fun j hj t g ht hg hp => ⟨(h.closed j hj t g ht hg hp).1, fun i x hl => hk i x ((h.closed j hj t g ht hg hp).2 i x hl).2⟩)
def GoR (t : Opr) (H1 : List Int) (O : List (Nat × Int)) (i : Nat) (h : Int) (r : Bool) (O' : List (Nat × Int)) : Prop :=
  (leavesO t = true ∧ r = (h == atEndO t) ∧ O' = O) ∨ (leavesO t = false ∧ h < takeO t ∧ r = false ∧ O' = O) ∨ (leavesO t = false ∧ takeO t ≤ h ∧ ∃ o1 O1, ((hasT t = true ∧ ComeR H1 O (tgtO t).toNat (nextO t h) o1 O1) ∨ (hasT t = false ∧ o1 = true ∧ O1 = O)) ∧ ((o1 = false ∧ r = false ∧ O' = O1) ∨ (o1 = true ∧ t.kind = 5 ∧ r = true ∧ O' = O1) ∨ (o1 = true ∧ t.kind ≠ 5 ∧ ComeR H1 O1 (i + 1) (nextO t h) r O')))
theorem erase_mem {O : List (Nat × Int)} {k : Nat} {i : Nat} {h : Int} (hn : (O.map Prod.fst).Nodup) (hk : O[k]? = some (i, h)) : (∀ p ∈ O.eraseIdx k, p ∈ O ∧ p.1 ≠ i) ∧ (∀ p ∈ O, p = (i, h) ∨ p ∈ O.eraseIdx k) ∧ ((O.eraseIdx k).map Prod.fst).Nodup := by
  have hkl : k < O.length := (List.getElem?_eq_some_iff.1 hk).1
  have ek : O[k] = (i, h) := (List.getElem?_eq_some_iff.1 hk).2
  refine ⟨fun p hp => ?_, fun p hp => ?_, ?_⟩
  · rw [List.mem_eraseIdx_iff_getElem] at hp
    obtain ⟨j, hj, hjk, rfl⟩ := hp
    refine ⟨List.getElem_mem hj, fun e => ?_⟩
    have h1 : (O.map Prod.fst)[j]'(by simpa using hj) = (O.map Prod.fst)[k]'(by simpa using hkl) := by simp [e, ek]
    rcases Nat.lt_or_gt_of_ne hjk with h | h
    · exact List.pairwise_iff_getElem.1 hn j k (by simpa using hj) (by simpa using hkl) h h1
    · exact List.pairwise_iff_getElem.1 hn k j (by simpa using hkl) (by simpa using hj) h h1.symm
  · obtain ⟨j, hj, rfl⟩ := List.getElem_of_mem hp
    by_cases e : j = k
    · subst e; exact .inl ek
    · exact .inr (List.mem_eraseIdx_iff_getElem.2 ⟨j, hj, e, rfl⟩)
  · exact hn.sublist ((List.eraseIdx_sublist _ _).map _)
theorem go_step {l : List Opr} {H : List Int} {O O' : List (Nat × Int)} {i k : Nat} {h : Int} {r : Bool} {t : Opr} (hJ : JP l H O) (hk : O[k]? = some (i, h)) (ht : l[i]? = some t) (hpos : hasT t = true → 0 ≤ tgtO t) (htk : 0 ≤ takeO t) (hg : GoR t (H.set i h) (O.eraseIdx k) i h r O') :
    (r = false → NoH l) ∧ (r = true → JP l (H.set i h) O' ∧ openN (H.set i h) + 1 = openN H) := by
  have hmem : (i, h) ∈ O := List.mem_of_getElem? hk
  obtain ⟨hil, hp, hr, hm, htop⟩ := hJ.pinv.opens _ hmem
  have htop' : h ≤ 2 * ((l.length : Int) - (openN H : Int)) := htop
  replace hr : Rch l i h := hr
  replace hp : 0 ≤ h := hp
  replace hm : H[i]? = some (-1) := hm
  have hN := openN_set H i h hm (by omega)
  have hnt := next_le htk h
  have hil' : i < l.length := hil
  have hiH : i < H.length := by rw [hJ.pinv.inv.len]; exact hil'
  obtain ⟨m1, m2, m3⟩ := erase_mem hJ.pinv.keys hk
  have hself : (H.set i h)[i]? = some h := by simp [hiH]
  have hother : ∀ j, i ≠ j → (H.set i h)[j]? = H[j]? := fun j hj => List.getElem?_set_ne hj
  have hP : PInv l (H.set i h) (O.eraseIdx k) := ⟨hJ.pinv.inv.put hm hp (by omega) hr, fun p hq => by
    obtain ⟨q1, q2⟩ := m1 p hq
    obtain ⟨a, b, c, d, f⟩ := hJ.pinv.opens p q1
    exact ⟨a, b, c, by rw [hother p.1 (fun e => q2 e.symm)]; exact d, by omega⟩, m3⟩
  have hkn : ∀ O2 : List (Nat × Int), (∀ p ∈ O.eraseIdx k, p ∈ O2) → ∀ j x, 0 ≤ x → Known H O j x → Known (H.set i h) O2 j x := fun O2 hO2 j x hx hkn => by
    rcases hkn with e | e
    · by_cases hij : i = j
      · subst hij
        rw [hm] at e
        have := Option.some.inj e
        omega
      · exact .inl (by rw [hother j hij]; exact e)
    · rcases m2 _ e with e | e
      · have e1 : j = i ∧ x = h := by simpa using e
        obtain ⟨rfl, rfl⟩ := e1
        exact .inl hself
      · exact .inr (hO2 _ e)
  have fin : ∀ O2 : List (Nat × Int), (∀ p ∈ O.eraseIdx k, p ∈ O2) → PInv l (H.set i h) O2 → ClosedP l (H.set i h) O2 i → JP l (H.set i h) O2 ∧ openN (H.set i h) + 1 = openN H := fun O2 hO2 hP2 hC => by
    refine ⟨⟨hP2, hkn O2 hO2 0 0 (by omega) hJ.start, fun j hj => ?_⟩, hN⟩
    by_cases hij : i = j
    · subst hij; exact hC
    · intro u g hu hgu hpu
      rw [hother j hij] at hgu
      obtain ⟨c1, c2⟩ := hJ.closed j hj u g hu hgu hpu
      exact ⟨c1, fun a x hl => ⟨(c2 a x hl).1, hkn O2 hO2 a x (c2 a x hl).1 (c2 a x hl).2⟩⟩
  rcases hg with ⟨hl, rfl, rfl⟩ | ⟨hl, hlt, rfl, rfl⟩ | ⟨hl, hle, o1, O1, hc1, hc2⟩
  · have hok : okO t h = (h == atEndO t) := by unfold okO; rw [hl]; rfl
    refine ⟨fun e => noH_bad hr ht (by rw [hok, e]), fun e => ?_⟩
    refine fin _ (fun p hp => hp) hP (fun u g hu hgu _ => ?_)
    rw [ht] at hu; obtain rfl := Option.some.inj hu
    rw [hself] at hgu; obtain rfl := Option.some.inj hgu
    refine ⟨by rw [hok]; exact e, fun a x hlead => ?_⟩
    obtain ⟨t2, ht2, _, hw⟩ := hlead
    rw [ht] at ht2; obtain rfl := Option.some.inj ht2
    rcases hw with ⟨h1, _⟩ | ⟨h1, _⟩
    · unfold endsO at h1; rw [hl] at h1; simp at h1
    · have := hasT_leaves h1; rw [hl] at this; cases this
  · have hok : okO t h = false := by unfold okO; rw [hl]; simp; omega
    exact ⟨fun _ => noH_bad hr ht hok, (fun e => by cases e)⟩
  · have hok : okO t h = true := by unfold okO; rw [hl]; simpa using hle
    have hnp := next_pos hl hok
    have s1 : (o1 = false → NoH l) ∧ (o1 = true → PInv l (H.set i h) O1 ∧ (hasT t = true → Known (H.set i h) O1 (tgtO t).toNat (nextO t h)) ∧ ∀ p ∈ O.eraseIdx k, p ∈ O1) := by
      rcases hc1 with ⟨hh, hc⟩ | ⟨hh, rfl, rfl⟩
      · have hq := hpos hh
        have s := come_step hP (hr.lead ⟨t, ht, rfl, .inr ⟨hh, by omega⟩⟩) hnp (by omega) hc
        exact ⟨s.1, fun e => ⟨(s.2 e).1, fun _ => (s.2 e).2.1, (s.2 e).2.2⟩⟩
      · exact ⟨(fun e => by cases e), fun _ => ⟨hP, (fun e => by rw [hh] at e; cases e), fun p hp => hp⟩⟩
    have lead_of : ∀ O2 : List (Nat × Int), (hasT t = true → Known (H.set i h) O2 (tgtO t).toNat (nextO t h)) → (t.kind ≠ 5 → Known (H.set i h) O2 (i + 1) (nextO t h)) → ClosedP l (H.set i h) O2 i := fun O2 k1 k2 u g hu hgu _ => by
      rw [ht] at hu; obtain rfl := Option.some.inj hu
      rw [hself] at hgu; obtain rfl := Option.some.inj hgu
      refine ⟨hok, fun a x hlead => ?_⟩
      obtain ⟨t2, ht2, rfl, hw⟩ := hlead
      rw [ht] at ht2; obtain rfl := Option.some.inj ht2
      refine ⟨hnp, ?_⟩
      rcases hw with ⟨h1, rfl⟩ | ⟨h1, h2⟩
      · exact k2 (fun e => by unfold endsO at h1; simp [e] at h1)
      · have := k1 h1
        rw [← h2] at this
        simpa using this
    rcases hc2 with ⟨rfl, rfl, rfl⟩ | ⟨rfl, h5, rfl, rfl⟩ | ⟨rfl, h5, hc⟩
    · exact ⟨fun _ => s1.1 rfl, (fun e => by cases e)⟩
    · obtain ⟨p1, p2, p3⟩ := s1.2 rfl
      exact ⟨(fun e => by cases e), fun _ => fin _ p3 p1 (lead_of _ p2 (fun e => absurd h5 e))⟩
    · obtain ⟨p1, p2, p3⟩ := s1.2 rfl
      have hend : endsO t = false := by unfold endsO; rw [hl]; simp [h5]
      have s := come_step p1 (hr.lead ⟨t, ht, rfl, .inl ⟨hend, rfl⟩⟩) hnp (by omega) hc
      refine ⟨s.1, fun e => ?_⟩
      obtain ⟨q1, q2, q3⟩ := s.2 e
      refine fin _ (fun p hp => q3 p (p3 p hp)) q1 (lead_of _ (fun hh => ?_) (fun _ => q2))
      rcases p2 hh with e | e
      · exact .inl e
      · exact .inr (q3 _ e)
theorem JP.init {l : List Opr} (hl : 0 < l.length) : JP l (List.replicate l.length (-1)) [(0, 0)] := by
  have hr : ∀ i x, (List.replicate l.length (-1 : Int))[i]? = some x → x = -1 := fun i x e => by
    rw [List.getElem?_replicate] at e
    split at e
    · exact (Option.some.inj e).symm
    · cases e
  have hN := openN_le (List.replicate l.length (-1 : Int))
  rw [List.length_replicate] at hN
  refine ⟨⟨⟨by simp, fun i x e => .inl (hr i x e), fun i x e => by have := hr i x e; omega⟩, fun p hp => ?_, by simp⟩, .inr (by simp), fun j _ t g _ hg hp => ?_⟩
  · rw [List.mem_singleton] at hp
    subst hp
    exact ⟨hl, by simp, Rch.zero l, by simp [hl], by show (0 : Int) ≤ _; omega⟩
  · have := hr j g hg; omega
theorem JP.room {l : List Opr} {H : List Int} {O : List (Nat × Int)} (h : JP l H O) : ∀ p ∈ O, p.1 < l.length ∧ 0 ≤ p.2 := fun p hp => ⟨(h.pinv.opens p hp).1, (h.pinv.opens p hp).2.1⟩
end Go.Proofs.YtoafolefecddmaaGreatDoor
