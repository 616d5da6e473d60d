/-
  Parts of the proof laid into one text, one behind the other: FuseMath, UnfMath. Contracts of the program's and the model's functions, and what they are proved of, as their theorems say.
-/
import Derived.Test.YtoafolefecddmaaGreatDoorHgA
import Derived.Test.YtoafolefecddmaaGreatDoorHjD
namespace Go.Proofs.YtoafolefecddmaaGreatDoor
def bitT (tb bit : Int) : Bool := tb / bit % 2 == 1
def twoK (tb j k : Int) : Int :=
  if j = 1 ∧ k = 12 then (if bitT tb 1 then 13 else 0)
  else if j = 2 ∧ k = 12 then (if bitT tb 2 then 14 else 0)
  else if j = 2 ∧ k = 2 then (if bitT tb 4 then 15 else 0)
  else if j = 2 ∧ k = 6 then (if bitT tb 8 then 16 else 0) else 0
def opK (k a b c d : Int) (x : List Dat) : Opr := ⟨k, a, b, c, d, ⟨#[]⟩, x⟩
def joinO (a b : Opr) (k : Int) : Opr := if k = 13 then opK 13 0 0 0 0 a.data else if k = 14 then opK 14 a.a a.b 0 0 [] else if k = 15 then opK 15 a.a a.b b.a b.b [] else opK 16 a.a a.b b.a 0 []
abbrev StF := List Opr × List Int
def putF (s : StF) (old : Nat) (new : List Opr) : StF := (s.1 ++ new, s.2 ++ List.replicate old (s.1.length : Int))
def pairs (tb : Int) (l : List Opr) (i : Nat) (a b : Opr) : Bool := twoK tb a.kind b.kind != 0 && !(isT l ((i : Int) + 1))
def stepF (tb : Int) (l : List Opr) (s : StF) : StF :=
  match l[s.2.length]? with
  | none => s
  | some a => match l[s.2.length + 1]? with
    | none => putF s 1 [a]
    | some b => if pairs tb l s.2.length a b then putF s 2 [joinO a b (twoK tb a.kind b.kind)] else putF s 1 [a]
def runF (tb : Int) (l : List Opr) : Nat → StF
  | 0 => ([], [])
  | n + 1 => stepF tb l (runF tb l n)
def turnO (Q : List Int) (t : Opr) : Opr := if t.kind = 5 ∨ t.kind = 6 then { t with a := Q.getD t.a.toNat 0 } else if t.kind = 16 then { t with c := Q.getD t.c.toNat 0 } else t
def turned (s : StF) : List Opr := s.1.map (turnO s.2)
def fuseO (tb : Int) (l : List Opr) : List Opr := turned (runF tb l l.length)
def fuseB (tb : Int) (b : Blk) : Blk := ⟨b.args, fuseO tb b.ops⟩
def fine1 (n : Nat) (t : Opr) : Prop := opFault t = 0 ∧ (hasT t = true → 0 ≤ tgtO t ∧ tgtO t < (n : Int)) ∧ t.small
structure FInv (l : List Opr) (m : Nat) (s : StF) : Prop where
  olds : s.2.length ≤ l.length
  news : s.1.length ≤ m * s.2.length
  ops : ∀ t ∈ s.1, fine1 l.length t
  places : ∀ (j : Nat) (x : Int), s.2[j]? = some x → 0 ≤ x ∧ x ≤ (s.1.length : Int)
theorem FInv.zero (l : List Opr) (m : Nat) : FInv l m ([], []) := ⟨Nat.zero_le _, Nat.zero_le _, (fun t ht => by cases ht), (fun j x h => by simp at h)⟩
theorem FInv.put {l : List Opr} {m : Nat} {s : StF} (h : FInv l m s) {old : Nat} {new : List Opr} (h1 : s.2.length + old ≤ l.length) (h2 : new.length ≤ m * old) (h3 : ∀ t ∈ new, fine1 l.length t) : FInv l m (putF s old new) := by
  refine ⟨by simpa [putF] using h1, ?_, ?_, ?_⟩
  · have := h.news
    simp only [putF, List.length_append, List.length_replicate, Nat.mul_add]; omega
  · intro t ht
    rcases List.mem_append.1 ht with q | q
    · exact h.ops t q
    · exact h3 t q
  · intro j x hj
    simp only [putF] at hj ⊢
    by_cases e : j < s.2.length
    · rw [List.getElem?_append_left e] at hj
      have := h.places j x hj
      simp only [List.length_append]; omega
    · rw [List.getElem?_append_right (by omega), List.getElem?_replicate] at hj
      split at hj
      · have := Option.some.inj hj
        simp only [List.length_append]; omega
      · cases hj
theorem hasT_kind {t : Opr} : hasT t = true ↔ t.kind = 5 ∨ t.kind = 6 ∨ t.kind = 16 := by simp [hasT]
theorem fineF_of {l : List Opr} (h0 : ∀ t ∈ l, opFault t = 0) (hs : ∀ t ∈ l, t.small) (ho : leadsOut l = false) : ∀ t ∈ l, fine1 l.length t := fun t ht => by
  refine ⟨h0 t ht, fun hh => ?_, hs t ht⟩
  have h1 := (opBnd (h0 t ht)).tgt hh
  have h2 : outO1 l.length t = false := by
    cases e : outO1 l.length t
    · rfl
    · have : leadsOut l = true := List.any_eq_true.2 ⟨t, ht, e⟩
      rw [ho] at this; cases this
  simp only [outO1, hh, Bool.true_and, decide_eq_false_iff_not] at h2
  omega
theorem fault_parts {t : Opr} (h : opFault t = 0) : extraN t = false ∧ extraT t = false ∧ (constO t.kind = true → dataFault t.data = 0) := by
  have hb := opBnd h
  have hin : (decide (1 ≤ t.kind) && decide (t.kind ≤ 16)) = true := by simp [hb.k1, hb.k2]
  unfold opFault at h
  rw [hin] at h
  simp only [if_true] at h
  by_cases e1 : (extraN t || extraT t) = true
  · rw [if_pos e1] at h; cases h
  rw [if_neg e1] at h
  simp only [Bool.not_eq_true, Bool.or_eq_false_iff] at e1
  refine ⟨e1.1, e1.2, fun hc => ?_⟩
  have hn : namedO t.kind = false := by
    unfold constO at hc; unfold namedO
    simp only [Bool.or_eq_true, beq_iff_eq] at hc
    rcases hc with e | e <;> rw [e] <;> rfl
  by_cases e2 : outO t = true
  · rw [if_pos e2] at h; cases h
  rw [if_neg e2] at h
  by_cases e3 : manyO t = true
  · rw [if_pos e3] at h; cases h
  rw [if_neg e3, hn, hc] at h
  simpa using h
theorem size_nil : ({ data := #[] } : ByteArray).size = 0 := rfl
theorem fault_plain {k a b c d : Int} {x : List Dat} (hk : k = 2 ∨ k = 6 ∨ k = 12 ∨ k = 14 ∨ k = 15 ∨ k = 16) (hx : x = []) (ha : 0 ≤ a ∧ a ≤ 999) (hb : 0 ≤ b ∧ b ≤ 999) (hc : 0 ≤ c ∧ c ≤ 999) (hd : 0 ≤ d ∧ d ≤ 999) (he : extraN (opK k a b c d x) = false) : opFault (opK k a b c d x) = 0 := by
  subst hx
  have hout : outO (opK k a b c d []) = false := by
    have q : ∀ x : Int, 0 ≤ x ∧ x ≤ 999 → outN x = false := fun x hx => by
      unfold outN
      rw [Bool.or_eq_false_iff]
      exact ⟨decide_eq_false (by omega), decide_eq_false (by omega)⟩
    simp [outO, numsL, opK, q _ ha, q _ hb, q _ hc, q _ hd]
  unfold opFault
  rw [he, hout]
  rcases hk with e | e | e | e | e | e <;> subst e <;> simp [opK, extraT, namedO, constO, manyO, size_nil]
theorem fault_const {k : Int} {x : List Dat} (hk : k = 1 ∨ k = 13) (hd : dataFault x = 0) : opFault (opK k 0 0 0 0 x) = 0 := by
  unfold opFault
  rcases hk with e | e <;> subst e <;> simp [opK, extraN, extraT, namedO, constO, manyO, outO, outN, numsL, numsO, hd, size_nil]
theorem small_K {k a b c d : Int} : (opK k a b c d []).small := ⟨by simp [opK, size_nil], by simp [opK], fun k h => by simp [opK] at h⟩
theorem small_D {k a b c d : Int} {t : Opr} (h : t.small) : (opK k a b c d t.data).small := ⟨by simp [opK, size_nil], h.len, h.names⟩
theorem nums_of {t : Opr} (he : extraN t = false) (n : Nat) (hn : numsO t.kind = n) : ((numsL t).drop n).all (· == 0) = true := by
  unfold extraN at he
  rw [hn] at he
  rw [List.any_eq_false] at he
  rw [List.all_eq_true]
  intro x hx
  have := he x hx
  simpa using this
theorem twoK_cases {tb j k : Int} (h : twoK tb j k ≠ 0) : (twoK tb j k = 13 ∧ j = 1 ∧ k = 12) ∨ (twoK tb j k = 14 ∧ j = 2 ∧ k = 12) ∨ (twoK tb j k = 15 ∧ j = 2 ∧ k = 2) ∨ (twoK tb j k = 16 ∧ j = 2 ∧ k = 6) := by
  unfold twoK at h ⊢
  by_cases e1 : j = 1 ∧ k = 12
  · rw [if_pos e1] at h ⊢
    cases e : bitT tb 1
    · rw [e] at h; exact absurd rfl h
    · exact .inl ⟨rfl, e1⟩
  rw [if_neg e1] at h ⊢
  by_cases e2 : j = 2 ∧ k = 12
  · rw [if_pos e2] at h ⊢
    cases e : bitT tb 2
    · rw [e] at h; exact absurd rfl h
    · exact .inr (.inl ⟨rfl, e2⟩)
  rw [if_neg e2] at h ⊢
  by_cases e3 : j = 2 ∧ k = 2
  · rw [if_pos e3] at h ⊢
    cases e : bitT tb 4
    · rw [e] at h; exact absurd rfl h
    · exact .inr (.inr (.inl ⟨rfl, e3⟩))
  rw [if_neg e3] at h ⊢
  by_cases e4 : j = 2 ∧ k = 6
  · rw [if_pos e4] at h ⊢
    cases e : bitT tb 8
    · rw [e] at h; exact absurd rfl h
    · exact .inr (.inr (.inr ⟨rfl, e4⟩))
  rw [if_neg e4] at h
  exact absurd rfl h
theorem fine_join {n : Nat} {tb : Int} {a b : Opr} (ha : fine1 n a) (hb : fine1 n b) (hk : twoK tb a.kind b.kind ≠ 0) : fine1 n (joinO a b (twoK tb a.kind b.kind)) := by
  have qa := opBnd ha.1
  have qb := opBnd hb.1
  have a1 := And.intro qa.a1 qa.a2
  have a2 := And.intro qa.b1 qa.b2
  have b1 := And.intro qb.a1 qb.a2
  have b2 := And.intro qb.b1 qb.b2
  rcases twoK_cases hk with ⟨e, k1, k2⟩ | ⟨e, k1, k2⟩ | ⟨e, k1, k2⟩ | ⟨e, k1, k2⟩ <;> rw [e] <;> unfold joinO
  · rw [if_pos rfl]
    exact ⟨fault_const (.inr rfl) ((fault_parts ha.1).2.2 (by rw [k1]; rfl)), fun h => by simp [hasT, opK] at h, small_D ha.2.2⟩
  · rw [if_neg (by omega), if_pos rfl]
    exact ⟨fault_plain (by simp) rfl a1 a2 (by omega) (by omega) (by simp [extraN, numsL, numsO, opK]), fun h => by simp [hasT, opK] at h, small_K⟩
  · rw [if_neg (by omega), if_neg (by omega), if_pos rfl]
    exact ⟨fault_plain (by simp) rfl a1 a2 b1 b2 (by simp [extraN, numsL, numsO, opK]), fun h => by simp [hasT, opK] at h, small_K⟩
  · rw [if_neg (by omega), if_neg (by omega), if_neg (by omega)]
    have ht := hb.2.1 (hasT_kind.2 (.inr (.inl k2)))
    have hte : tgtO b = b.a := by unfold tgtO; rw [if_pos (.inr k2)]
    rw [hte] at ht
    exact ⟨fault_plain (by simp) rfl a1 a2 b1 (by omega) (by simp [extraN, numsL, numsO, opK]), fun _ => by simpa [tgtO, opK] using ht, small_K⟩
theorem runF_inv {tb : Int} {l : List Opr} (hf : ∀ t ∈ l, fine1 l.length t) : ∀ n, FInv l 1 (runF tb l n)
  | 0 => FInv.zero l 1
  | n + 1 => by
    have h := runF_inv (tb := tb) hf n
    simp only [runF]
    generalize runF tb l n = s at h
    unfold stepF
    cases e1 : l[s.2.length]? with
    | none => exact h
    | some a =>
      have h1 : s.2.length < l.length := by
        rcases Nat.lt_or_ge s.2.length l.length with q | q
        · exact q
        · rw [List.getElem?_eq_none_iff.2 q] at e1; cases e1
      have m1 := List.mem_of_getElem? e1
      cases e2 : l[s.2.length + 1]? with
      | none => exact h.put (by omega) (by simp) (fun t ht => by simp only [List.mem_cons, List.not_mem_nil, or_false] at ht; rw [ht]; exact hf a m1)
      | some b =>
        have h2 : s.2.length + 1 < l.length := by
          rcases Nat.lt_or_ge (s.2.length + 1) l.length with q | q
          · exact q
          · rw [List.getElem?_eq_none_iff.2 q] at e2; cases e2
        have m2 := List.mem_of_getElem? e2
        show FInv l 1 (if pairs tb l s.2.length a b then _ else _)
        cases e3 : pairs tb l s.2.length a b
        · exact h.put (by omega) (by simp) (fun t ht => by simp only [List.mem_cons, List.not_mem_nil, or_false] at ht; rw [ht]; exact hf a m1)
        · refine h.put (by omega) (by simp) (fun t ht => ?_)
          simp only [List.mem_cons, List.not_mem_nil, or_false] at ht
          rw [ht]
          unfold pairs at e3
          simp only [Bool.and_eq_true, bne_iff_ne] at e3
          exact fine_join (hf a m1) (hf b m2) e3.1
theorem runF_step {tb : Int} {l : List Opr} (n : Nat) (h : (runF tb l n).2.length < l.length) : (runF tb l n).2.length < (runF tb l (n + 1)).2.length := by
  simp only [runF]
  generalize runF tb l n = s at h
  unfold stepF
  rw [List.getElem?_eq_getElem h]
  cases l[s.2.length + 1]? with
  | none => simp [putF]
  | some b =>
    show s.2.length < (if _ then _ else _ : StF).2.length
    split <;> simp [putF]
theorem runF_done {tb : Int} {l : List Opr} (n : Nat) (h : l.length ≤ (runF tb l n).2.length) : ∀ k, runF tb l (n + k) = runF tb l n
  | 0 => rfl
  | k + 1 => by
    have e := runF_done n h k
    show stepF tb l (runF tb l (n + k)) = _
    rw [e]
    unfold stepF
    rw [List.getElem?_eq_none_iff.2 h]
theorem runF_le {tb : Int} {l : List Opr} : ∀ n, n ≤ l.length → n ≤ (runF tb l n).2.length ∨ l.length ≤ (runF tb l n).2.length
  | 0, _ => .inl (Nat.zero_le _)
  | n + 1, hn => by
    rcases Nat.lt_or_ge (runF tb l n).2.length l.length with q | q
    · have := runF_step (tb := tb) n q
      rcases runF_le (tb := tb) (l := l) n (by omega) with h | h <;> omega
    · right; have := runF_done (tb := tb) n q 1; rw [this]; exact q
theorem runF_end {tb : Int} {l : List Opr} (n : Nat) (h : l.length ≤ (runF tb l n).2.length) : runF tb l n = runF tb l l.length := by
  have h2 : l.length ≤ (runF tb l l.length).2.length := by rcases runF_le (tb := tb) (l := l) l.length (Nat.le_refl _) with q | q <;> exact q
  rcases Nat.le_total n l.length with q | q
  · have := runF_done n h (l.length - n)
    rw [show n + (l.length - n) = l.length by omega] at this
    exact this.symm
  · have := runF_done l.length h2 (n - l.length)
    rw [show l.length + (n - l.length) = n by omega] at this
    exact this
theorem turn_fine {Q : List Int} {n : Nat} {t : Opr} (h : fine1 n t) (hq : ∀ (j : Nat) (x : Int), Q[j]? = some x → 0 ≤ x ∧ x ≤ 400) : opFault (turnO Q t) = 0 ∧ (turnO Q t).small := by
  have hd : ∀ j, 0 ≤ Q.getD j 0 ∧ Q.getD j 0 ≤ 999 := fun j => by
    rcases Nat.lt_or_ge j Q.length with q | q
    · have := hq j (Q.getD j 0) (by simp [q])
      omega
    · simp [List.getD_eq_getElem?_getD, List.getElem?_eq_none_iff.2 q]
  have hb := opBnd h.1
  obtain ⟨he, hT, -⟩ := fault_parts h.1
  unfold turnO
  by_cases k1 : t.kind = 5 ∨ t.kind = 6
  · rw [if_pos k1]
    refine ⟨?_, h.2.2.name, h.2.2.len, h.2.2.names⟩
    have hnm : 0 < t.name.size → False := fun q => by
      unfold extraT at hT
      rcases k1 with e | e <;> rw [e] at hT <;> simp [namedO, constO, q] at hT
    have hdt : 0 < t.data.length → False := fun q => by
      unfold extraT at hT
      rcases k1 with e | e <;> rw [e] at hT <;> simp [namedO, constO, q] at hT
    have hn := nums_of he 1 (by rcases k1 with e | e <;> rw [e] <;> rfl)
    simp [numsL] at hn
    have hnn : ¬ 0 < t.name.size := fun q => hnm q
    have hdd : ¬ 0 < t.data.length := fun q => hdt q
    have hz := hd t.a.toNat
    have ho : outN (Q.getD t.a.toNat 0) = false := by
      unfold outN
      rw [Bool.or_eq_false_iff]
      exact ⟨decide_eq_false (by omega), decide_eq_false (by omega)⟩
    generalize Q.getD t.a.toNat 0 = z at *
    unfold opFault
    rcases k1 with e | e <;> rw [e] <;> simp only [extraN, extraT, namedO, constO, manyO, outO, numsL, numsO] <;> (simp [hn, hnn, hdd, ho]; try simp [outN])
  rw [if_neg k1]
  by_cases k2 : t.kind = 16
  · rw [if_pos k2]
    refine ⟨?_, h.2.2.name, h.2.2.len, h.2.2.names⟩
    have hnn : ¬ 0 < t.name.size := fun q => by
      unfold extraT at hT
      rw [k2] at hT; simp [namedO, constO, q] at hT
    have hdd : ¬ 0 < t.data.length := fun q => by
      unfold extraT at hT
      rw [k2] at hT; simp [namedO, constO, q] at hT
    have hn := nums_of he 3 (by rw [k2]; rfl)
    simp [numsL] at hn
    have hz := hd t.c.toNat
    have q : ∀ x : Int, 0 ≤ x ∧ x ≤ 999 → outN x = false := fun x hx => by
      unfold outN
      rw [Bool.or_eq_false_iff]
      exact ⟨decide_eq_false (by omega), decide_eq_false (by omega)⟩
    have ho := q _ hz
    have oa := q _ ⟨hb.a1, hb.a2⟩
    have ob := q _ ⟨hb.b1, hb.b2⟩
    generalize Q.getD t.c.toNat 0 = z at *
    unfold opFault
    rw [k2]
    simp only [extraN, extraT, namedO, constO, manyO, outO, numsL, numsO]
    simp [hn, hnn, hdd, ho, oa, ob]
    simp [outN]
  · rw [if_neg k2]; exact ⟨h.1, h.2.2⟩
def tabF (tb : Int) : Int := if 0 ≤ tb ∧ tb ≤ 15 then 0 else 3
def codeFu (ok : Bool) (tb : Int) (l : List Blk) : Int := if codeF ok l ≠ 0 then codeF ok l else tabF tb
def blksFu (ok : Bool) (tb : Int) (l : List Blk) : List Blk := if codeF ok l ≠ 0 then [] else if tabF tb ≠ 0 then [] else l.map (fuseB tb)
structure FineB (b : Blk) : Prop where
  fault : blkFault b = 0
  len : b.ops.length ≤ 200
  out : leadsOut b.ops = false
  ops : ∀ t ∈ b.ops, fine1 b.ops.length t
theorem fineB_of {ok : Bool} {l : List Blk} (h0 : codeF ok l = 0) (hok : OkR l ok) (hz : ∀ (k : Nat) (h : k < l.length), l[k].small) : l.length ≤ 60 ∧ ∀ (k : Nat) (h : k < l.length), FineB l[k] := by
  have h9 : codeFault9 l = 0 := by
    by_cases e : codeFault9 l = 0
    · exact e
    · rw [codeF_nine e] at h0; exact absurd h0 e
  have h1 := nine_all h9
  have hk : ok = true := by
    cases ok
    · unfold codeF at h0
      rw [if_pos h9] at h0
      cases headF l <;> simp at h0
    · rfl
  refine ⟨h1.1, fun k hk' => ?_⟩
  obtain ⟨H, hH⟩ := hok.1 hk l[k] (List.getElem_mem hk')
  have hb := h1.2 k hk'
  have hs : ∀ t ∈ l[k].ops, t.small := fun t ht => by
    obtain ⟨i, hi, rfl⟩ := List.getElem_of_mem ht
    exact (hz k hk').names i hi
  exact ⟨hb, (blk_ops hb).1, hH.1, fineF_of (blk_ops hb).2.1 hs hH.1⟩
theorem fuse_small {tb : Int} {b : Blk} (h : FineB b) : (fuseB tb b).small ∧ (fuseO tb b.ops).length ≤ 200 := by
  have hi := runF_inv (tb := tb) h.ops b.ops.length
  have hn := hi.news
  have ho := hi.olds
  have hl := h.len
  have hlen : (fuseO tb b.ops).length ≤ 200 := by simp only [fuseO, turned, List.length_map]; omega
  refine ⟨⟨by show (fuseO tb b.ops).length ≤ _; omega, fun k hk => ?_⟩, hlen⟩
  have hm : (fuseO tb b.ops)[k]'hk ∈ fuseO tb b.ops := List.getElem_mem hk
  obtain ⟨u, hu, e⟩ := List.mem_map.1 hm
  show ((fuseO tb b.ops)[k]'hk).small
  rw [← e]
  exact (turn_fine (hi.ops u hu) (fun j x hj => by have := hi.places j x hj; omega)).2
theorem blksFu_small {ok : Bool} {tb : Int} {l : List Blk} (hok : OkR l ok) (hz : ∀ (k : Nat) (h : k < l.length), l[k].small) : (blksFu ok tb l).length ≤ 60 ∧ ∀ (k : Nat) (h : k < (blksFu ok tb l).length), (blksFu ok tb l)[k].small := by
  by_cases h0 : codeF ok l = 0
  · obtain ⟨h1, h2⟩ := fineB_of h0 hok hz
    by_cases hm : tabF tb = 0
    · have e : blksFu ok tb l = l.map (fuseB tb) := by unfold blksFu; rw [if_neg (by simp [h0]), if_neg (by simp [hm])]
      rw [e]
      refine ⟨by simpa using h1, fun k hk => ?_⟩
      simp only [List.getElem_map]
      exact (fuse_small (h2 k (by simpa using hk))).1
    · have e : blksFu ok tb l = [] := by unfold blksFu; rw [if_neg (by simp [h0]), if_pos hm]
      rw [e]; exact ⟨by simp, fun k hk => by simp at hk⟩
  · have e : blksFu ok tb l = [] := by unfold blksFu; rw [if_pos h0]
    rw [e]; exact ⟨by simp, fun k hk => by simp at hk⟩
end Go.Proofs.YtoafolefecddmaaGreatDoor
