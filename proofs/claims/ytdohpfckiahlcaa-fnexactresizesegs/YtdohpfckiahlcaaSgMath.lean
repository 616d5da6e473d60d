/-
  Stacks in pieces: when one has a fault, one that is laid out anew, an item put and taken; that a stack without fault is told by its items alone. No program in it.
-/
import Derived.Test.YtdohpfckiahlcaaRegion
namespace Go.Proofs.Ytdohpfckiahlcaa

theorem flat_next (ps : List (List Int)) (k : Nat) (h : k < ps.length) : (ps.take (k + 1)).flatten = (ps.take k).flatten ++ ps[k] := by
  rw [List.take_add_one, List.getElem?_eq_getElem h, List.flatten_append]; simp
theorem flat_le (ps : List (List Int)) (k : Nat) : (ps.take k).flatten.length ≤ ps.flatten.length := by
  have h : ps.flatten.length = (ps.take k ++ ps.drop k).flatten.length := by rw [List.take_append_drop]
  rw [h, List.flatten_append, List.length_append]; omega
theorem part_le (ps : List (List Int)) (k : Nat) (h : k < ps.length) : ps[k].length ≤ ps.flatten.length := by
  have h1 := flat_le ps (k + 1)
  rw [flat_next ps k h, List.length_append] at h1
  omega
theorem flat_len_next (ps : List (List Int)) (k : Nat) (h : k < ps.length) : (ps.take (k + 1)).flatten.length = (ps.take k).flatten.length + ps[k].length := by
  rw [flat_next ps k h, List.length_append]
/-- Small enough to be told. -/
structure SmallS (ps : List (List Int)) : Prop where
  len : ps.length ≤ 1048576
  all : ps.flatten.length ≤ 1048576
theorem SmallS.part {ps : List (List Int)} (h : SmallS ps) (k : Nat) (hk : k < ps.length) : ps[k].length ≤ 1048576 := Nat.le_trans (part_le ps k hk) h.all
theorem SmallS.upto {ps : List (List Int)} (h : SmallS ps) (k : Nat) : (ps.take k).flatten.length ≤ 1048576 := Nat.le_trans (flat_le ps k) h.all
/-- Whether a part has so many items. -/
def partOk (size : Int) (m k n : Nat) : Bool := decide (1 ≤ n) && decide ((n : Int) ≤ size) && (decide (m ≤ k + 1) || decide ((n : Int) = size))
def okS (size : Int) (ps : List (List Int)) : Bool := (List.range ps.length).all fun k => partOk size ps.length k (ps.getD k []).length
def sizeB (size : Int) : Bool := decide (1 ≤ size) && decide (size ≤ 64)
def faultS (size : Int) (ps : List (List Int)) : Int := if sizeB size then (if okS size ps then (if 4000 < ps.flatten.length then 2 else 0) else 1) else 3
theorem getD_at (ps : List (List Int)) (k : Nat) (h : k < ps.length) : ps.getD k [] = ps[k] := by simp [List.getD, h]
theorem okS_true {size : Int} {ps : List (List Int)} (h : ∀ (k : Nat) (hk : k < ps.length), partOk size ps.length k ps[k].length = true) : okS size ps = true := by
  unfold okS
  rw [List.all_eq_true]
  intro k hk
  have hk' : k < ps.length := List.mem_range.1 hk
  rw [getD_at ps k hk']
  exact h k hk'
theorem okS_false {size : Int} {ps : List (List Int)} {k : Nat} (hk : k < ps.length) (h : partOk size ps.length k ps[k].length = false) : okS size ps = false := by
  cases e : okS size ps with
  | false => rfl
  | true =>
    unfold okS at e
    rw [List.all_eq_true] at e
    have := e k (List.mem_range.2 hk)
    rw [getD_at ps k hk, h] at this
    exact absurd this (by decide)
theorem okS_at {size : Int} {ps : List (List Int)} (h : okS size ps = true) (k : Nat) (hk : k < ps.length) : partOk size ps.length k ps[k].length = true := by
  cases e : partOk size ps.length k ps[k].length with
  | true => rfl
  | false => rw [okS_false hk e] at h; exact h.symm ▸ rfl
/-- Each part but the last one has n items, the last one 1 to n. -/
def FineP (n : Nat) : List (List Int) → Prop
  | [] => True
  | p :: r => 1 ≤ p.length ∧ p.length ≤ n ∧ (r ≠ [] → p.length = n) ∧ FineP n r
theorem fineP_of {n : Nat} : ∀ {ps : List (List Int)}, (∀ (k : Nat) (h : k < ps.length), 1 ≤ ps[k].length ∧ ps[k].length ≤ n ∧ (k + 1 < ps.length → ps[k].length = n)) → FineP n ps
  | [], _ => trivial
  | p :: r, h => by
    have h0 := h 0 (by simp)
    refine ⟨h0.1, h0.2.1, fun hr => h0.2.2 ?_, fineP_of fun k hk => ?_⟩
    · have := List.length_pos_iff.2 hr; simp; omega
    · have := h (k + 1) (by simpa using hk)
      simp only [List.getElem_cons_succ, List.length_cons] at this
      exact ⟨this.1, this.2.1, fun q => this.2.2 (by omega)⟩
theorem FineP.at {n : Nat} : ∀ {ps : List (List Int)}, FineP n ps → ∀ (k : Nat) (h : k < ps.length), 1 ≤ ps[k].length ∧ ps[k].length ≤ n ∧ (k + 1 < ps.length → ps[k].length = n)
  | [], _, k, h => absurd h (Nat.not_lt_zero k)
  | p :: r, h, 0, _ => ⟨h.1, h.2.1, fun q => h.2.2.1 (by intro e; subst e; simp at q)⟩
  | p :: r, h, k + 1, hk => by
    have := FineP.at h.2.2.2 k (by simpa using hk)
    simp only [List.getElem_cons_succ, List.length_cons]
    exact ⟨this.1, this.2.1, fun q => this.2.2 (by omega)⟩
theorem FineP.uniq {n : Nat} : ∀ {ps qs : List (List Int)}, FineP n ps → FineP n qs → ps.flatten = qs.flatten → ps = qs
  | [], [], _, _, _ => rfl
  | [], q :: s, _, h, e => by have := congrArg List.length e; simp only [List.flatten_nil, List.flatten_cons, List.length_nil, List.length_append] at this; have := h.1; omega
  | p :: r, [], h, _, e => by have := congrArg List.length e; simp only [List.flatten_nil, List.flatten_cons, List.length_nil, List.length_append] at this; have := h.1; omega
  | p :: r, q :: s, h, h', e => by
    have tk : ∀ (p : List Int) (r : List (List Int)), FineP n (p :: r) → (p :: r).flatten.take n = p ∧ (p :: r).flatten.drop n = r.flatten := fun p r h => by
      rw [List.flatten_cons]
      by_cases hr : r = []
      · subst hr
        simp only [List.flatten_nil, List.append_nil]
        exact ⟨List.take_of_length_le h.2.1, List.drop_eq_nil_of_le h.2.1⟩
      · have := h.2.2.1 hr
        exact ⟨by rw [← this]; simp, by rw [← this]; simp⟩
    have h1 := tk p r h
    have h2 := tk q s h'
    rw [e] at h1
    have e1 : p = q := h1.1.symm.trans h2.1
    have e2 : r.flatten = s.flatten := h1.2.symm.trans h2.2
    rw [e1, FineP.uniq h.2.2.2 h'.2.2.2 e2]
theorem fineP_ok {size : Int} {ps : List (List Int)} (h : FineP size.toNat ps) (hs : 0 ≤ size) : okS size ps = true := by
  refine okS_true fun k hk => ?_
  have := h.at k hk
  unfold partOk
  simp only [Bool.and_eq_true, Bool.or_eq_true, decide_eq_true_eq]
  refine ⟨⟨this.1, by omega⟩, ?_⟩
  by_cases q : ps.length ≤ k + 1
  · exact .inl q
  · have := this.2.2 (by omega); exact .inr (by omega)
theorem ok_fineP {size : Int} {ps : List (List Int)} (h : okS size ps = true) : FineP size.toNat ps := by
  refine fineP_of fun k hk => ?_
  have := okS_at h k hk
  unfold partOk at this
  simp only [Bool.and_eq_true, Bool.or_eq_true, decide_eq_true_eq] at this
  refine ⟨this.1.1, by omega, fun q => ?_⟩
  rcases this.2 with e | e <;> omega
/-- A stack without fault. -/
structure FineS (size : Int) (ps : List (List Int)) : Prop where
  lo : 1 ≤ size
  hi : size ≤ 64
  parts : FineP size.toNat ps
  many : ps.flatten.length ≤ 4000
theorem faultS_fine {size : Int} {ps : List (List Int)} (h : faultS size ps = 0) : FineS size ps := by
  unfold faultS at h
  by_cases h1 : sizeB size = true
  · rw [if_pos h1] at h
    by_cases h2 : okS size ps = true
    · rw [if_pos h2] at h
      by_cases h3 : 4000 < ps.flatten.length
      · rw [if_pos h3] at h; cases h
      · unfold sizeB at h1
        simp only [Bool.and_eq_true, decide_eq_true_eq] at h1
        exact ⟨h1.1, h1.2, ok_fineP h2, by omega⟩
    · rw [if_neg h2] at h; cases h
  · rw [if_neg h1] at h; cases h
theorem FineS.fault {size : Int} {ps : List (List Int)} (h : FineS size ps) : faultS size ps = 0 := by
  have h1 : sizeB size = true := by unfold sizeB; simp only [Bool.and_eq_true, decide_eq_true_eq]; exact ⟨h.lo, h.hi⟩
  have h2 := fineP_ok h.parts (by have := h.lo; omega)
  have h3 : ¬ 4000 < ps.flatten.length := by have := h.many; omega
  unfold faultS
  rw [if_pos h1, if_pos h2, if_neg h3]
theorem FineS.len {size : Int} {ps : List (List Int)} (h : FineS size ps) : ps.length ≤ 4000 := by
  have : ∀ (n : Nat) (ps : List (List Int)), FineP n ps → ps.length ≤ ps.flatten.length := fun n ps => by
    induction ps with
    | nil => intro _; simp
    | cons p r ih => intro h; have := ih h.2.2.2; have := h.1; simp only [List.length_cons, List.flatten_cons, List.length_append]; omega
  exact Nat.le_trans (this _ _ h.parts) h.many
theorem FineS.small {size : Int} {ps : List (List Int)} (h : FineS size ps) : SmallS ps := ⟨by have := h.len; omega, by have := h.many; omega⟩
def lastL (ps : List (List Int)) : List Int := ps.getD (ps.length - 1) []
theorem lastL_snoc (a : List (List Int)) (q : List Int) : lastL (a ++ [q]) = q := by simp [lastL]
theorem lastL_at (ps : List (List Int)) (h : ps.length - 1 < ps.length) : lastL ps = ps[ps.length - 1] := getD_at _ _ h
theorem set_snoc (a : List (List Int)) (q x : List Int) : (a ++ [q]).set ((a ++ [q]).length - 1) x = a ++ [x] := by
  rw [List.set_append_right _ _ (by simp)]; simp
theorem snoc_of {ps : List (List Int)} (h : ps ≠ []) : ∃ a q, ps = a ++ [q] := ⟨ps.dropLast, ps.getLast h, (List.dropLast_concat_getLast h).symm⟩
/-- Whether an item that is put begins a part. -/
def fullL (n : Nat) (ps : List (List Int)) : Bool := decide (ps.length = 0) || decide ((lastL ps).length = n)
def pushL (n : Nat) (ps : List (List Int)) (x : Int) : List (List Int) := if fullL n ps then ps ++ [[x]] else ps.set (ps.length - 1) (lastL ps ++ [x])
def openL (n : Nat) (l : List Int) : List (List Int) := l.foldl (pushL n) []
theorem openL_snoc (n : Nat) (l : List Int) (x : Int) : openL n (l ++ [x]) = pushL n (openL n l) x := by unfold openL; rw [List.foldl_append]; rfl
theorem openL_next (n : Nat) (l : List Int) (k : Nat) (h : k < l.length) : openL n (l.take (k + 1)) = pushL n (openL n (l.take k)) l[k] := by
  rw [← openL_snoc]
  congr 1
  rw [List.take_add_one, List.getElem?_eq_getElem h]; rfl
theorem fineP_snoc {n : Nat} (a : List (List Int)) (q : List Int) : FineP n (a ++ [q]) ↔ ((∀ p ∈ a, p.length = n ∧ 1 ≤ n) ∧ 1 ≤ q.length ∧ q.length ≤ n) := by
  induction a with
  | nil => simp [FineP]
  | cons p r ih =>
    simp only [List.cons_append, FineP, ih, List.mem_cons, forall_eq_or_imp]
    constructor
    · rintro ⟨h1, h2, h3, h4, h5⟩
      have := h3 (by simp)
      exact ⟨⟨⟨this, by omega⟩, h4⟩, h5⟩
    · rintro ⟨⟨⟨h1, h2⟩, h4⟩, h5⟩
      exact ⟨by omega, by omega, fun _ => h1, h4, h5⟩
theorem pushL_flat (n : Nat) (ps : List (List Int)) (x : Int) : (pushL n ps x).flatten = ps.flatten ++ [x] := by
  unfold pushL
  by_cases h : fullL n ps = true
  · rw [if_pos h]; simp
  · rw [if_neg h]
    have hne : ps ≠ [] := by intro e; subst e; exact h (by simp [fullL])
    obtain ⟨a, q, rfl⟩ := snoc_of hne
    rw [set_snoc, lastL_snoc]; simp
theorem pushL_fine {n : Nat} {ps : List (List Int)} (h : FineP n ps) (hn : 1 ≤ n) (x : Int) : FineP n (pushL n ps x) := by
  unfold pushL
  by_cases e : ps = []
  · subst e; simp [fullL, FineP]; omega
  obtain ⟨a, q, rfl⟩ := snoc_of e
  obtain ⟨h1, h2, h3⟩ := (fineP_snoc a q).1 h
  by_cases hf : fullL n (a ++ [q]) = true
  · rw [if_pos hf]
    have hq : q.length = n := by
      unfold fullL at hf
      rw [lastL_snoc] at hf
      simpa using hf
    refine (fineP_snoc (a ++ [q]) [x]).2 ⟨fun p hp => ?_, by simp, by simpa using hn⟩
    rcases List.mem_append.1 hp with hp | hp
    · exact h1 p hp
    · obtain rfl : p = q := by simpa using hp
      exact ⟨hq, hn⟩
  · rw [if_neg hf, set_snoc, lastL_snoc]
    have hq : q.length ≠ n := by
      intro e2; apply hf; unfold fullL; rw [lastL_snoc]; simp [e2]
    exact (fineP_snoc a (q ++ [x])).2 ⟨h1, by simp, by simp; omega⟩
theorem openL_both (n : Nat) (hn : 1 ≤ n) (l : List Int) : FineP n (openL n l) ∧ (openL n l).flatten = l := by
  have : ∀ k, k ≤ l.length → FineP n (openL n (l.take k)) ∧ (openL n (l.take k)).flatten = l.take k := fun k => by
    induction k with
    | zero => intro _; simp [openL, FineP]
    | succ k ih =>
      intro hk
      obtain ⟨h1, h2⟩ := ih (by omega)
      rw [openL_next n l k (by omega)]
      refine ⟨pushL_fine h1 hn _, ?_⟩
      rw [pushL_flat, h2, List.take_add_one, List.getElem?_eq_getElem (by omega)]; rfl
  have h := this l.length (Nat.le_refl _)
  rw [List.take_length] at h
  exact h
theorem openL_of {n : Nat} (hn : 1 ≤ n) {ps : List (List Int)} (h : FineP n ps) : openL n ps.flatten = ps := (openL_both n hn _).1.uniq h (openL_both n hn _).2
/-- Laid out by pieces. -/
def layL (n : Nat) (l : List Int) (k : Nat) : List (List Int) := (List.range k).map fun i => (l.drop (i * n)).take n
theorem layL_zero (n : Nat) (l : List Int) : layL n l 0 = [] := rfl
theorem layL_next (n : Nat) (l : List Int) (k : Nat) : layL n l (k + 1) = layL n l k ++ [(l.drop (k * n)).take n] := by unfold layL; rw [List.range_succ, List.map_append]; rfl
theorem layL_len (n : Nat) (l : List Int) (k : Nat) : (layL n l k).length = k := by simp [layL]
theorem layL_flat (n : Nat) (l : List Int) (k : Nat) : (layL n l k).flatten = l.take (k * n) := by
  induction k with
  | zero => simp [layL]
  | succ k ih => rw [layL_next, List.flatten_append, ih, Nat.succ_mul, List.take_add]; simp
def piecesN (n : Nat) (m : Nat) : Nat := (m + n - 1) / n
theorem piecesN_at {n m k : Nat} (hn : 1 ≤ n) (h : k < piecesN n m) : k * n < m ∧ (k + 1 < piecesN n m → k * n + n < m) := by
  have key : ∀ j, j < piecesN n m → j * n < m := fun j hj => by
    unfold piecesN at hj
    have h1 : (j + 1) * n ≤ m + n - 1 := Nat.le_trans (Nat.mul_le_mul_right n hj) (Nat.div_mul_le_self _ _)
    rw [Nat.succ_mul] at h1
    omega
  refine ⟨key k h, fun q => ?_⟩
  have := key (k + 1) q
  rw [Nat.succ_mul] at this
  exact this
theorem piecesN_all {n m : Nat} (hn : 1 ≤ n) : m ≤ piecesN n m * n := by
  unfold piecesN
  have h1 := Nat.div_add_mod (m + n - 1) n
  have h2 := Nat.mod_lt (m + n - 1) (show 0 < n by omega)
  rw [Nat.mul_comm] at h1
  omega
theorem layL_open {n : Nat} (hn : 1 ≤ n) (l : List Int) : layL n l (piecesN n l.length) = openL n l := by
  have hf : FineP n (layL n l (piecesN n l.length)) := fineP_of fun k hk => by
    rw [layL_len] at hk
    obtain ⟨h1, h2⟩ := piecesN_at hn hk
    have e : (layL n l (piecesN n l.length))[k]'(by rw [layL_len]; exact hk) = (l.drop (k * n)).take n := by simp [layL]
    rw [e, List.length_take, List.length_drop, layL_len]
    exact ⟨by omega, by omega, fun q => by have := h2 q; omega⟩
  refine hf.uniq (openL_both n hn l).1 ?_
  rw [layL_flat, (openL_both n hn l).2, List.take_of_length_le (piecesN_all hn)]
/-- What is taken, and what is left. -/
def topL (ps : List (List Int)) : Int := (lastL ps).getD ((lastL ps).length - 1) 0
def popL (ps : List (List Int)) : List (List Int) := if (lastL ps).length = 1 then ps.take (ps.length - 1) else ps.set (ps.length - 1) ((lastL ps).take ((lastL ps).length - 1))
theorem popL_both {n : Nat} {ps : List (List Int)} (h : FineP n ps) (hne : ps ≠ []) : FineP n (popL ps) ∧ ps.flatten = (popL ps).flatten ++ [topL ps] := by
  obtain ⟨a, q, rfl⟩ := snoc_of hne
  obtain ⟨h1, h2, h3⟩ := (fineP_snoc a q).1 h
  unfold popL topL
  rw [lastL_snoc]
  have hq : q = q.take (q.length - 1) ++ [q.getD (q.length - 1) 0] := by
    have hne' : q ≠ [] := by intro e; subst e; simp at h2
    have e1 : q.take (q.length - 1) = q.dropLast := by rw [List.dropLast_eq_take]
    have e2 : q.getD (q.length - 1) 0 = q.getLast hne' := by
      rw [List.getLast_eq_getElem]; simp [List.getD, show q.length - 1 < q.length by omega]
    rw [e1, e2, List.dropLast_concat_getLast]
  by_cases e : q.length = 1
  · rw [if_pos e]
    have ha : (a ++ [q]).take ((a ++ [q]).length - 1) = a := by simp
    rw [ha]
    have hfa : FineP n a := by
      by_cases e2 : a = []
      · subst e2; trivial
      obtain ⟨b, p, rfl⟩ := snoc_of e2
      refine (fineP_snoc b p).2 ⟨fun x hx => h1 x (by simp [hx]), ?_, ?_⟩
      · have := h1 p (by simp); omega
      · have := h1 p (by simp); omega
    refine ⟨hfa, ?_⟩
    have ht : q.take (q.length - 1) = [] := by rw [e]; rfl
    rw [ht] at hq
    conv => lhs; rw [hq]
    simp
  · rw [if_neg e, set_snoc]
    refine ⟨(fineP_snoc a _).2 ⟨h1, by rw [List.length_take]; omega, by rw [List.length_take]; omega⟩, ?_⟩
    conv => lhs; rw [hq]
    simp
theorem depthL {n : Nat} {ps : List (List Int)} (h : FineP n ps) (hne : ps ≠ []) : ps.flatten.length = (ps.length - 1) * n + (lastL ps).length := by
  obtain ⟨a, q, rfl⟩ := snoc_of hne
  obtain ⟨h1, -⟩ := (fineP_snoc a q).1 h
  rw [lastL_snoc]
  have : ∀ a : List (List Int), (∀ p ∈ a, p.length = n ∧ 1 ≤ n) → a.flatten.length = a.length * n := fun a => by
    induction a with
    | nil => intro _; simp
    | cons p r ih => intro h; have := ih (fun x hx => h x (by simp [hx])); have := (h p (by simp)).1; simp only [List.flatten_cons, List.length_append, List.length_cons, Nat.succ_mul]; omega
  have e := this a h1
  rw [List.flatten_append, List.length_append, e]
  simp
end Go.Proofs.Ytdohpfckiahlcaa
