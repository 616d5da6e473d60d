/-
  The text of a value, in plain words, and when two texts are one as far as 120 bytes tell: no program in it.
-/
import Derived.Test.YtgfienijabkpjaaDoorListMath
import Derived.Test.YtgfienijabkpjaaDoorMath
namespace Go.Proofs.YtgfienijabkpjaaDoor
open Go.RowKit Go.Extern.Stop Go.Stop Go.Extern Num Go.Lib

/-- The text of a value that is no pair. -/
def leafV (v : Vlu) : List UInt8 :=
  if v.kind = 1 then itoa v.num
  else if v.kind = 2 then (if v.num = 0 then [35, 102] else [35, 116])
  else if v.kind = 3 then [40, 41]
  else if v.kind = 4 then v.name.data.toList
  else if v.kind = 6 then [35, 112, 114, 111, 99]
  else if v.kind = 7 then [35, 99, 111, 110, 116]
  else if v.kind = 8 then [35, 112, 114, 105, 109]
  else [35, 110, 111, 110, 101]
/-- The text of a value (false), and of a pair behind its opening sign (true), with fuel. -/
def showF (l : List Pai) : Nat → Bool → Vlu → List UInt8
  | 0, _, _ => []
  | f + 1, false, v => if v.kind = 5 then [40] ++ showF l f true v else leafV v
  | f + 1, true, v => match l[v.num.toNat]? with
    | none => []
    | some p => showF l f false p.head ++ (if p.tail.kind = 3 then [41] else if p.tail.kind = 5 then [32] ++ showF l f true p.tail else [32, 46, 32] ++ leafV p.tail ++ [41])
/-- The value that is the pair of a place. -/
def pairAt (k : Nat) : Vlu := ⟨5, (k : Int), ⟨#[]⟩⟩
/-- How much fuel a value wants. -/
def needF : Bool → Vlu → Nat
  | false, v => if v.kind = 5 then 2 * v.num.toNat + 3 else 1
  | true, v => 2 * v.num.toNat + 2
/-- The whole text of a value. -/
def showV (l : List Pai) (v : Vlu) : List UInt8 := showF l (2 * l.length + 3) false v
theorem showF_leaf {l : List Pai} {f : Nat} {v : Vlu} (h : v.kind ≠ 5) : showF l (f + 1) false v = leafV v := by simp [showF, h]
theorem showF_pair {l : List Pai} {f : Nat} {v : Vlu} (h : v.kind = 5) : showF l (f + 1) false v = [40] ++ showF l f true v := by simp [showF, h]
theorem showF_nil {l : List Pai} {f : Nat} {v : Vlu} (hk : v.num.toNat < l.length) (h : l[v.num.toNat].tail.kind = 3) : showF l (f + 1) true v = showF l f false l[v.num.toNat].head ++ [41] := by simp [showF, hk, h]
theorem showF_on {l : List Pai} {f : Nat} {v : Vlu} (hk : v.num.toNat < l.length) (h : l[v.num.toNat].tail.kind = 5) : showF l (f + 1) true v = showF l f false l[v.num.toNat].head ++ ([32] ++ showF l f true l[v.num.toNat].tail) := by simp [showF, hk, h]
theorem showF_dot {l : List Pai} {f : Nat} {v : Vlu} (hk : v.num.toNat < l.length) (h3 : l[v.num.toNat].tail.kind ≠ 3) (h : l[v.num.toNat].tail.kind ≠ 5) : showF l (f + 1) true v = showF l f false l[v.num.toNat].head ++ ([32, 46, 32] ++ leafV l[v.num.toNat].tail ++ [41]) := by simp [showF, hk, h, h3]
theorem showF_num {l : List Pai} : ∀ (f : Nat) (v : Vlu), showF l f true v = showF l f true (pairAt v.num.toNat)
  | 0, _ => rfl
  | f + 1, v => by
    have e : (pairAt v.num.toNat).num.toNat = v.num.toNat := by simp only [pairAt]; omega
    simp only [showF, e]
/-- What the parts of a pair want is less. -/
theorem need_head {l : List Pai} (hl : heapFault l = 0) {v : Vlu} {j : Nat} (hk : v.num.toNat < l.length) (hj : needF true v ≤ j + 1) : needF false l[v.num.toNat].head ≤ j := by
  have h := (pair_ahead hl _ hk).1
  unfold needF at hj ⊢
  simp only at hj ⊢
  split
  · rename_i h5; have := h.2 h5; omega
  · omega
theorem need_tail {l : List Pai} (hl : heapFault l = 0) {v : Vlu} {j : Nat} (hk : v.num.toNat < l.length) (hj : needF true v ≤ j + 1) (h5 : l[v.num.toNat].tail.kind = 5) : needF true l[v.num.toNat].tail ≤ j := by
  have h := (pair_ahead hl _ hk).2.2 h5
  unfold needF at hj ⊢
  simp only at hj ⊢
  omega
theorem need_all {l : List Pai} {v : Vlu} (h : aheadV l.length v) : needF false v ≤ 2 * l.length + 3 := by
  unfold needF
  simp only
  split
  · rename_i h5; have := h.2 h5; omega
  · omega

/-- Two texts are one, as far as 120 bytes tell. -/
def Cut120 (s x : List UInt8) : Prop := s = x ∨ (120 ≤ s.length ∧ 120 ≤ x.length ∧ s.take 120 = x.take 120)
theorem Cut120.refl (s : List UInt8) : Cut120 s s := .inl rfl
theorem Cut120.app {s x : List UInt8} (h : Cut120 s x) (t : List UInt8) : Cut120 (s ++ t) (x ++ t) := by
  rcases h with rfl | ⟨h1, h2, h3⟩
  · exact .inl rfl
  · refine .inr ⟨by simp; omega, by simp; omega, ?_⟩
    rw [List.take_append_of_le_length h1, List.take_append_of_le_length h2, h3]
theorem Cut120.full {s : List UInt8} (h : 120 ≤ s.length) (t : List UInt8) : Cut120 s (s ++ t) :=
  .inr ⟨h, by simp; omega, by rw [List.take_append_of_le_length h]⟩
theorem Cut120.trans {s x y : List UInt8} (h : Cut120 s x) (h' : Cut120 x y) : Cut120 s y := by
  rcases h with rfl | ⟨h1, h2, h3⟩
  · exact h'
  · rcases h' with rfl | ⟨_, k2, k3⟩
    · exact .inr ⟨h1, h2, h3⟩
    · exact .inr ⟨h1, k2, h3.trans k3⟩
theorem Cut120.take {s x : List UInt8} (h : Cut120 s x) : s.take 120 = x.take 120 := by
  rcases h with rfl | ⟨_, _, h3⟩
  · rfl
  · exact h3
theorem Cut120.short {s x : List UInt8} (h : Cut120 s x) (hs : s.length ≤ 120) : s = x.take 120 := by
  rw [← h.take, List.take_of_length_le hs]
theorem num_in {v : Vlu} (h : vfault v = 0) (h1 : v.kind = 1) : inB v.num = true := by
  unfold vfault at h
  repeat' split at h
  all_goals first | omega | assumption | (simp_all; done)
theorem bool_in {v : Vlu} (h : vfault v = 0) (h1 : v.kind = 2) : 0 ≤ v.num ∧ v.num ≤ 1 := by
  unfold vfault at h
  repeat' split at h
  all_goals first | omega | assumption | (simp_all; done)
theorem sym_in {v : Vlu} (h : vfault v = 0) (h1 : v.kind = 4) : symL v.name.data.toList = true := by
  unfold vfault at h
  repeat' split at h
  all_goals first | omega | assumption | (simp_all; done)
theorem kind_in {v : Vlu} (h : vfault v = 0) : 1 ≤ v.kind ∧ v.kind ≤ 9 := by
  unfold vfault at h
  split at h
  · omega
  · rename_i hn; omega
theorem leafV_len {v : Vlu} (h : vfault v = 0) : (leafV v).length ≤ 20 := by
  unfold leafV
  split
  · rename_i h1; have := itoa_len _ (num_in h h1); omega
  split
  · split <;> simp
  split
  · simp
  split
  · rename_i h4
    have h2 := sym_in h h4
    simp only [symL, Bool.and_eq_true, decide_eq_true_eq] at h2
    omega
  repeat' split
  all_goals simp
end Go.Proofs.YtgfienijabkpjaaDoor
