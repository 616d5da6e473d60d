/-
  Globals in plain words: what is wrong with them, where a name is; a name as a word: no program in it.
-/
import Derived.Test.YtgfienijabkpjaaStGlobal
import Derived.Test.YtgfienijabkpjaaImplBits
namespace Go.Proofs.Ytgfienijabkpjaa
open Go.RowKit Go.Extern.Stop Go.Stop Go.Extern Num Go.Lib

/-- The place of a name. -/
def atG : List Glb → ByteArray → Option Nat
  | [], _ => none
  | t :: r, s => if (t.name.toList == s.toList) = true then some 0 else (atG r s).map (· + 1)
/-- What is wrong with the global at a place. -/
def goneG (l : List Glb) (k : Nat) (t : Glb) : Int :=
  if symL t.name.data.toList = false then 5 else if vfault t.value ≠ 0 then vfault t.value else if ¬ (1 ≤ t.ver ∧ t.ver ≤ 99999) then 3 else if (atG (l.take k) t.name).isSome = true then 1 else 0
def globFrom (l : List Glb) : Nat → List Glb → Int
  | _, [] => 0
  | k, t :: r => if goneG l k t ≠ 0 then goneG l k t else globFrom l (k + 1) r
/-- What is wrong with globals. -/
def globFault (l : List Glb) : Int := if 60 < l.length then 2 else globFrom l 0 l
theorem globFrom_bad (l : List Glb) (k : Nat) (h : k < l.length) (hp : goneG l k (l[k]'h) ≠ 0) : globFrom l k (l.drop k) = goneG l k (l[k]'h) := by
  rw [List.drop_eq_getElem_cons h, globFrom, if_pos hp]
theorem globFrom_ok (l : List Glb) (k : Nat) (h : k < l.length) (hp : goneG l k (l[k]'h) = 0) : globFrom l k (l.drop k) = globFrom l (k + 1) (l.drop (k + 1)) := by
  rw [List.drop_eq_getElem_cons h, globFrom, if_neg (by simpa using hp)]
theorem globFrom_end (l : List Glb) (k : Nat) (h : l.length ≤ k) : globFrom l k (l.drop k) = 0 := by
  rw [List.drop_eq_nil_of_le h, globFrom]
/-- Globals with nothing wrong up to a place. -/
structure GFine (l : List Glb) (n : Nat) : Prop where
  sym : ∀ (k : Nat) (h : k < l.length), k < n → symL l[k].name.data.toList = true
  val : ∀ (k : Nat) (h : k < l.length), k < n → vfault l[k].value = 0
  ver : ∀ (k : Nat) (h : k < l.length), k < n → 1 ≤ l[k].ver ∧ l[k].ver ≤ 99999
  apart : ∀ (k : Nat) (h : k < l.length), k < n → atG (l.take k) l[k].name = none
theorem GFine.zero (l : List Glb) : GFine l 0 := ⟨fun k _ h => by omega, fun k _ h => by omega, fun k _ h => by omega, fun k _ h => by omega⟩
theorem goneG_zero {l : List Glb} {k : Nat} {t : Glb} (h : goneG l k t = 0) : symL t.name.data.toList = true ∧ vfault t.value = 0 ∧ (1 ≤ t.ver ∧ t.ver ≤ 99999) ∧ atG (l.take k) t.name = none := by
  unfold goneG at h
  by_cases h1 : symL t.name.data.toList = false
  · rw [if_pos h1] at h; omega
  rw [if_neg h1] at h
  by_cases h2 : vfault t.value ≠ 0
  · rw [if_pos h2] at h; exact absurd h h2
  rw [if_neg h2] at h
  by_cases h3 : ¬ (1 ≤ t.ver ∧ t.ver ≤ 99999)
  · rw [if_pos h3] at h; omega
  rw [if_neg h3] at h
  by_cases h4 : (atG (l.take k) t.name).isSome = true
  · rw [if_pos h4] at h; omega
  · refine ⟨by simpa using h1, by simpa using h2, by simpa using h3, ?_⟩
    cases e : atG (l.take k) t.name with
    | none => rfl
    | some x => rw [e] at h4; simp at h4
theorem GFine.next {l : List Glb} {k : Nat} (H : GFine l k) (h : k < l.length) (hp : goneG l k (l[k]'h) = 0) : GFine l (k + 1) := by
  obtain ⟨h1, h2, h3, h4⟩ := goneG_zero hp
  refine ⟨fun j hj hn => ?_, fun j hj hn => ?_, fun j hj hn => ?_, fun j hj hn => ?_⟩ <;> (by_cases e : j = k; · subst e; assumption)
  · exact H.sym j hj (by omega)
  · exact H.val j hj (by omega)
  · exact H.ver j hj (by omega)
  · exact H.apart j hj (by omega)
theorem GFine.of {l : List Glb} (h : globFault l = 0) : l.length ≤ 60 ∧ GFine l l.length := by
  unfold globFault at h
  by_cases h1 : 60 < l.length
  · rw [if_pos h1] at h; omega
  rw [if_neg h1] at h
  refine ⟨by omega, ?_⟩
  have key : ∀ n, n ≤ l.length → GFine l n ∧ globFrom l n (l.drop n) = 0 := by
    intro n
    induction n with
    | zero => intro _; exact ⟨GFine.zero l, by simpa using h⟩
    | succ n ih =>
      intro hn
      obtain ⟨a, b⟩ := ih (by omega)
      have hlt : n < l.length := by omega
      by_cases e : goneG l n (l[n]'hlt) = 0
      · exact ⟨a.next hlt e, by rw [← globFrom_ok l n hlt e]; exact b⟩
      · rw [globFrom_bad l n hlt e] at b; exact absurd b e
  exact (key l.length (Nat.le_refl _)).1

theorem bytes_eq (a b : ByteArray) : (a.toList == b.toList) = true ↔ a = b := by
  rw [ByteArray.toList_eq, ByteArray.toList_eq]
  constructor
  · intro h
    have h1 : a.data.toList = b.data.toList := by simpa using h
    have h2 : a.data = b.data := Array.toList_inj.1 h1
    cases a; cases b; simp_all
  · rintro rfl; simp
theorem atG_some {l : List Glb} {s : ByteArray} {k : Nat} (h : atG l s = some k) : ∃ hk : k < l.length, l[k].name = s ∧ ∀ j (hj : j < l.length), j < k → l[j].name ≠ s := by
  induction l generalizing k with
  | nil => simp [atG] at h
  | cons t r ih =>
    unfold atG at h
    by_cases e : (t.name.toList == s.toList) = true
    · rw [if_pos e] at h
      obtain rfl := Option.some.inj h
      exact ⟨by simp, by simpa using (bytes_eq _ _).1 e, fun j _ hj => by omega⟩
    · rw [if_neg e] at h
      obtain ⟨m, hm, rfl⟩ := Option.map_eq_some_iff.1 h
      obtain ⟨hk, h1, h2⟩ := ih hm
      refine ⟨by simpa using hk, by simpa using h1, fun j hj hlt => ?_⟩
      cases j with
      | zero => simpa using fun e' => e ((bytes_eq _ _).2 e')
      | succ j => simpa using h2 j (by simpa using hj) (by omega)
theorem atG_none {l : List Glb} {s : ByteArray} : atG l s = none ↔ ∀ j (hj : j < l.length), l[j].name ≠ s := by
  induction l with
  | nil => simp [atG]
  | cons t r ih =>
    unfold atG
    by_cases e : (t.name.toList == s.toList) = true
    · rw [if_pos e]
      simp only [reduceCtorEq, false_iff]
      intro h
      exact h 0 (by simp) ((bytes_eq _ _).1 e)
    · rw [if_neg e]
      simp only [Option.map_eq_none_iff, ih]
      constructor
      · intro h j hj
        cases j with
        | zero => simpa using fun e' => e ((bytes_eq _ _).2 e')
        | succ j => simpa using h j (by simpa using hj)
      · intro h j hj
        exact h (j + 1) (by simpa using hj)

/-- The word of a name. -/
def nW (s : ByteArray) : Wd := wdOf ⟨4, 0, s⟩
theorem vfault_sym (s : ByteArray) : vfault ⟨4, 0, s⟩ = if symL s.data.toList = true then 0 else 5 := by
  simp [vfault]
theorem nW_eq {s : ByteArray} (h : symL s.data.toList = true) : nW s = ⟨4, (bitsL s.data.toList : Int)⟩ := by
  unfold nW wdOf
  rw [if_pos (by rw [vfault_sym, if_pos h])]
  simp
theorem dig_inj (a b : UInt8) (ha : symB a = true) (hb : symB b = true) (h : dig a = dig b) : a = b := by
  have h1 := (dig_facts a ha).2.2.2
  have h2 := (dig_facts b hb).2.2.2
  rw [h] at h1
  exact Option.some.inj (h1.symm.trans h2)
theorem bitsL_inj : ∀ (n : Nat) (a b : List UInt8), a.length = n → a.all symB = true → b.all symB = true → bitsL a = bitsL b → a = b := by
  intro n
  induction n with
  | zero =>
    intro a b hl _ hb h
    obtain rfl := List.length_eq_zero_iff.1 hl
    rcases List.eq_nil_or_concat b with rfl | ⟨b', y, rfl⟩
    · rfl
    · rw [List.concat_eq_append] at h hb
      have := (bitsL_pos b' y (by simp at hb; exact hb.2)).1
      simp [bitsL] at h
      simp [bitsL] at this
      omega
  | succ n ih =>
    intro a b hl ha hb h
    rcases List.eq_nil_or_concat a with rfl | ⟨a', x, rfl⟩
    · simp at hl
    rw [List.concat_eq_append] at h ha hl ⊢
    have hx := bitsL_pos a' x (by simp at ha; exact ha.2)
    rcases List.eq_nil_or_concat b with rfl | ⟨b', y, rfl⟩
    · exfalso
      have h0 := hx.1
      rw [h] at h0
      simp [bitsL] at h0
    rw [List.concat_eq_append] at h hb ⊢
    have hy := bitsL_pos b' y (by simp at hb; exact hb.2)
    have e1 : dig x = dig y := by rw [← hx.2.1, ← hy.2.1, h]
    have e2 : bitsL a' = bitsL b' := by rw [← hx.2.2, ← hy.2.2, h]
    have e3 := dig_inj x y (by simp at ha; exact ha.2) (by simp at hb; exact hb.2) e1
    have e4 := ih a' b' (by simpa using hl) (by simp at ha ⊢; exact ha.1) (by simp at hb ⊢; exact hb.1) e2
    rw [e3, e4]
theorem nW_inj {a b : ByteArray} (ha : symL a.data.toList = true) (hb : symL b.data.toList = true) (h : nW a = nW b) : a = b := by
  rw [nW_eq ha, nW_eq hb] at h
  simp only [Wd.mk.injEq, true_and] at h
  have h1 : bitsL a.data.toList = bitsL b.data.toList := by omega
  have h2 := bitsL_inj _ _ _ rfl (symL_facts a ha).1 (symL_facts b hb).1 h1
  have h3 : a.data = b.data := Array.toList_inj.1 h2
  cases a; cases b; simp_all
theorem nW_wf {s : ByteArray} (h : symL s.data.toList = true) : (nW s).tag = 4 ∧ 0 ≤ (nW s).rest ∧ (nW s).rest < 18446744073709551616 := by
  rw [nW_eq h]
  obtain ⟨h1, h2, h3⟩ := symL_facts s h
  have h4 := bitsL_lt s.data.toList h1
  have h5 := pow35 s.data.toList.length (by have : s.data.toList.length = s.size := by rw [Array.length_toList]; rfl
                                            omega)
  simp only
  refine ⟨trivial, by omega, by omega⟩
end Go.Proofs.Ytgfienijabkpjaa
