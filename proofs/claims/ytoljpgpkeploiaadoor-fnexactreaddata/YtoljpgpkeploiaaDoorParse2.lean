/-
  The model's l1Parse and ParseNum: of a text that is the text of a number within the bounds that number, of every other text none; nothing that was there is turned.
-/
import Derived.Test.YtoljpgpkeploiaaDoorParseA
namespace Go.Proofs.YtoljpgpkeploiaaDoor
open Go.RowKit Go.Extern.Stop Go.Stop Go.Extern Num Go.Lib

theorem step_dig (l : List UInt8) (f k m : Nat) (b : UInt8) (hk : l[k]? = some b) (hf : f ≤ k) (h : decFrom 0 ((l.drop f).take (k - f)) = some m) (h1 : 48 ≤ b.toNat) (h2 : b.toNat ≤ 57) :
    decFrom 0 ((l.drop f).take (k + 1 - f)) = some (m * 10 + (b.toNat - 48)) := by
  rw [show k + 1 - f = (k - f) + 1 by omega]
  refine decFrom_take (l.drop f) (k - f) 0 m b _ h ?_ ?_
  · rw [List.getElem?_drop, show f + (k - f) = k by omega]; exact hk
  · unfold digitVal; rw [if_pos ⟨h1, h2⟩]
theorem step_bound (l : List UInt8) (f k m : Nat) (h : decFrom 0 ((l.drop f).take (k - f)) = some m) (hk : k - f ≤ 10) : m < 10000000000 := by
  have h1 := decFrom_lt _ _ _ h
  have h2 : ((l.drop f).take (k - f)).length ≤ 10 := by rw [List.length_take]; omega
  have h3 : 10 ^ ((l.drop f).take (k - f)).length ≤ 10 ^ 10 := Nat.pow_le_pow_right (by omega) h2
  omega
theorem no_dig (l : List UInt8) (f k : Nat) (b : UInt8) (hk : l[k]? = some b) (hf : f ≤ k) (h : ¬ (48 ≤ b.toNat ∧ b.toNat ≤ 57)) : decFrom 0 (l.drop f) = none := by
  cases hd : decFrom 0 (l.drop f) with
  | none => rfl
  | some n =>
    obtain ⟨d, hd'⟩ := digit_of_decFrom _ _ _ hd (k - f) b (by rw [List.getElem?_drop, show f + (k - f) = k by omega]; exact hk)
    unfold digitVal at hd'
    rw [if_neg h] at hd'
    cases hd'

/-- The sign that goes with what is passed over. -/
def sg (f : Nat) (k : Nat) : Int := if f = 1 then -(k : Int) else k
theorem itoa_drop (f : Nat) (l : List UInt8) (v : Int) (hf : (f = 1 ∧ l.head? = some 45) ∨ (f = 0 ∧ l.head? ≠ some 45)) (h : itoa v = l) : l.drop f = decDigits v.natAbs ∧ v = sg f v.natAbs := by
  subst h
  obtain ⟨c, r, e, c1, c2⟩ := decDigits_cons v.toNat
  by_cases hv : v < 0
  · have e1 : itoa v = 45 :: decDigits v.natAbs := by unfold itoa; rw [if_pos hv]
    rcases hf with ⟨rfl, _⟩ | ⟨rfl, h⟩
    · rw [e1]; refine ⟨rfl, ?_⟩
      unfold sg; rw [if_pos rfl]; omega
    · rw [e1] at h; simp at h
  · have e1 : itoa v = decDigits v.toNat := by unfold itoa; rw [if_neg hv]
    have e2 : v.natAbs = v.toNat := by omega
    rcases hf with ⟨rfl, h⟩ | ⟨rfl, _⟩
    · rw [e1, e] at h
      simp at h
      subst h
      simp at c1
    · rw [e1, e2]; refine ⟨rfl, ?_⟩
      unfold sg; rw [if_neg (by omega)]; omega

/-- What l1Parse answers: a number within the bounds whose text it is, or that there is none. -/
def PRes (s : ByteArray) (w : World) (e : Ending) (w' : World) : Prop :=
  ∃ n b, e = .returned (.tuple #[.int .i64 n, .bool b]) ∧ ((b = true ∧ inB n = true ∧ itoa n = s.data.toList) ∨ (b = false ∧ ∀ v, inB v = true → itoa v ≠ s.data.toList)) ∧ Below w.heap.size w w'

theorem pres_len (f : Nat) (s : ByteArray) (hf : (f = 1 ∧ s.data.toList.head? = some 45) ∨ (f = 0 ∧ s.data.toList.head? ≠ some 45)) (h : (s.size : Int) - f < 1 ∨ 10 < (s.size : Int) - f) (v : Int) (hv : inB v = true) : itoa v ≠ s.data.toList := by
  intro e
  obtain ⟨e1, _⟩ := itoa_drop f _ v hf e
  have hl := congrArg List.length e1
  rw [List.length_drop, len_data, decDigits_length] at hl
  rw [inB_iff] at hv
  have := nDigits_le_of_lt v.natAbs 9 (by omega)
  have := nDigits_pos v.natAbs
  omega
theorem pres_dig (f : Nat) (s : ByteArray) (hf : (f = 1 ∧ s.data.toList.head? = some 45) ∨ (f = 0 ∧ s.data.toList.head? ≠ some 45)) (h : decFrom 0 (s.data.toList.drop f) = none) (v : Int) : itoa v ≠ s.data.toList := by
  intro e
  obtain ⟨e1, _⟩ := itoa_drop f _ v hf e
  rw [e1, decFrom_decDigits] at h
  cases h
theorem pres_end (f : Nat) (s : ByteArray) (hf : (f = 1 ∧ s.data.toList.head? = some 45) ∨ (f = 0 ∧ s.data.toList.head? ≠ some 45)) (m : Nat) (h : decFrom 0 (s.data.toList.drop f) = some m) (v : Int) (e : itoa v = s.data.toList) : v = sg f m := by
  obtain ⟨e1, e2⟩ := itoa_drop f _ v hf e
  rw [e1, decFrom_decDigits] at h
  rw [← Option.some.inj h]; exact e2
theorem head_at (s : ByteArray) (h0 : 0 < s.size) : s.data.toList.head? = some (s[0]'h0) := by
  rw [List.head?_eq_getElem?]
  have : (s[0]'h0) = s.data.toList[0]'(by rw [len_data]; exact h0) := rfl
  rw [this, List.getElem?_eq_getElem]
theorem at_k (s : ByteArray) (k : Nat) (h : k < s.size) : s.data.toList[k]? = some (s[k]'h) := by
  have : (s[k]'h) = s.data.toList[k]'(by rw [len_data]; exact h) := rfl
  rw [this, List.getElem?_eq_getElem]

/-- The last line of l1Parse, behind the loop. -/
theorem pres_out (f : Nat) (s : ByteArray) (hf : (f = 1 ∧ s.data.toList.head? = some 45) ∨ (f = 0 ∧ s.data.toList.head? ≠ some 45)) (m : Nat) (h : decFrom 0 (s.data.toList.drop f) = some m) (w w' : World) (b : Bool) (n : Int) (hn : n = sg f m)
    (hb : b = (inB n && (itoa n == s.toList))) (hq : Below w.heap.size w w') : PRes s w (.returned (.tuple #[.int .i64 n, .bool b])) w' := by
  refine ⟨n, b, rfl, ?_, hq⟩
  subst hb
  cases hi : inB n
  · refine Or.inr ⟨by simp, fun v hv e => ?_⟩
    have := pres_end f s hf m h v e
    rw [← hn] at this; subst this
    rw [hv] at hi; cases hi
  · by_cases he : itoa n = s.data.toList
    · exact Or.inl ⟨by rw [ByteArray.toList_eq, he]; simp, rfl, he⟩
    · refine Or.inr ⟨by rw [ByteArray.toList_eq]; simpa using he, fun v hv e => ?_⟩
      have := pres_end f s hf m h v e
      rw [← hn] at this; subst this
      exact he e
theorem pres_no (s : ByteArray) (w : World) (h : ∀ v, inB v = true → itoa v ≠ s.data.toList) : PRes s w (.returned (.tuple #[.int .i64 0, .bool false])) w :=
  ⟨0, false, rfl, Or.inr ⟨rfl, h⟩, Below.refl _ _⟩
end Go.Proofs.YtoljpgpkeploiaaDoor
