/-
  Lists of tokens, plainly: the first fault of a list, and its text, the tokens' texts with a blank between; no program in it.
-/
import Derived.Test.YtnlfnicgfhfpfaaGreatDoorSpecTText
import Derived.Lib.Join
namespace Go.Proofs.YtnlfnicgfhfpfaaGreatDoor
open Go.RowKit Go.Extern.Stop Go.Stop Go.Extern Num Go.Lib

def listFault : List Tok → Int
  | [] => 0
  | t :: r => if tokFault t = 0 then listFault r else tokFault t
theorem listFault_append (a b : List Tok) : listFault (a ++ b) = if listFault a = 0 then listFault b else listFault a := by
  induction a with
  | nil => simp [listFault]
  | cons t r ih =>
    by_cases h : tokFault t = 0
    · simp [listFault, h, ih]
    · simp [listFault, h]
theorem toks_next (l : List Tok) (k : Nat) (h : k < l.length) : l.take (k + 1) = l.take k ++ [l[k]] := by
  rw [List.take_add_one, List.getElem?_eq_getElem h]; rfl
theorem fault_here (l : List Tok) (k : Nat) (h : k < l.length) (h0 : listFault (l.take k) = 0) (hf : tokFault l[k] ≠ 0) : listFault l = tokFault l[k] := by
  have e : l = l.take k ++ (l[k] :: l.drop (k + 1)) := by rw [← List.drop_eq_getElem_cons h, List.take_append_drop]
  have e2 : listFault l = listFault (l.take k ++ (l[k] :: l.drop (k + 1))) := congrArg listFault e
  rw [e2, listFault_append, if_pos h0]
  simp [listFault, hf]
theorem fault_on (l : List Tok) (k : Nat) (h : k < l.length) (h0 : listFault (l.take k) = 0) (hf : tokFault l[k] = 0) : listFault (l.take (k + 1)) = 0 := by
  rw [toks_next l k h, listFault_append, if_pos h0]
  simp [listFault, hf]

def bytesOf (l : List Tok) : List (List UInt8) := l.map fun t => (tokText t).data.toList
def joinL (l : List Tok) : List UInt8 := Lib.join (bytesOf l) [32]
def joinT (l : List Tok) : ByteArray := ⟨(joinL l).toArray⟩
theorem joinTail_append (a b : List (List UInt8)) : joinTail [32] (a ++ b) = joinTail [32] a ++ joinTail [32] b := by
  simp [joinTail]
theorem joinL_zero : joinL [] = [] := rfl
theorem joinL_one (t : Tok) : joinL [t] = (tokText t).data.toList := by simp [joinL, bytesOf, join_one]
theorem joinL_next (l : List Tok) (t : Tok) (h : l ≠ []) : joinL (l ++ [t]) = joinL l ++ ([32] ++ (tokText t).data.toList) := by
  cases l with
  | nil => exact absurd rfl h
  | cons a r =>
    simp only [joinL, bytesOf, List.cons_append, List.map_cons, List.map_append, List.map_nil, join_cons, joinTail_append, List.append_assoc]
    simp [joinTail]
theorem joinT_first (l : List Tok) (h : 0 < l.length) : joinT (l.take 1) = tokText l[0] := by
  rw [toks_next l 0 h]
  simp [joinT, joinL_one]
theorem joinT_next (l : List Tok) (k : Nat) (h : k < l.length) (hk : 0 < k) : joinT (l.take (k + 1)) = joinT (l.take k) ++ (⟨#[32]⟩ : ByteArray) ++ tokText l[k] := by
  rw [toks_next l k h]
  have hne : l.take k ≠ [] := by
    intro e
    have := congrArg List.length e
    rw [List.length_take, List.length_nil] at this
    omega
  have e := joinL_next (l.take k) l[k] hne
  unfold joinT
  rw [e]
  apply ByteArray.ext
  simp
theorem tokText_len (t : Tok) (h : tokFault t = 0) : (tokText t).size ≤ 12 := by
  have hz := fault_zero h
  obtain ⟨k, n, z⟩ := t
  simp only at hz
  rcases hz with rfl | rfl | rfl | ⟨rfl, hn⟩ | ⟨rfl, rfl | rfl⟩ | rfl
  · simp [tokText, ByteArray.size]
  · simp [tokText, ByteArray.size]
  · simp [tokText, ByteArray.size]
  · have := itoa_len n hn
    simp [tokText, ByteArray.size]; omega
  · simp [tokText, ByteArray.size]
  · simp [tokText, ByteArray.size]
  · have h2 : symL z.data.toList = true := by
      by_cases hn : n = 0 <;> simp [tokFault, hn] at h
      exact h
    have h3 : z.data.toList.length ≤ 12 := by
      unfold symL at h2
      simp only [Bool.and_eq_true, decide_eq_true_eq] at h2
      exact h2.2.2
    have h4 : z.data.toList.length = z.size := by rw [Array.length_toList]; rfl
    have h5 : tokText ⟨6, n, z⟩ = z := rfl
    rw [h5]; omega
theorem joinL_len (l : List Tok) (h : listFault l = 0) : (joinL l).length ≤ 13 * l.length := by
  have hl : Lib.lens (bytesOf l) ≤ 12 * l.length := by
    induction l with
    | nil => simp [bytesOf, Lib.lens]
    | cons t r ih =>
      have ht : tokFault t = 0 := by
        by_cases h0 : tokFault t = 0
        · exact h0
        · simp [listFault, h0] at h
      have hr : listFault r = 0 := by simpa [listFault, ht] using h
      have h1 := ih hr
      have h2 := tokText_len t ht
      have h3 : (tokText t).data.toList.length = (tokText t).size := by rw [Array.length_toList]; rfl
      simp only [bytesOf, List.map_cons, Lib.lens] at h1 ⊢
      simp at h1 ⊢
      omega
  cases l with
  | nil => simp [joinL_zero]
  | cons t r =>
    have := join_length (tokText t).data.toList (bytesOf r) [32]
    have e : bytesOf (t :: r) = (tokText t).data.toList :: bytesOf r := rfl
    simp only [joinL, e]
    rw [e] at hl
    rw [this]
    simp [bytesOf] at hl ⊢
    omega
/-- What TokensText answers. -/
def TX (l : List Tok) : Value :=
  if 120 < l.length then .agg #[.int .i64 2, .string E0] else if listFault l = 0 then .agg #[.int .i64 0, .string (joinT l)] else .agg #[.int .i64 (listFault l), .string E0]
end Go.Proofs.YtnlfnicgfhfpfaaGreatDoor
