/-
  Lines: a text apart at its line feeds, as the library's split tells and as a walk from byte to byte tells; what is left without the lines of blanks alone.
-/
import Derived.Test.YtjcamjdfdalbcaaDoorRowKit0
import Derived.Lib.Split
import Derived.Lib.SplitLaws
import Derived.Lib.CutLaws
import Derived.Lib.CountLaws
import Derived.Lib.IndexLaws
import Derived.Lib.IndexBytes
namespace Go.Proofs.YtjcamjdfdalbcaaDoor
open Go.RowKit Go.Extern.Stop Go.Stop Go.Extern Num Go.Lib

/-- A line of blanks alone. -/
def blankB (s : ByteArray) : Bool := s.data.toList.all (· == 32)
def feed : ByteArray := ⟨#[10]⟩
/-- The parts between line feeds. -/
def splitL (s : ByteArray) : List ByteArray := splitB feed 0 (countB s feed) s
/-- The lines that aren't blank. -/
def linesL (s : ByteArray) : List ByteArray := (splitL s).filter (fun x => !blankB x)
theorem feed_size : feed.size = 1 := rfl
theorem indexB_feed (s : ByteArray) : indexB s feed = indexByte s.data.toList 10 := index_one s.data.toList 10
theorem splitL_miss (s : ByteArray) (h : ∀ (k : Nat), s.data.toList[k]? ≠ some 10) : splitL s = [s] := by
  refine splitB_miss _ _ _ _ ?_
  rcases indexB_cases s feed with e | ⟨i, e, -⟩
  · exact e
  · exact absurd (indexByte_some (by rw [← indexB_feed]; exact e)).1 (h i)
theorem splitL_hit (s : ByteArray) (i : Nat) (hi : s.data.toList[i]? = some 10) (h : ∀ (k : Nat), k < i → s.data.toList[k]? ≠ some 10) : splitL s = s.extract 0 i :: splitL (s.extract (i + 1) s.size) := by
  have e : indexB s feed = i := by
    rcases indexB_cases s feed with e | ⟨j, e, -⟩
    · exact absurd hi (indexByte_none (by rw [← indexB_feed]; exact e) i)
    · obtain ⟨h1, h2⟩ := indexByte_some (show indexByte s.data.toList 10 = (j : Int) by rw [← indexB_feed]; exact e)
      by_cases h3 : i < j
      · exact absurd hi (h2 i h3)
      · by_cases h4 : j < i
        · exact absurd h1 (h j h4)
        · have : i = j := by omega
          rw [this]; exact e
  have hc := countB_hit s feed i (by rw [feed_size]; omega) e
  unfold splitL
  rw [hc, Nat.add_comm, splitB_hit _ _ _ _ _ e, feed_size]
  rfl
theorem ext_at (t : ByteArray) (f k : Nat) : (t.extract f t.size).data.toList[k]? = t.data.toList[f + k]? := by
  rw [extract_to_end, List.getElem?_drop]
theorem ext_ext (t : ByteArray) (f a b : Nat) (hb : f + b ≤ t.size) : (t.extract f t.size).extract a b = t.extract (f + a) (f + b) := by
  have hs : t.size = t.data.toList.length := by simp
  apply ByteArray.ext
  apply Array.ext'
  rw [extract_data, extract_data, extract_data]
  simp only [List.drop_take, List.take_take, List.drop_drop]
  rw [Nat.min_eq_left (by omega), show f + b - (f + a) = b - a by omega]
theorem linesL_miss (t : ByteArray) (f : Nat) (hf : f ≤ t.size) (h : ∀ (k : Nat), f ≤ k → k < t.size → t.data.toList[k]? ≠ some 10) :
    linesL (t.extract f t.size) = if blankB (t.extract f t.size) = true then [] else [t.extract f t.size] := by
  have e : splitL (t.extract f t.size) = [t.extract f t.size] := splitL_miss _ fun k hk => by
    have hlt : f + k < t.size := by
      have h1 := (List.getElem?_eq_some_iff.1 hk).1
      have h2 : (t.extract f t.size).size = t.size - f := by rw [ByteArray.size_extract]; omega
      have h3 : (t.extract f t.size).data.toList.length = (t.extract f t.size).size := by simp
      omega
    rw [ext_at t f k] at hk
    exact h (f + k) (by omega) hlt hk
  unfold linesL
  rw [e]
  cases hb : blankB (t.extract f t.size) <;> simp [hb]
theorem linesL_hit (t : ByteArray) (f i : Nat) (hfi : f ≤ i) (hi : i < t.size) (hx : t.data.toList[i]? = some 10) (h : ∀ (k : Nat), f ≤ k → k < i → t.data.toList[k]? ≠ some 10) :
    linesL (t.extract f t.size) = if blankB (t.extract f i) = true then linesL (t.extract (i + 1) t.size) else t.extract f i :: linesL (t.extract (i + 1) t.size) := by
  have h2 : (t.extract f t.size).size = t.size - f := by rw [ByteArray.size_extract]; omega
  have e := splitL_hit (t.extract f t.size) (i - f) (by rw [ext_at t f (i - f), show f + (i - f) = i by omega]; exact hx) fun k hk => by
    rw [ext_at t f k]
    exact h (f + k) (by omega) (by omega)
  rw [ext_ext t f 0 (i - f) (by omega), h2, ext_ext t f (i - f + 1) (t.size - f) (by omega), show f + 0 = f by omega, show f + (i - f) = i by omega, show f + (i - f + 1) = i + 1 by omega, show f + (t.size - f) = t.size by omega] at e
  unfold linesL
  rw [e]
  cases hb : blankB (t.extract f i) <;> simp [hb]
theorem linesL_len (t : ByteArray) : (linesL t).length ≤ t.size + 1 := by
  have h1 : (splitL t).length ≤ countB t feed + 1 := splitB_length_le _ _ _ _
  have h2 := countB_le feed (by rw [feed_size]; omega) t.size t (Nat.le_refl _)
  have h3 : (linesL t).length ≤ (splitL t).length := List.length_filter_le _ _
  omega
theorem splitL_size : ∀ (k : Nat) (t : ByteArray) (x : ByteArray), x ∈ splitB feed 0 k t → x.size ≤ t.size
  | 0, t, x, h => by
    rw [splitB_zero] at h
    rw [List.mem_singleton.1 h]
    exact Nat.le_refl _
  | k + 1, t, x, h => by
    rcases indexB_cases t feed with e | ⟨i, e, -⟩
    · rw [splitB_miss _ _ _ _ e] at h
      rw [List.mem_singleton.1 h]
      exact Nat.le_refl _
    · rw [splitB_hit _ _ _ _ _ e] at h
      rcases List.mem_cons.1 h with rfl | h
      · rw [ByteArray.size_extract]; omega
      · have := splitL_size k _ x h
        rw [ByteArray.size_extract] at this
        omega
theorem linesL_size (t : ByteArray) (k : Nat) (h : k < (linesL t).length) : (linesL t)[k].size ≤ t.size := by
  have h1 : (linesL t)[k] ∈ splitL t := (List.mem_filter.1 (List.getElem_mem h)).1
  exact splitL_size _ t _ h1
end Go.Proofs.YtjcamjdfdalbcaaDoor
