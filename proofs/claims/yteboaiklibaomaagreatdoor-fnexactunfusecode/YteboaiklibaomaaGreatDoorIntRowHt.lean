/-
  Parts of the proof laid into one text, one behind the other; each says at its head what is proved in it.
-/
import Derived.Test.YteboaiklibaomaaGreatDoorRowKit0Ht
/-
  Rows of int64 that a slice owns; the laws' eqInt64S, markInt64S and heldInt64S; nothing but a marked row is turned.
-/
namespace Go.Proofs.YteboaiklibaomaaGreatDoor
open Go.RowKit Go.Extern.Stop Go.Stop Go.Extern Num Go.Lib

def cellsI (l : List Int) : List Value := l.map (Value.int .i64)
theorem cellsI_length (l : List Int) : (cellsI l).length = l.length := by simp [cellsI]
theorem cellsI_append (a b : List Int) : cellsI (a ++ b) = cellsI a ++ cellsI b := by simp [cellsI]
theorem infoI : (Tryz.prog.info? 2).map (fun i => (i.zero, i.size, i.bytes)) = some (some (.int .i64 0), 1, 8) := by kernel_rfl
theorem rowI_at {w : World} {base g cap : Nat} {l : List Int} (h : w.ownsRow base 2 1 (.slice (some ⟨g, 0, none⟩) l.length cap) l.length (cellsI l)) (k : Nat) (hk : k < l.length) :
    w.cell? ⟨g, k, none⟩ = some (.int .i64 l[k]) := by
  have ha : ∀ j, (⟨g, 0, none⟩ : Addr).add j = ⟨g, j, none⟩ := fun j => by unfold Addr.add; split <;> simp_all
  rw [← ha]
  exact h.cells (g := g) rfl k _ (by simp [cellsI, hk])
theorem newsI {W : World} {b : Nat} {x : Value} {ty : TypeId} {fr : Nat × Nat} (h : W.heap[b]? = some (.cells #[x] ty fr)) : ∀ j u, [x][j]? = some u → W.cell? ((⟨b, 0, none⟩ : Addr).add j) = some u := by
  intro j u hj
  have ha : ∀ j, (⟨b, 0, none⟩ : Addr).add j = ⟨b, j, none⟩ := fun j => by unfold Addr.add; split <;> simp_all
  rw [ha, cell_of_row W b j _ ty fr h]
  match j, hj with
  | 0, hj => simpa using hj
/-- The marks of a row. -/
def marksI (k : Nat) : Nat → List Int
  | 0 => []
  | n + 1 => marksI k n ++ [((k + n : Nat) : Int)]
theorem marksI_len (k n : Nat) : (marksI k n).length = n := by
  induction n with
  | zero => rfl
  | succ n ih => simp [marksI, ih]
theorem marksI_at (k n i : Nat) (h : i < n) : (marksI k n)[i]'(by rw [marksI_len]; exact h) = ((k + i : Nat) : Int) := by
  induction n with
  | zero => omega
  | succ n ih =>
    simp only [marksI]
    by_cases hi : i < n
    · rw [List.getElem_append_left (by rw [marksI_len]; exact hi)]; exact ih hi
    · have : i = n := by omega
      subst this
      rw [List.getElem_append_right (by rw [marksI_len]; omega)]
      simp [marksI_len]
theorem marksI_zero (k : Nat) (l : List Int) : marksI k 0 ++ l.drop 0 = l := by simp [marksI]
theorem markI_next {w wr : World} {g cap base k i q : Nat} {l : List Int}
    (ho : wr.ownsRow base 2 1 (.slice (some ⟨g, 0, none⟩) l.length cap) l.length (cellsI (marksI k i ++ l.drop i))) (hg : w.grownBy wr (some g)) (hi : i < l.length) (hq : q = k + i) :
    (wr.setCell ⟨g, i, none⟩ (.int .i64 (q : Int))).ownsRow base 2 1 (.slice (some ⟨g, 0, none⟩) l.length cap) l.length (cellsI (marksI k (i + 1) ++ l.drop (i + 1))) ∧ w.grownBy (wr.setCell ⟨g, i, none⟩ (.int .i64 (q : Int))) (some g) := by
  refine ⟨?_, gb_set hg _⟩
  have h := own_put ho i (.int .i64 (q : Int))
  have e : (cellsI (marksI k i ++ l.drop i)).set i (.int .i64 (q : Int)) = cellsI (marksI k (i + 1) ++ l.drop (i + 1)) := by
    have e1 : l.drop i = l[i] :: l.drop (i + 1) := List.drop_eq_getElem_cons hi
    obtain ⟨R, hR⟩ : ∃ R, R = l.drop (i + 1) := ⟨_, rfl⟩
    rw [← hR] at e1 ⊢
    rw [e1, cellsI_append, cellsI_append, List.set_append_right _ _ (by rw [cellsI_length, marksI_len]; omega), cellsI_length, marksI_len, Nat.sub_self]
    simp [marksI, cellsI, hq]
  rw [e] at h
  exact h
end Go.Proofs.YteboaiklibaomaaGreatDoor
