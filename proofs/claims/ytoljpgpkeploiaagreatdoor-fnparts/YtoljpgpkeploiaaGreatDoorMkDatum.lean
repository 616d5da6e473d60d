/-
  The laws' markDatumS and heldDatumS: the marks that are put into a row, and that they are there; nothing but that row is turned.
-/
import Derived.Test.YtoljpgpkeploiaaGreatDoorStDatum
import Derived.Test.YtoljpgpkeploiaaGreatDoorMark
namespace Go.Proofs.YtoljpgpkeploiaaGreatDoor
open Go.RowKit Go.Extern.Stop Go.Stop Go.Extern Num Go.Lib

/-- What is put as the mark of a place. -/
def markD (k i : Nat) : Dat := ⟨((k + 4 * i : Nat) : Int), ((k + 4 * i : Nat) : Int) + 1, ((k + 4 * i : Nat) : Int) + 1 + 1, ⟨(109 :: decDigits (k + 4 * i + 3)).toArray⟩⟩
def marksD (k : Nat) : Nat → List Dat
  | 0 => []
  | n + 1 => marksD k n ++ [markD k n]
theorem marksD_len (k n : Nat) : (marksD k n).length = n := by
  induction n with
  | zero => rfl
  | succ n ih => simp [marksD, ih]
theorem marksD_at (k n i : Nat) (h : i < n) : (marksD k n)[i]'(by rw [marksD_len]; exact h) = markD k i := by
  induction n with
  | zero => omega
  | succ n ih =>
    simp only [marksD]
    by_cases hi : i < n
    · rw [List.getElem_append_left (by rw [marksD_len]; exact hi)]; exact ih hi
    · have : i = n := by omega
      subst this
      rw [List.getElem_append_right (by rw [marksD_len]; omega)]
      simp [marksD_len]
theorem setD (A R : List Dat) (t t' : Dat) (i : Nat) (hA : A.length = i) :
    (((((cellsD (A ++ t :: R)).set (i * 4) (.int .i64 t'.kind)).set (i * 4 + 1) (.int .i64 t'.parent)).set (i * 4 + 2) (.int .i64 t'.num)).set (i * 4 + 3) (.string t'.name)) = cellsD ((A ++ [t']) ++ R) := by
  have hl : (cellsD A).length = i * 4 := by rw [cellsD_length, hA]
  rw [cellsD_append, cellsD_append, cellsD_append]
  rw [List.set_append_right _ _ (by omega), List.set_append_right _ _ (by omega), List.set_append_right _ _ (by omega), List.set_append_right _ _ (by omega)]
  rw [hl, show i * 4 - i * 4 = 0 by omega, show i * 4 + 1 - i * 4 = 1 by omega, show i * 4 + 2 - i * 4 = 2 by omega, show i * 4 + 3 - i * 4 = 3 by omega]
  simp [cellsD, Dat.cells]
theorem midD_at (k i : Nat) (l : List Dat) (hi : i < l.length) : (marksD k i ++ l.drop i).length = l.length ∧ ∃ R, l.drop i = (l[i]'hi) :: R ∧ R = l.drop (i + 1) := by
  refine ⟨by rw [List.length_append, marksD_len, List.length_drop]; omega, l.drop (i + 1), ?_, rfl⟩
  exact List.drop_eq_getElem_cons hi
theorem markD_next {w wr w2 : World} {g cap base k i q : Nat} {l : List Dat}
    (ho : wr.ownsRow base 61 4 (.slice (some ⟨g, 0, none⟩) l.length cap) l.length (cellsD (marksD k i ++ l.drop i))) (hg : w.grownBy wr (some g)) (hi : i < l.length) (hq : q = k + 4 * i)
    (hb : Below (((wr.setCell ⟨g, i * 4, none⟩ (.int .i64 ((q : Int)))).setCell ⟨g, i * 4 + 1, none⟩ (.int .i64 ((q : Int) + 1))).setCell ⟨g, i * 4 + 2, none⟩ (.int .i64 ((q : Int) + 1 + 1))).heap.size (((wr.setCell ⟨g, i * 4, none⟩ (.int .i64 ((q : Int)))).setCell ⟨g, i * 4 + 1, none⟩ (.int .i64 ((q : Int) + 1))).setCell ⟨g, i * 4 + 2, none⟩ (.int .i64 ((q : Int) + 1 + 1))) w2) :
    (w2.setCell ⟨g, i * 4 + 3, none⟩ (S (109 :: decDigits (q + 3)))).ownsRow base 61 4 (.slice (some ⟨g, 0, none⟩) l.length cap) l.length (cellsD (marksD k (i + 1) ++ l.drop (i + 1))) ∧ w.grownBy (w2.setCell ⟨g, i * 4 + 3, none⟩ (S (109 :: decDigits (q + 3)))) (some g) := by
  refine ⟨?_, gb_set (gb_below (gb_set (gb_set (gb_set hg _) _) _) hb) _⟩
  have h := own_put (own_below (own_put (own_put (own_put ho (i * 4) (.int .i64 ((q : Int)))) (i * 4 + 1) (.int .i64 ((q : Int) + 1))) (i * 4 + 2) (.int .i64 ((q : Int) + 1 + 1))) hb) (i * 4 + 3) (S (109 :: decDigits (q + 3)))
  obtain ⟨_, R, hR, rfl⟩ := midD_at k i l hi
  rw [hR] at h
  have e := setD (marksD k i) (l.drop (i + 1)) (l[i]'hi) (markD k i) i (marksD_len k i)
  subst hq
  have e2 : (((((cellsD (marksD k i ++ (l[i]'hi) :: l.drop (i + 1))).set (i * 4) (.int .i64 (((k + 4 * i : Nat) : Int)))).set (i * 4 + 1) (.int .i64 (((k + 4 * i : Nat) : Int) + 1))).set (i * 4 + 2) (.int .i64 (((k + 4 * i : Nat) : Int) + 1 + 1))).set (i * 4 + 3) (S (109 :: decDigits (k + 4 * i + 3)))) = cellsD (marksD k (i + 1) ++ l.drop (i + 1)) := e
  rw [e2] at h
  exact h
theorem heldD_at {w : World} {g cap base k n i q : Nat} (h : w.ownsRow base 61 4 (.slice (some ⟨g, 0, none⟩) n cap) n (cellsD (marksD k n))) (hi : i < n) (hq : q = k + 4 * i) :
    w.cell? ⟨g, i * 4, none⟩ = some (.int .i64 ((q : Int))) ∧ w.cell? ⟨g, i * 4 + 1, none⟩ = some (.int .i64 ((q : Int) + 1)) ∧ w.cell? ⟨g, i * 4 + 2, none⟩ = some (.int .i64 ((q : Int) + 1 + 1)) ∧ w.cell? ⟨g, i * 4 + 3, none⟩ = some (S (109 :: decDigits (q + 3))) := by
  subst hq
  have hl := marksD_len k n
  have h' : w.ownsRow base 61 4 (.slice (some ⟨g, 0, none⟩) (marksD k n).length cap) (marksD k n).length (cellsD (marksD k n)) := by rw [hl]; exact h
  obtain ⟨h1, h2, h3, h4⟩ := rowD_at h' i (by rw [hl]; exact hi)
  rw [marksD_at k n i hi] at h1 h2 h3 h4
  exact ⟨h1, h2, h3, h4⟩
end Go.Proofs.YtoljpgpkeploiaaGreatDoor
