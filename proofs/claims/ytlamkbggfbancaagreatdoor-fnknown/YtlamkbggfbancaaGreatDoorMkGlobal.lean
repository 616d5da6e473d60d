/-
  The laws' markGlobalS and heldGlobalS: the marks that are put into a row, and that they are there; nothing but that row is turned.
-/
import Derived.Test.YtlamkbggfbancaaGreatDoorStGlobal
import Derived.Test.YtlamkbggfbancaaGreatDoorMark
namespace Go.Proofs.YtlamkbggfbancaaGreatDoor
open Go.RowKit Go.Extern.Stop Go.Stop Go.Extern Num Go.Lib

/-- What is put as the mark of a place. -/
def markG (k i : Nat) : Glb := ⟨⟨(109 :: decDigits (k + 5 * i)).toArray⟩, ⟨((k + 5 * i : Nat) : Int) + 1, ((k + 5 * i : Nat) : Int) + 1 + 1, ⟨(109 :: decDigits (k + 5 * i + 3)).toArray⟩⟩, ((k + 5 * i : Nat) : Int) + 1 + 1 + 1 + 1⟩
def marksG (k : Nat) : Nat → List Glb
  | 0 => []
  | n + 1 => marksG k n ++ [markG k n]
theorem marksG_len (k n : Nat) : (marksG k n).length = n := by
  induction n with
  | zero => rfl
  | succ n ih => simp [marksG, ih]
theorem marksG_at (k n i : Nat) (h : i < n) : (marksG k n)[i]'(by rw [marksG_len]; exact h) = markG k i := by
  induction n with
  | zero => omega
  | succ n ih =>
    simp only [marksG]
    by_cases hi : i < n
    · rw [List.getElem_append_left (by rw [marksG_len]; exact hi)]; exact ih hi
    · have : i = n := by omega
      subst this
      rw [List.getElem_append_right (by rw [marksG_len]; omega)]
      simp [marksG_len]
theorem setG (A R : List Glb) (t t' : Glb) (i : Nat) (hA : A.length = i) :
    ((((((cellsG (A ++ t :: R)).set (i * 5) (.string t'.name)).set (i * 5 + 1) (.int .i64 t'.value.kind)).set (i * 5 + 2) (.int .i64 t'.value.num)).set (i * 5 + 3) (.string t'.value.name)).set (i * 5 + 4) (.int .i64 t'.ver)) = cellsG ((A ++ [t']) ++ R) := by
  have hl : (cellsG A).length = i * 5 := by rw [cellsG_length, hA]
  rw [cellsG_append, cellsG_append, cellsG_append]
  rw [List.set_append_right _ _ (by omega), List.set_append_right _ _ (by omega), List.set_append_right _ _ (by omega), List.set_append_right _ _ (by omega), List.set_append_right _ _ (by omega)]
  rw [hl, show i * 5 - i * 5 = 0 by omega, show i * 5 + 1 - i * 5 = 1 by omega, show i * 5 + 2 - i * 5 = 2 by omega, show i * 5 + 3 - i * 5 = 3 by omega, show i * 5 + 4 - i * 5 = 4 by omega]
  simp [cellsG, Glb.cells]
theorem midG_at (k i : Nat) (l : List Glb) (hi : i < l.length) : (marksG k i ++ l.drop i).length = l.length ∧ ∃ R, l.drop i = (l[i]'hi) :: R ∧ R = l.drop (i + 1) := by
  refine ⟨by rw [List.length_append, marksG_len, List.length_drop]; omega, l.drop (i + 1), ?_, rfl⟩
  exact List.drop_eq_getElem_cons hi
theorem markG_next {w wr w2 w3 : World} {g cap base k i q : Nat} {l : List Glb}
    (ho : wr.ownsRow base 35 5 (.slice (some ⟨g, 0, none⟩) l.length cap) l.length (cellsG (marksG k i ++ l.drop i))) (hg : w.grownBy wr (some g)) (hi : i < l.length) (hq : q = k + 5 * i)
    (hb : Below wr.heap.size wr w2) (hb2 : Below (((w2.setCell ⟨g, i * 5, none⟩ (S (109 :: decDigits q))).setCell ⟨g, i * 5 + 1, none⟩ (.int .i64 ((q : Int) + 1))).setCell ⟨g, i * 5 + 2, none⟩ (.int .i64 ((q : Int) + 1 + 1))).heap.size (((w2.setCell ⟨g, i * 5, none⟩ (S (109 :: decDigits q))).setCell ⟨g, i * 5 + 1, none⟩ (.int .i64 ((q : Int) + 1))).setCell ⟨g, i * 5 + 2, none⟩ (.int .i64 ((q : Int) + 1 + 1))) w3) :
    ((w3.setCell ⟨g, i * 5 + 3, none⟩ (S (109 :: decDigits (q + 3)))).setCell ⟨g, i * 5 + 4, none⟩ (.int .i64 ((q : Int) + 1 + 1 + 1 + 1))).ownsRow base 35 5 (.slice (some ⟨g, 0, none⟩) l.length cap) l.length (cellsG (marksG k (i + 1) ++ l.drop (i + 1))) ∧ w.grownBy ((w3.setCell ⟨g, i * 5 + 3, none⟩ (S (109 :: decDigits (q + 3)))).setCell ⟨g, i * 5 + 4, none⟩ (.int .i64 ((q : Int) + 1 + 1 + 1 + 1))) (some g) := by
  refine ⟨?_, gb_set (gb_set (gb_below (gb_set (gb_set (gb_set (gb_below hg hb) _) _) _) hb2) _) _⟩
  have h := own_put (own_put (own_below (own_put (own_put (own_put (own_below ho hb) (i * 5) (S (109 :: decDigits q))) (i * 5 + 1) (.int .i64 ((q : Int) + 1))) (i * 5 + 2) (.int .i64 ((q : Int) + 1 + 1))) hb2) (i * 5 + 3) (S (109 :: decDigits (q + 3)))) (i * 5 + 4) (.int .i64 ((q : Int) + 1 + 1 + 1 + 1))
  obtain ⟨_, R, hR, rfl⟩ := midG_at k i l hi
  rw [hR] at h
  have e := setG (marksG k i) (l.drop (i + 1)) (l[i]'hi) (markG k i) i (marksG_len k i)
  subst hq
  have e2 : ((((((cellsG (marksG k i ++ (l[i]'hi) :: l.drop (i + 1))).set (i * 5) (S (109 :: decDigits (k + 5 * i)))).set (i * 5 + 1) (.int .i64 (((k + 5 * i : Nat) : Int) + 1))).set (i * 5 + 2) (.int .i64 (((k + 5 * i : Nat) : Int) + 1 + 1))).set (i * 5 + 3) (S (109 :: decDigits (k + 5 * i + 3)))).set (i * 5 + 4) (.int .i64 (((k + 5 * i : Nat) : Int) + 1 + 1 + 1 + 1))) = cellsG (marksG k (i + 1) ++ l.drop (i + 1)) := by
    have e3 : marksG k (i + 1) = marksG k i ++ [markG k i] := rfl
    rw [e3, ← e]; rfl
  rw [e2] at h
  exact h
theorem heldG_at {w : World} {g cap base k n i q : Nat} (h : w.ownsRow base 35 5 (.slice (some ⟨g, 0, none⟩) n cap) n (cellsG (marksG k n))) (hi : i < n) (hq : q = k + 5 * i) :
    w.cell? ⟨g, i * 5, none⟩ = some (S (109 :: decDigits q)) ∧ w.cell? ⟨g, i * 5 + 1, none⟩ = some (.int .i64 ((q : Int) + 1)) ∧ w.cell? ⟨g, i * 5 + 2, none⟩ = some (.int .i64 ((q : Int) + 1 + 1)) ∧ w.cell? ⟨g, i * 5 + 3, none⟩ = some (S (109 :: decDigits (q + 3))) ∧ w.cell? ⟨g, i * 5 + 4, none⟩ = some (.int .i64 ((q : Int) + 1 + 1 + 1 + 1)) := by
  subst hq
  have hl := marksG_len k n
  have h' : w.ownsRow base 35 5 (.slice (some ⟨g, 0, none⟩) (marksG k n).length cap) (marksG k n).length (cellsG (marksG k n)) := by rw [hl]; exact h
  obtain ⟨h1, h2, h3, h4, h5⟩ := rowG_at h' i (by rw [hl]; exact hi)
  rw [marksG_at k n i hi] at h1 h2 h3 h4 h5
  exact ⟨h1, h2, h3, h4, h5⟩
end Go.Proofs.YtlamkbggfbancaaGreatDoor
