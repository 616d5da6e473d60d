/-
  The laws' markTokenS and heldTokenS: the marks that are put into a row of tokens, and that they are there; nothing but that row is turned.
-/
import Derived.Test.YtnlfnicgfhfpfaaDoorEqTok
import Derived.Test.YtnlfnicgfhfpfaaDoorMark
namespace Go.Proofs.YtnlfnicgfhfpfaaDoor
open Go.RowKit Go.Extern.Stop Go.Stop Go.Extern Num Go.Lib

/-- The token that is put as the mark of a place. -/
def markTok (k i : Nat) : Tok := ⟨((k + 3 * i : Nat) : Int), ((k + 3 * i + 1 : Nat) : Int), ⟨(109 :: decDigits (k + 3 * i + 2)).toArray⟩⟩
def marks (k : Nat) : Nat → List Tok
  | 0 => []
  | n + 1 => marks k n ++ [markTok k n]
theorem marks_len (k n : Nat) : (marks k n).length = n := by
  induction n with
  | zero => rfl
  | succ n ih => simp [marks, ih]
theorem marks_at (k n i : Nat) (h : i < n) : (marks k n)[i]'(by rw [marks_len]; exact h) = markTok k i := by
  induction n with
  | zero => omega
  | succ n ih =>
    simp only [marks]
    by_cases hi : i < n
    · rw [List.getElem_append_left (by rw [marks_len]; exact hi)]; exact ih hi
    · have : i = n := by omega
      subst this
      rw [List.getElem_append_right (by rw [marks_len]; omega)]
      simp [marks_len]
theorem set3 (A R : List Tok) (t t' : Tok) (i : Nat) (hA : A.length = i) :
    (((cellsOf (A ++ t :: R)).set (i * 3) (.int .i64 t'.kind)).set (i * 3 + 1) (.int .i64 t'.num)).set (i * 3 + 2) (.string t'.name) = cellsOf ((A ++ [t']) ++ R) := by
  have hl : (cellsOf A).length = i * 3 := by rw [cellsOf_length, hA]
  rw [cellsOf_append, cellsOf_append, cellsOf_append]
  rw [List.set_append_right _ _ (by omega), List.set_append_right _ _ (by omega), List.set_append_right _ _ (by omega)]
  rw [hl, show i * 3 - i * 3 = 0 by omega, show i * 3 + 1 - i * 3 = 1 by omega, show i * 3 + 2 - i * 3 = 2 by omega]
  simp [cellsOf, Tok.cells]
theorem mid_at (k i : Nat) (l : List Tok) (hi : i < l.length) : (marks k i ++ l.drop i).length = l.length ∧ ∃ R, l.drop i = (l[i]'hi) :: R ∧ R = l.drop (i + 1) := by
  refine ⟨by rw [List.length_append, marks_len, List.length_drop]; omega, l.drop (i + 1), ?_, rfl⟩
  exact List.drop_eq_getElem_cons hi
theorem mark_next {w wr w2 : World} {g cap base k i q : Nat} {l : List Tok}
    (ho : wr.ownsRow base 35 3 (.slice (some ⟨g, 0, none⟩) l.length cap) l.length (cellsOf (marks k i ++ l.drop i))) (hg : w.grownBy wr (some g)) (hi : i < l.length) (hq : q = k + 3 * i)
    (hb : Below ((wr.setCell ⟨g, i * 3, none⟩ (.int .i64 (q : Int))).setCell ⟨g, i * 3 + 1, none⟩ (.int .i64 ((q : Int) + 1))).heap.size ((wr.setCell ⟨g, i * 3, none⟩ (.int .i64 (q : Int))).setCell ⟨g, i * 3 + 1, none⟩ (.int .i64 ((q : Int) + 1))) w2) :
    (w2.setCell ⟨g, i * 3 + 2, none⟩ (S (109 :: decDigits (q + 2)))).ownsRow base 35 3 (.slice (some ⟨g, 0, none⟩) l.length cap) l.length (cellsOf (marks k (i + 1) ++ l.drop (i + 1))) ∧ w.grownBy (w2.setCell ⟨g, i * 3 + 2, none⟩ (S (109 :: decDigits (q + 2)))) (some g) := by
  refine ⟨?_, gb_set (gb_below (gb_set (gb_set hg _) _) hb) _⟩
  have h := own_put (own_below (own_put (own_put ho (i * 3) (.int .i64 (q : Int))) (i * 3 + 1) (.int .i64 ((q : Int) + 1))) hb) (i * 3 + 2) (S (109 :: decDigits (q + 2)))
  obtain ⟨_, R, hR, rfl⟩ := mid_at k i l hi
  rw [hR] at h
  have e := set3 (marks k i) (l.drop (i + 1)) (l[i]'hi) (markTok k i) i (marks_len k i)
  subst hq
  have e2 : (((cellsOf (marks k i ++ (l[i]'hi) :: l.drop (i + 1))).set (i * 3) (.int .i64 ((k + 3 * i : Nat) : Int))).set (i * 3 + 1) (.int .i64 (((k + 3 * i : Nat) : Int) + 1))).set (i * 3 + 2) (S (109 :: decDigits (k + 3 * i + 2))) = cellsOf (marks k (i + 1) ++ l.drop (i + 1)) := e
  rw [e2] at h
  exact h
set_option maxRecDepth 100000 in
set_option maxHeartbeats 2000000 in
theorem markS_some (g cap base k : Nat) (l : List Tok) (w : World) (hl : l.length ≤ 120) (hk : 1 ≤ k) (hk2 : k ≤ 1000) (h : w.ownsRow base 35 3 (.slice (some ⟨g, 0, none⟩) l.length cap) l.length (cellsOf l)) :
    Calls Tryd.prog 27 #[.slice (some ⟨g, 0, none⟩) l.length cap, .int .i64 (k : Int)] w fun e w' => e = .returned (.int .i64 ((k + 3 * l.length : Nat) : Int)) ∧ w'.ownsRow base 35 3 (.slice (some ⟨g, 0, none⟩) l.length cap) l.length (cellsOf (marks k l.length)) ∧ w.grownBy w' (some g) := by
  go_enter Tryd.func27, Tryd.ntmps27
  go_wp2_with fail
  go_loopw [1, 5] (fun v n wr => ∃ i q : Nat, i ≤ l.length ∧ n = .int .i64 (i : Int) ∧ v = .int .i64 (q : Int) ∧ q = k + 3 * i ∧ wr.ownsRow base 35 3 (.slice (some ⟨g, 0, none⟩) l.length cap) l.length (cellsOf (marks k i ++ l.drop i)) ∧ w.grownBy wr (some g)) (fun _ n _ => l.length - (RowKit.intOf n).toNat)
  case atStart => exact ⟨0, k, Nat.zero_le _, rfl, rfl, by omega, by simpa [marks] using h, gb_refl _ _⟩
  case round =>
    obtain ⟨i, q, hi, rfl, rfl, hq, ho, hg⟩ := hrel
    have HO : Hid (wr.ownsRow base 35 3 (.slice (some ⟨g, 0, none⟩) l.length cap) l.length (cellsOf (marks k i ++ l.drop i))) := ho
    have HG : Hid (w.grownBy wr (some g)) := hg
    have HQ : Hid (q = k + 3 * i) := hq
    have hq1 : 1 ≤ q := by omega
    have hq2 : q ≤ 2000 := by omega
    clear ho hg hq h
    by_cases hlt : i < l.length
    · have hgl : g < wr.heap.size := (HO.out.lt g rfl).2
      have HT : Hid (∀ w, Calls Tryd.prog 43 #[.int .i64 ((q : Int) + 1 + 1)] w fun e w' => e = .returned (S (109 :: decDigits (q + 2))) ∧ Below w.heap.size w w') := fun w => markText_any (q + 2) w (by omega) (by omega)
      have hlen := (mid_at k i l hlt).1
      have HR : Hid (∀ j, j < l.length * 3 → ∃ u, wr.cell? ⟨g, j, none⟩ = some u) := fun j hj => own_cell HO.out j (by rw [cellsOf_length, hlen]; exact hj)
      obtain ⟨x0, e0⟩ := HR.out (i * 3) (by omega)
      obtain ⟨x1, e1⟩ := HR.out (i * 3 + 1) (by omega)
      obtain ⟨x2, e2⟩ := HR.out (i * 3 + 2) (by omega)
      have ff : ∀ j, wr.frozen? ⟨g, j, none⟩ = false := own_frozen HO.out
      go_wp2_with (go_at_call 43; refine (HT.out _).mono ?_; rintro e w2 ⟨rfl, hb⟩; obtain ⟨hc, hf⟩ := bcell hb)
      have R := mark_next (q := q) HO.out HG.out hlt HQ.out hb
      exact ⟨⟨i + 1, q + 3, by omega, by go_num, by go_num, by have := HQ.out; omega, R.1, R.2⟩, by simp [RowKit.intOf]; omega⟩
    · have hil : i = l.length := by omega
      have HE : Hid ((q : Int) = ((k + 3 * l.length : Nat) : Int)) := by have := HQ.out; show (q : Int) = _; rw [this, hil]
      have HO2 : Hid (wr.ownsRow base 35 3 (.slice (some ⟨g, 0, none⟩) l.length cap) l.length (cellsOf (marks k l.length))) := by
        have h := HO.out
        rw [hil, List.drop_length, List.append_nil] at h
        exact h
      clear hil
      go_wp2
      go_ret
      exact ⟨by rw [← HE.out]; rfl, HO2.out, HG.out⟩
theorem mark_box (o : Obj) (w : World) (r : Option Nat) : w.grownBy (w.alloc o) r := World.grownBy_alloc w o r
end Go.Proofs.YtnlfnicgfhfpfaaDoor
