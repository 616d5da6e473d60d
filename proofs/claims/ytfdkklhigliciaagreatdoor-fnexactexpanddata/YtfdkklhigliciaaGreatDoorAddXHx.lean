/-
  Parts of the proof laid into one text, one behind the other; each says at its head what is proved in it.
-/
import Derived.Test.YtfdkklhigliciaaGreatDoorXaG
import Derived.Test.YtfdkklhigliciaaGreatDoorXaH
/-
  The program's add to the tree of cores that an expander has as its second field: a node put behind the others.
-/
namespace Go.Proofs.YtfdkklhigliciaaGreatDoor
open Go.RowKit Go.Extern.Stop Go.Stop Go.Extern Num Go.Lib Go.Shelf

theorem size_atX (r m cap : Nat) (ao : Option Addr) (w : World) (hc : w.cell? ⟨r, 1, none⟩ = some (.slice ao m cap)) :
    Calls Tryz.prog 54 #[.pointer (some ⟨r, 1, none⟩)] w fun e w' => e = .returned (.int .i64 (m : Nat)) ∧ w' = w := by
  go_enter Tryz.func54, Tryz.ntmps54
  go_wp2
  go_ret
  exact ⟨rfl, rfl⟩
set_option maxRecDepth 100000 in
set_option maxHeartbeats 2000000 in
theorem add_anyX (B r : Nat) (v : Value) (N : List (Cor × Value)) (t : Cor) (dv : Value) (hdv : ∃ da dn dc, dv = .slice da dn dc) (w : World) (hB : B ≤ w.heap.size) (fz : w.frozen? ⟨r, 1, none⟩ = false) (h : Fld w B r 1 100 7 v N.length (cellsNC N)) (hl : N.length < 1000) :
    Calls Tryz.prog 110 #[.pointer (some ⟨r, 1, none⟩), .int .i64 t.parent, t.val dv] w fun e w' => e = .returned (.int .i64 (N.length : Nat)) ∧ AddK B r 1 100 7 v (N ++ [(t, dv)]).length (cellsNC (N ++ [(t, dv)])) w w' := by
  obtain ⟨da, dn, dc, rfl⟩ := hdv
  obtain ⟨k, p, na, nb, z, dl⟩ := t
  show Calls _ _ #[.pointer (some ⟨r, 1, none⟩), .int .i64 p, .agg #[.int .i64 k, .int .i64 p, .int .i64 na, .int .i64 nb, .string z, .slice da dn dc]] _ _
  obtain ⟨aD, cD, rfl⟩ := own_form h.2.1
  have c0 := h.1
  have hlt := h.lt
  have HH : Hid _ := h
  obtain ⟨i0, hi, hz0, hz1, hz2⟩ := info_parts infoNC
  clear h
  go_enter Tryz.func110, Tryz.ntmps110
  go_wp2_with fail
  have ag : (Value.slice aD N.length cD).ownBlock ≠ some r := fun e => HH.out.2.2 r e rfl
  have HO : Hid (w.ownsRow B 100 7 (.slice aD N.length cD) N.length (cellsNC N)) := HH.out.2.1
  go_region_law
    ((refine step_append_lies _ (by rfl) _ _ _ (by rfl) B 100 i0 _ 7 80 Tryz.underlying54 hi hz0 hz1 hz2 rfl (by decide) (.slice aD N.length cD) N.length (cellsNC N) (by rfl) (by repeat (first | exact HO.out | refine World.ownsRow.alloc ?_ _ | refine World.ownsRow.drew ?_))
        ⟨w.heap.size + 1, 0, none⟩ 1 1 [.int .i64 p, .int .i64 k, .int .i64 p, .int .i64 na, .int .i64 nb, .string z, .slice da dn dc] (by rfl) (by rfl) (World.news_of_block (cs := #[.int .i64 p, .int .i64 k, .int .i64 p, .int .i64 na, .int .i64 nb, .string z, .slice da dn dc]) (t := 100) (fr := (0, 0)) (heap_new' _ _ _ (by simp))) (by simp [Value.oneCell'])
        (by decide) (by unfold maxLen; omega) (by omega) (by simp; omega) (w.heap.size + 2) (by simp) ?_; intro g' cap' w1 hown1 hgrow hat hlt'; obtain ⟨k1, k2⟩ := aftGrow (w := w) (by repeat (first | exact Below.refl _ _ | refine Below.drew ?_ | refine Below.alloc ?_ (by simp <;> omega) _)) c0 fz hgrow ag))
  all_goals
    have hs : (w1.setCell ⟨r, 1, none⟩ (.slice (some ⟨g', 0, none⟩) (N.length + 1) cap')).cell? ⟨r, 1, none⟩ = some (.slice (some ⟨g', 0, none⟩) (N.length + 1) cap') := World.cell?_setCell_same' _ _ _ (by rw [k1]; rfl)
    have R : Hid (AddK B r 1 100 7 (.slice aD N.length cD) (N ++ [((⟨k, p, na, nb, z, dl⟩ : Cor), Value.slice da dn dc)]).length (cellsNC (N ++ [((⟨k, p, na, nb, z, dl⟩ : Cor), Value.slice da dn dc)])) w (w1.setCell ⟨r, 1, none⟩ (.slice (some ⟨g', 0, none⟩) (N.length + 1) cap'))) := by
      refine ⟨_, w1, g', cap', ?_, hgrow, ?_, ?_, ?_⟩
      · repeat (first | exact Below.refl _ _ | refine Below.drew ?_ | refine Below.alloc ?_ (by simp <;> omega) _)
      · rw [cellsNC_append, List.length_append]; exact hown1
      · rcases hat with h | h
        · exact .inl h
        · right; simp; omega
      · rw [List.length_append]; rfl
    clear hgrow hown1 hat k1 k2
    go_wp2_with ((go_at_call 54; refine (size_atX _ _ _ _ _ hs).mono ?_; rintro e w' ⟨rfl, rfl⟩))
    go_ret
    exact ⟨by simp, R.out⟩
end Go.Proofs.YtfdkklhigliciaaGreatDoor
