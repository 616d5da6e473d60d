/-
  The exact law of SpotOf answers true at every text, in every world in which the listed variables hold what the program's text lays; nothing that was there is turned.
-/
import Derived.Test.YtnlfnicgfhfpfaaDoorImplOf
namespace Go.Proofs.YtnlfnicgfhfpfaaDoor
open Go.RowKit Go.Extern.Stop Go.Stop Go.Extern Num Go.Lib

theorem eqIR_same (c v : Int) (w : World) :
    Calls Tryd.prog 24 #[IR c v, IR c v] w fun e w' => e = .returned (.bool true) ∧ Below w.heap.size w w' := by
  go_enter Tryd.func24, Tryd.ntmps24
  go_wp2
  go_ret
  refine ⟨rfl, ?_⟩
  repeat (first | exact Below.refl _ _ | refine Below.setCell ?_ (by simp) _ | refine Below.alloc ?_ (by simp <;> omega) _ | refine Below.drew ?_)

theorem lawSpot_long (s : ByteArray) (w : World) (h : 1048576 < (s.size : Int)) :
    Calls Tryd.prog 6 #[.string s] w fun e w' => e = .returned (.bool true) ∧ Below w.heap.size w w' := by
  go_enter Tryd.func6, Tryd.ntmps6
  go_wp2
  go_ret
  exact ⟨rfl, Below.refl _ _⟩
theorem lawSpot_of (s : ByteArray) (c v : Int) (w : World) (hL : LR w) (h : ¬ 1048576 < (s.size : Int))
    (hs : ∀ w, Calls Tryd.prog 22 #[.string s] w fun e w' => e = .returned (IR c v) ∧ Below w.heap.size w w')
    (hi : ∀ w, LR w → Calls Tryd.prog 23 #[.string s] w fun e w' => e = .returned (IR c v) ∧ Below w.heap.size w w') :
    Calls Tryd.prog 6 #[.string s] w fun e w' => e = .returned (.bool true) ∧ Below w.heap.size w w' := by
  have HS : Hid (∀ w, Calls Tryd.prog 22 #[.string s] w fun e w' => e = .returned (IR c v) ∧ Below w.heap.size w w') := hs
  have HI : Hid (∀ w, LR w → Calls Tryd.prog 23 #[.string s] w fun e w' => e = .returned (IR c v) ∧ Below w.heap.size w w') := hi
  clear hs hi
  go_enter Tryd.func6, Tryd.ntmps6
  go_wp2_with fail
  refine (HS.out _).mono ?_
  rintro e w1 ⟨rfl, h1⟩
  go_wp2_with fail
  refine (HI.out _ ((hL.below h1).alloc _)).mono ?_
  rintro e w2 ⟨rfl, h2⟩
  obtain ⟨hc, hf⟩ := bcell h2
  have hz : w1.heap.size < w2.heap.size := by have := h2.size; simp at this; omega
  go_wp2_with (go_at_call 24; refine (eqIR_same _ _ _).mono ?_; rintro e w3 ⟨rfl, h3⟩)
  go_ret
  refine ⟨rfl, ?_⟩
  have s1 := h1.size
  have s2 : w1.heap.size + 1 ≤ w2.heap.size := hz
  refine Below.trans ?_ (h3.mono (by simp; omega))
  refine Below.alloc ?_ (by omega) _
  refine Below.trans ?_ (h2.mono (by simp; omega))
  exact Below.alloc h1 (by omega) _
theorem lawSpot_any (s : ByteArray) (w : World) (hL : LR w) :
    Calls Tryd.prog 6 #[.string s] w fun e w' => e = .returned (.bool true) ∧ Below w.heap.size w w' := by
  by_cases hl : 1048576 < (s.size : Int)
  · exact lawSpot_long s w hl
  · obtain ⟨c, a, l, h⟩ := tof_total s
    exact lawSpot_of s _ _ w hL hl (fun w => specSpot_any s w c a l h) (fun w hL => implSpot_any s w c a l h hL)
end Go.Proofs.YtnlfnicgfhfpfaaDoor
