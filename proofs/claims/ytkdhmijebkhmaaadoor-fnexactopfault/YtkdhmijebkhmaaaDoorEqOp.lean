/-
  The laws' eqOp and eqOpS at two that are the same: true; nothing that was there is turned.
-/
import Derived.Test.YtkdhmijebkhmaaaDoorStOp
namespace Go.Proofs.YtkdhmijebkhmaaaDoor
open Go.RowKit Go.Extern.Stop Go.Stop Go.Extern Num Go.Lib

theorem eqOp_same (t : Opr) (g1 g2 b1 b2 : Nat) (w : World) (hl : t.data.length ≤ 1048576) (h1 : IsD w b1 g1 t.data.length t.data) (h2 : IsD w b2 g2 t.data.length t.data) :
    Calls Tryd.prog 8 #[t.val (.slice (some ⟨g1, 0, none⟩) t.data.length t.data.length), t.val (.slice (some ⟨g2, 0, none⟩) t.data.length t.data.length)] w fun e w' => e = .returned (.bool true) ∧ Below w.heap.size w w' := by
  have HS : Hid (∀ u, Below w.heap.size w u → Calls Tryd.prog 19 #[.slice (some ⟨g1, 0, none⟩) t.data.length t.data.length, .slice (some ⟨g2, 0, none⟩) t.data.length t.data.length] u fun e w' => e = .returned (.bool true) ∧ Below u.heap.size u w') := fun u hu => eqDS_same _ _ b1 b2 t.data u hl (h1.below hu) (h2.below hu)
  clear h1 h2 hl
  go_enter Tryd.func8, Tryd.ntmps8
  go_wp2_with fail
  refine (HS.out _ (by repeat (first | exact Below.refl _ _ | refine Below.alloc ?_ (by simp <;> omega) _ | refine Below.drew ?_))).mono ?_
  rintro e w1 ⟨rfl, b1⟩
  have HB : Hid (Below w.heap.size w w1) := Below.trans (by repeat (first | exact Below.refl _ _ | refine Below.alloc ?_ (by simp <;> omega) _ | refine Below.drew ?_)) (b1.mono (by simp <;> omega))
  clear b1
  go_wp2
  go_ret
  exact ⟨rfl, HB.out⟩
end Go.Proofs.YtkdhmijebkhmaaaDoor
