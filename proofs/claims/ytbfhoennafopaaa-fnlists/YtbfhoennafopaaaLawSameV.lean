/-
  SameValues of the model and of the program: whether two values are the same; the exact law answers true at every two values; nothing that was there is turned.
-/
import Derived.Test.YtbfhoennafopaaaVBox
import Derived.Test.YtbfhoennafopaaaRegion
namespace Go.Proofs.Ytbfhoennafopaaa
open Go.RowKit Go.Extern.Stop Go.Stop Go.Extern Num Go.Lib

def eqVB (a b : Vlu) : Bool := a.kind == b.kind && (a.num == b.num && (a.name.toList == b.name.toList))
set_option maxHeartbeats 1000000 in
theorem implSV_any (a b : Vlu) (w : World) :
    Calls Try.prog 11 #[a.val, b.val] w fun e w' => e = .returned (.bool (eqVB a b)) ∧ Below w.heap.size w w' := by
  have HQ : Hid (eqVB a b = (a.kind == b.kind && (a.num == b.num && (a.name.toList == b.name.toList)))) := rfl
  rw [HQ.out]
  clear HQ
  cases e0 : (a.kind == b.kind) <;> cases e1 : (a.num == b.num) <;> cases e2 : (a.name.toList == b.name.toList)
  all_goals
    go_enter Try.func11, Try.ntmps11
    go_wp2
    go_ret
    refine ⟨rfl, ?_⟩
    repeat (first | exact Below.refl _ _ | refine Below.alloc ?_ (by simp <;> omega) _ | refine Below.drew ?_)
end Go.Proofs.Ytbfhoennafopaaa
