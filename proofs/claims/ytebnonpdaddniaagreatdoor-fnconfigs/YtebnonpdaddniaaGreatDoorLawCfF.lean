/-
  The exact law of ConfigFault answers true at every setting; nothing that was there is turned.
-/
import Derived.Test.YtebnonpdaddniaaGreatDoorStConf
namespace Go.Proofs.YtebnonpdaddniaaGreatDoor
open Go.RowKit Go.Extern.Stop Go.Stop Go.Extern Num Go.Lib

set_option maxHeartbeats 1500000 in
theorem implCfF_any (s t : Int) (p c : Bool) (w : World) :
    Calls Tryz.prog 15 #[cfV s t p c] w fun e w' => e = .returned (.int .i64 (cfF s t)) ∧ Below w.heap.size w w' := by
  have HS : Hid (∀ u, Calls Tryz.prog 46 #[cfV s t p c] u fun e w' => e = .returned (.tuple #[seV s t, .int .i64 (cfF s t)]) ∧ Below u.heap.size u w') := fun u => settingOf_any s t p c u
  generalize cfF s t = F at HS ⊢
  generalize seV s t = Z at HS
  go_enter Tryz.func15, Tryz.ntmps15
  go_wp2_with fail
  refine (HS.out _).mono ?_
  rintro e w2 ⟨rfl, b2⟩
  have HB2 : Hid (Below w.heap.size w w2) := (bnewC w _).trans (b2.mono (by simp))
  clear b2
  go_wp2
  go_ret
  exact ⟨rfl, HB2.out⟩
end Go.Proofs.YtebnonpdaddniaaGreatDoor
