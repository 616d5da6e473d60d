/-
  The model's draws of two numbers, and the laws' bound on their code: each answers, and turns nothing that was there.
-/
import Derived.Test.YtlamkbggfbancaaGreatDoorDraw2
namespace Go.Proofs.YtlamkbggfbancaaGreatDoor
open Go.RowKit Go.Extern.Stop Go.Stop Go.Extern Num

theorem big_any (w : World) (ca : Option Addr) (len cap : Nat) :
    Calls Tryz.prog 4 #[.slice ca len cap] w fun e w' => ∃ t : Bool, e = .returned (.bool t) ∧ w' = w := by
  go_enter Tryz.func4, Tryz.ntmps4
  go_wp2
  go_ret
  exact ⟨_, rfl, rfl⟩
end Go.Proofs.YtlamkbggfbancaaGreatDoor
