/-
  The exact law of TableFault answers true at every number; nothing that was there is turned.
-/
import Derived.Test.YtebnonpdaddniaaGreatDoorRows
import Derived.WalkKit
import Derived.ProofKit
import Derived.Below
import Derived.Lib.SmallJoins
namespace Go.Proofs.YtebnonpdaddniaaGreatDoor
open Go.RowKit

theorem l1InT_any (x a b : Int) (w : World) : Calls Tryz.prog 98 #[.int .i64 x, .int .i64 a, .int .i64 b] w fun e w' => e = .returned (.bool (decide (a ≤ x) && decide (x ≤ b))) ∧ w' = w := by
  by_cases h1 : a ≤ x <;> by_cases h2 : x ≤ b <;> (go_enter Tryz.func98, Tryz.ntmps98; go_wp2; go_ret; exact ⟨by simp [h1, h2], rfl⟩)
def tabF (x : Int) : Int := if x < 0 ∨ 15 < x then 3 else 0
theorem l11Table_any (x : Int) (w : World) : Calls Tryz.prog 90 #[.int .i64 x] w fun e w' => e = .returned (.bool (decide (0 ≤ x) && decide (x ≤ 15))) ∧ w' = w := by
  go_enter Tryz.func90, Tryz.ntmps90
  go_wp2_with (go_at_call 98; refine (l1InT_any _ _ _ _).mono ?_; rintro e w' ⟨rfl, hw'⟩; replace hw' := hw'.symm; subst hw')
  go_ret
  exact ⟨rfl, rfl⟩
theorem implTb_any (x : Int) (w : World) : Calls Tryz.prog 84 #[.int .i64 x] w fun e w' => e = .returned (.int .i64 (tabF x)) ∧ w' = w := by
  by_cases h1 : x < 0
  · have HE : Hid (tabF x = 3) := by show _ = _; unfold tabF; rw [if_pos (.inl h1)]
    go_enter Tryz.func84, Tryz.ntmps84
    go_wp2
    go_ret
    exact ⟨by rw [HE.out]; rfl, rfl⟩
  by_cases h2 : 15 < x
  · have HE : Hid (tabF x = 3) := by show _ = _; unfold tabF; rw [if_pos (.inr h2)]
    go_enter Tryz.func84, Tryz.ntmps84
    go_wp2
    go_ret
    exact ⟨by rw [HE.out]; rfl, rfl⟩
  · have HE : Hid (tabF x = 0) := by show _ = _; unfold tabF; rw [if_neg (by omega)]
    go_enter Tryz.func84, Tryz.ntmps84
    go_wp2
    go_ret
    exact ⟨by rw [HE.out]; rfl, rfl⟩
end Go.Proofs.YtebnonpdaddniaaGreatDoor
