/-
  The model's SymFault answers what the plain function tells, whatever the world; nothing is turned.
-/
import Derived.Test.YtnlfnicgfhfpfaaGreatDoorSpecSym
namespace Go.Proofs.YtnlfnicgfhfpfaaGreatDoor
open Go.RowKit Go.Extern.Stop Go.Stop Go.Extern Num

theorem specSym_any (s : ByteArray) (w : World) (hs : s.size ≤ 9223372036854775807) :
    Calls Tryz.prog 43 #[.string s] w fun e w' => e = .returned (.int .i64 (if symL s.data.toList = true then 0 else 5)) ∧ w' = w := by
  have HS : Hid (∀ w, Calls Tryz.prog 51 #[.string s] w fun e w' => e = .returned (.bool (symL s.data.toList)) ∧ w' = w) := fun w => sym_any s w hs
  cases h : symL s.data.toList
  all_goals
    go_enter Tryz.func43, Tryz.ntmps43
    go_wp2_with (go_at_call 51; refine (HS.out _).mono ?_; rintro e w' ⟨rfl, rfl⟩)
    go_ret
    exact ⟨by simp, rfl⟩
end Go.Proofs.YtnlfnicgfhfpfaaGreatDoor
