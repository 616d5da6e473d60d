/-
  The model's SymFault answers what the plain function tells, whatever the world; nothing is turned.
-/
import Derived.Test.YtnlfnicgfhfpfaaDoorSpecSym
namespace Go.Proofs.YtnlfnicgfhfpfaaDoor
open Go.RowKit Go.Extern.Stop Go.Stop Go.Extern Num

theorem specSym_any (s : ByteArray) (w : World) (hs : s.size ≤ 9223372036854775807) :
    Calls Tryd.prog 46 #[.string s] w fun e w' => e = .returned (.int .i64 (if symL s.data.toList = true then 0 else 5)) ∧ w' = w := by
  have HS : Hid (∀ w, Calls Tryd.prog 56 #[.string s] w fun e w' => e = .returned (.bool (symL s.data.toList)) ∧ w' = w) := fun w => sym_any s w hs
  cases h : symL s.data.toList
  all_goals
    go_enter Tryd.func46, Tryd.ntmps46
    go_wp2_with (go_at_call 56; refine (HS.out _).mono ?_; rintro e w' ⟨rfl, rfl⟩)
    go_ret
    exact ⟨by simp, rfl⟩
end Go.Proofs.YtnlfnicgfhfpfaaDoor
