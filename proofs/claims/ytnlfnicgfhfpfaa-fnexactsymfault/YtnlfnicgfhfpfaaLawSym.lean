/-
  The exact law of SymFault answers true at every text.
-/
import Derived.Test.YtnlfnicgfhfpfaaSpecSymF
import Derived.Test.YtnlfnicgfhfpfaaImplSym
namespace Go.Proofs.Ytnlfnicgfhfpfaa
open Go.RowKit Go.Extern.Stop Go.Stop Go.Extern Num

theorem lawSym_any (s : ByteArray) (w : World) (hs : s.size ≤ 9223372036854775807) :
    Calls Try.prog 3 #[.string s] w fun e w' => e = .returned (.bool true) ∧ w' = w := by
  have H1 : Hid (∀ w, Calls Try.prog 4 #[.string s] w fun e w' => e = .returned (.int .i64 (if symL s.data.toList = true then 0 else 5)) ∧ w' = w) := fun w => specSym_any s w hs
  have H2 : Hid (∀ w, Calls Try.prog 5 #[.string s] w fun e w' => e = .returned (.int .i64 (if symL s.data.toList = true then 0 else 5)) ∧ w' = w) := fun w => implSym_any s w hs
  by_cases h : 1048576 < (s.size : Int)
  · go_enter Try.func3, Try.ntmps3
    go_wp2
    go_ret
    exact ⟨rfl, rfl⟩
  · go_enter Try.func3, Try.ntmps3
    go_wp2_with (first | (go_at_call 4; refine (H1.out _).mono ?_; rintro e w' ⟨rfl, rfl⟩) | (go_at_call 5; refine (H2.out _).mono ?_; rintro e w' ⟨rfl, rfl⟩))
    all_goals
      go_ret
      exact ⟨rfl, rfl⟩
end Go.Proofs.Ytnlfnicgfhfpfaa
