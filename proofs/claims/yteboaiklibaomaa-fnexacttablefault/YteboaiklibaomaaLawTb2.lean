/-
  The exact law of TableFault answers true at every number; nothing that was there is turned.
-/
import Derived.Test.YteboaiklibaomaaLawTb
namespace Go.Proofs.Yteboaiklibaomaa
open Go.RowKit

theorem lawTb_any (w : World) (x : Int) : Calls Try.prog 3 #[.int .i64 x] w fun e w' => e = .returned (.bool true) ∧ Below w.heap.size w w' := by
  obtain ⟨c, hc⟩ : ∃ c, c = tabF x := ⟨_, rfl⟩
  have HC : Hid (tabF x = c) := hc.symm
  clear hc
  go_enter Try.func3, Try.ntmps3
  go_wp2_with (first
    | (go_at_call 4; refine (specTb_any _ _).mono ?_; rintro e w' ⟨rfl, hw'⟩; replace hw' := hw'.symm; subst hw'; rw [HC.out])
    | (go_at_call 5; refine (implTb_any _ _).mono ?_; rintro e w' ⟨rfl, hw'⟩; replace hw' := hw'.symm; subst hw'; rw [HC.out]))
  go_ret
  exact ⟨rfl, Below.refl _ _⟩
end Go.Proofs.Yteboaiklibaomaa
