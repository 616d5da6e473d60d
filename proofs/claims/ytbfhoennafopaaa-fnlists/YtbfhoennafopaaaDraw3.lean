/-
  The model's draws of two numbers, and the laws' bound on their code: each answers, and turns nothing that was there.
-/
import Derived.Test.YtbfhoennafopaaaFlB
namespace Go.Proofs.Ytbfhoennafopaaa
open Go.RowKit Go.Extern.Stop Go.Stop Go.Extern Num

theorem big_any (w : World) (ca : Option Addr) (len cap : Nat) :
    Calls Try.prog 6 #[.slice ca len cap] w fun e w' => ∃ t : Bool, e = .returned (.bool t) ∧ w' = w := by
  go_enter Try.func6, Try.ntmps6
  go_wp2
  go_ret
  exact ⟨_, rfl, rfl⟩
end Go.Proofs.Ytbfhoennafopaaa
