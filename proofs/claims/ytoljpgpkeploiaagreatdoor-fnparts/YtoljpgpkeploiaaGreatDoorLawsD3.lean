/-
  The exact law of WriteData answers true at every slice of data, if the program's own function answers what the plain one tells; nothing that was there is turned.
-/
import Derived.Test.YtoljpgpkeploiaaGreatDoorFpL
import Derived.Test.YtoljpgpkeploiaaGreatDoorOpDatum
import Derived.Test.YtoljpgpkeploiaaGreatDoorEqText
namespace Go.Proofs.YtoljpgpkeploiaaGreatDoor
open Go.RowKit Go.Extern.Stop Go.Stop Go.Extern Num Go.Lib

theorem WD_form (l : List Dat) : ∃ c x, WD l = .agg #[.int .i64 c, .string x] := by
  unfold WD
  split
  · split
    · exact ⟨_, _, rfl⟩
    · exact ⟨_, _, rfl⟩
  · exact ⟨_, _, rfl⟩
end Go.Proofs.YtoljpgpkeploiaaGreatDoor
