/-
  The laws' eqTextResult at one answer twice: true.
-/
import Derived.Test.YtoafolefecddmaaDoorDigits
namespace Go.Proofs.YtoafolefecddmaaDoor
open Go.RowKit Go.Extern.Stop Go.Stop Go.Extern Num Go.Lib

theorem eqText_same (c : Int) (x : ByteArray) (w : World) :
    Calls Tryd.prog 7 #[.agg #[.int .i64 c, .string x], .agg #[.int .i64 c, .string x]] w fun e w' => e = .returned (.bool true) ∧ Below w.heap.size w w' := by
  go_enter Tryd.func7, Tryd.ntmps7
  go_wp2
  go_ret
  refine ⟨rfl, ?_⟩
  repeat (first | exact Below.refl _ _ | refine Below.alloc ?_ (by simp <;> omega) _ | refine Below.drew ?_)
end Go.Proofs.YtoafolefecddmaaDoor
