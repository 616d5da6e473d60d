/-
  The library's strings.Clone: the same text, in new memory.
-/
import Derived.Test.YtkdhmijebkhmaaaDoorSpecNum
import Derived.Test.YtkdhmijebkhmaaaDoorShelfStr
namespace Go.Proofs.YtkdhmijebkhmaaaDoor
open Go.RowKit Go.Extern.Stop Go.Stop Go.Extern Num Go.Lib

theorem clone_any (s : ByteArray) (w : World) (hs : s.size ≤ 281474976710656) :
    Calls Tryd.prog 57 #[.string s] w fun e w' => e = .returned (.string s) ∧ Below w.heap.size w w' := by
  go_enter Tryd.func57, Tryd.ntmps57
  go_wp2_with (go_at_call 63; refine (Tryd.stringslite_Clone s _ hs).mono ?_; rintro e w1 ⟨rfl, hq⟩)
  go_ret
  exact ⟨rfl, hq⟩
end Go.Proofs.YtkdhmijebkhmaaaDoor
