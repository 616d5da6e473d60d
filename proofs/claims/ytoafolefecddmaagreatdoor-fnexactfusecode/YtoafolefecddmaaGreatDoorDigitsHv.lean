/-
  Parts of the proof laid into one text, one behind the other: Digits. Contracts of the program's and the model's functions, and what they are proved of, as their theorems say.
-/
import Derived.Test.YtoafolefecddmaaGreatDoorUiA
import Derived.WalkLawsBesides
import Derived.Laws.IdiomStrings
import Derived.Deep.RegionWith
import Derived.BigRegion
namespace Go.Proofs.YtoafolefecddmaaGreatDoor
open Go.RowKit Go.Extern.Stop Go.Stop Go.Extern Num Go.Lib
abbrev S (l : List UInt8) : Value := .string ⟨l.toArray⟩
def digB (d : Nat) : UInt8 := UInt8.ofNat (48 + d)
theorem conv_one (d : Nat) (hd : d < 10) (W : World) (b : Nat) (x : Int) (hx : x = 48 + (d : Int)) (hc : W.cell? ⟨b, 0, none⟩ = some (.int .u8 x)) :
    (convert 22 9 (.slice (some ⟨b, 0, none⟩) 1 1)).run Tryz.prog W = .ok (S [digB d]) W := by
  have := run_convert_bytes_back (P := Tryz.prog) W 22 9 5 ⟨b, 0, none⟩ 1 [digB d] Tryz.underlying22 Tryz.underlying5 Tryz.underlying9 (by
    intro j hj
    have hj0 : j = 0 := by simpa using hj
    subst hj0
    have e : (digB d).toNat = 48 + d := by unfold digB; simp [UInt8.toNat_ofNat']; omega
    simp only [List.getElem_cons_zero, e]
    show W.cell? ⟨b, 0, none⟩ = _
    rw [hc, hx]; simp)
  simpa using this
theorem dig_step (u q r : Nat) (hu : ¬ u < 10) (hq : q = u / 10) (hr : r = u % 10) : decDigits q ++ [digB r] = decDigits u := by
  subst hq; subst hr
  conv => rhs; rw [decDigits, dif_neg hu]
  rfl
end Go.Proofs.YtoafolefecddmaaGreatDoor
