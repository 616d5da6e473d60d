/-
  A slice of bytes that came in, as the walks of the laws take it (where the row lists no variable).
-/
import Derived.Test.YtebnonpdaddniaaGreatDoorRows
import Derived.WalkKit
import Derived.ProofKit
import Derived.Test.YtebnonpdaddniaaGreatDoorDrawBase
import Derived.ChangeOld
import Derived.OpenShut
namespace Go.Proofs.YtebnonpdaddniaaGreatDoor
open Go.ChangeShapes Go.WideShapes Go.ChangeAt Go.RowKit

theorem laidOut : laidOutB Tryz.prog = true := by kernel_rfl
theorem cellsU8B : Tryz.prog.cellsOf 5 = 1 := by kernel_rfl
/-- The bytes that lie where a slice of them leads. -/
theorem bytes_of_trod {H : Type} {enc : TypeId × Value → H} {W : World} {base : Nat} {sp : Nat → Bool} {held : Bool} {a0 : Option Addr} {len0 cap0 : Nat} {d0 : DataW H} {p0 : List MemPlace}
    (h0 : DataW.Trod enc Tryz.prog W base sp held 22 (.slice a0 len0 cap0) d0 p0) : Bytes W a0 len0 ∧ (len0 : Int) ≤ 9223372036854775807 := by
  obtain ⟨fuel, hf⟩ := h0
  rcases open_ints Tryz.underlying22 Tryz.underlying5 cellsU8B hf with ⟨hcs, _⟩ | ⟨x, l, c, zs, hcs, _, hl, hm, hz, _, hcell, hwz⟩
  · simp [Value.cells] at hcs
    obtain ⟨rfl, rfl, rfl⟩ := hcs
    exact ⟨fun h => by omega, by omega⟩
  · simp [Value.cells] at hcs
    obtain ⟨rfl, rfl, rfl⟩ := hcs
    unfold maxLen at hm
    refine ⟨fun h => ?_, by omega⟩
    have hlen : len0 ≤ zs.length := by
      rw [hz]; split <;> omega
    obtain ⟨b, off, rfl, hc⟩ := _root_.Go.ints_at hcell (by omega)
    refine ⟨b, off, rfl, fun j hj => ?_⟩
    have hj' : j < zs.length := by omega
    have hwf := hwz (zs.getD j 0) (by rw [List.getD_eq_getElem?_getD, List.getElem?_eq_getElem hj']; exact List.getElem_mem hj')
    have hb := bounds_u8 hwf
    exact ⟨zs.getD j 0, hc j hj', hb.1, hb.2⟩
end Go.Proofs.YtebnonpdaddniaaGreatDoor
