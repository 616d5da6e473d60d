/-
  A slice of texts that came in, opened: what lies where it leads.
-/
import Derived.Test.YtgfienijabkpjaaStStr
import Derived.OpenShut
import Derived.WalkKit
import Derived.Deep.Slices
import Derived.Deep.Strs
import Derived.Lib.SmallJoins
namespace Go.Proofs.Ytgfienijabkpjaa
open Go.ChangeShapes Go.WideShapes Go.ChangeAt Go.RowKit

theorem cellsST : Try.prog.cellsOf 9 = 1 := by kernel_rfl
theorem chooseT (n : Nat) {p : Nat → ByteArray → Prop} (h : ∀ i, i < n → ∃ t, p i t) : ∃ f : Nat → ByteArray, ∀ i, i < n → p i (f i) := by
  classical
  refine ⟨fun i => if hi : i < n then Classical.choose (h i hi) else ⟨#[]⟩, fun i hi => ?_⟩
  simp only [dif_pos hi]
  exact Classical.choose_spec (h i hi)
set_option maxRecDepth 100000 in
theorem memT_of_trod {H : Type} {enc : TypeId × Value → H} {W : World} {base : Nat} {sp : Nat → Bool} {held : Bool} {a0 : Option Addr} {len0 cap0 : Nat} {d0 : DataW H} {p0 : List MemPlace}
    (h0 : DataW.Trod enc Try.prog W base sp held 57 (.slice a0 len0 cap0) d0 p0) : ∃ l : List ByteArray, len0 = l.length ∧ MemT W a0 l ∧ len0 ≤ 9223372036854775807 ∧ ∀ (k : Nat) (h : k < l.length), l[k].size ≤ 9223372036854775807 := by
  obtain ⟨fuel, hf⟩ := h0
  rcases Deep.open_slice Try.underlying57 hf with ⟨hcs, _⟩ | ⟨a, len, cap, m, n, D, Pl, hcs, _, hle, hmax, hm, _, hel⟩
  · simp [Value.cells] at hcs
    obtain ⟨rfl, rfl, rfl⟩ := hcs
    exact ⟨[], rfl, fun h => by simp at h, by omega, fun k h => by simp at h⟩
  · simp [Value.cells] at hcs
    obtain ⟨rfl, rfl, rfl⟩ := hcs
    have hlm : len0 ≤ m := by rw [hm]; split <;> omega
    unfold maxLen at hmax
    rw [cellsST] at hel
    have key : ∀ i, i < len0 → ∃ t : ByteArray, W.cell? (a.add (i * 1)) = some (.string t) ∧ t.size ≤ maxLen := by
      intro i hi
      obtain ⟨cs', hc, ht⟩ := hel i (by omega)
      obtain ⟨v3, hv3, _, hs⟩ := DataW.trod_string Try.underlying9 ht
      subst hv3
      obtain ⟨_, _, hcell⟩ := World.cells?_some hc
      have h0 := hcell 0 (by omega)
      exact ⟨v3, by simpa [Addr.add] using h0, hs⟩
    obtain ⟨f, hf⟩ := chooseT len0 key
    refine ⟨(List.range len0).map f, by simp, ?_, by omega, ?_⟩
    · intro hpos
      have hpos' : 0 < len0 := by simpa using hpos
      obtain ⟨b, off, spot⟩ := a
      have hspot : spot = none := by simpa [Addr.add] using World.cell?_spot (hf 0 hpos').1
      subst hspot
      refine ⟨b, off, rfl, fun k hk => ?_⟩
      have hk' : k < len0 := by simpa using hk
      obtain ⟨e0, _⟩ := hf k hk'
      have ha : ∀ j, (⟨b, off, none⟩ : Addr).add j = ⟨b, off + j, none⟩ := fun j => by unfold Addr.add; split <;> simp_all
      rw [ha, Nat.mul_one] at e0
      simp only [List.getElem_map, List.getElem_range]
      exact e0
    · intro k hk
      have hk' : k < len0 := by simpa using hk
      have := (hf k hk').2
      unfold maxLen at this
      simp only [List.getElem_map, List.getElem_range]
      omega
end Go.Proofs.Ytgfienijabkpjaa
