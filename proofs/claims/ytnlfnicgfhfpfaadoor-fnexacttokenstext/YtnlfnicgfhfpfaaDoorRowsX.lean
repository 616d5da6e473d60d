/-
  A slice of tokens that came in, opened: the tokens that lie where it leads.
-/
import Derived.Test.YtnlfnicgfhfpfaaDoorRowsT
import Derived.Test.YtnlfnicgfhfpfaaDoorSliceTok
import Derived.Deep.Slices
namespace Go.Proofs.YtnlfnicgfhfpfaaDoor
open Go.ChangeShapes Go.WideShapes Go.ChangeAt Go.RowKit Go.Lib

theorem tok_choose (n : Nat) {p : Nat → Tok → Prop} (h : ∀ i, i < n → ∃ t, p i t) : ∃ f : Nat → Tok, ∀ i, i < n → p i (f i) := by
  classical
  refine ⟨fun i => if hi : i < n then Classical.choose (h i hi) else ⟨0, 0, ⟨#[]⟩⟩, fun i hi => ?_⟩
  simp only [dif_pos hi]
  exact Classical.choose_spec (h i hi)
set_option maxRecDepth 100000 in
theorem toks_of_trod {H : Type} {enc : TypeId × Value → H} {W : World} {base : Nat} {sp : Nat → Bool} {held : Bool} {a0 : Option Addr} {len0 cap0 : Nat} {d0 : DataW H} {p0 : List MemPlace}
    (h0 : DataW.Trod enc Tryd.prog W base sp held 39 (.slice a0 len0 cap0) d0 p0) : ∃ l : List Tok, len0 = l.length ∧ Toks W a0 l ∧ len0 ≤ 9223372036854775807 ∧ ∀ (k : Nat) (h : k < l.length), l[k].name.size ≤ 9223372036854775807 := by
  obtain ⟨fuel, hf⟩ := h0
  rcases Deep.open_slice Tryd.underlying39 hf with ⟨hcs, _⟩ | ⟨a, len, cap, m, n, D, Pl, hcs, _, hle, hmax, hm, _, hel⟩
  · simp [Value.cells] at hcs
    obtain ⟨rfl, rfl, rfl⟩ := hcs
    exact ⟨[], rfl, fun h => by simp at h, by omega, fun k h => by simp at h⟩
  · simp [Value.cells] at hcs
    obtain ⟨rfl, rfl, rfl⟩ := hcs
    have hlm : len0 ≤ m := by rw [hm]; split <;> omega
    unfold maxLen at hmax
    rw [cellsLTok] at hel
    have key : ∀ i, i < len0 → ∃ t : Tok, W.cell? (a.add (i * 3)) = some (.int .i64 t.kind) ∧ W.cell? ((a.add (i * 3)).add 1) = some (.int .i64 t.num) ∧ W.cell? ((a.add (i * 3)).add 2) = some (.string t.name) ∧ t.name.size ≤ maxLen := by
      intro i hi
      obtain ⟨cs', hc, ht⟩ := hel i (by omega)
      obtain ⟨t, rfl, hs⟩ := tok_of_trod ht
      obtain ⟨_, _, hcell⟩ := World.cells?_some hc
      have h0 := hcell 0 (by omega)
      have h1 := hcell 1 (by omega)
      have h2 := hcell 2 (by omega)
      exact ⟨t, by simpa [Addr.add, Tok.cells] using h0, by simpa [Tok.cells] using h1, by simpa [Tok.cells] using h2, hs⟩
    obtain ⟨f, hf⟩ := tok_choose len0 key
    refine ⟨(List.range len0).map f, by simp, ?_, by omega, ?_⟩
    · intro hpos
      have hpos' : 0 < len0 := by simpa using hpos
      obtain ⟨b, off, spot⟩ := a
      have hspot : spot = none := by simpa [Addr.add] using World.cell?_spot (hf 0 hpos').1
      subst hspot
      refine ⟨b, off, rfl, fun k hk => ?_⟩
      have hk' : k < len0 := by simpa using hk
      obtain ⟨e0, e1, e2, _⟩ := hf k hk'
      have ha : ∀ j, (⟨b, off, none⟩ : Addr).add j = ⟨b, off + j, none⟩ := fun j => by unfold Addr.add; split <;> simp_all
      rw [Deep.add_add, ha] at e1 e2
      rw [ha] at e0
      simp only [List.getElem_map, List.getElem_range]
      exact ⟨e0, e1, e2⟩
    · intro k hk
      have hk' : k < len0 := by simpa using hk
      have := (hf k hk').2.2.2
      unfold maxLen at this
      simp only [List.getElem_map, List.getElem_range]
      omega
end Go.Proofs.YtnlfnicgfhfpfaaDoor
