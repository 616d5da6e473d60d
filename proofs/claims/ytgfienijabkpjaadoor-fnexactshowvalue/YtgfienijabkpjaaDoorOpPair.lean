/-
  A slice of Pair that came in, opened: what lies where it leads.
-/
import Derived.Test.YtgfienijabkpjaaDoorStPair
import Derived.Test.YtgfienijabkpjaaDoorOpValue
import Derived.OpenShut
import Derived.WalkKit
import Derived.Deep.Slices
import Derived.Deep.Strs
import Derived.Lib.SmallJoins
namespace Go.Proofs.YtgfienijabkpjaaDoor
open Go.ChangeShapes Go.WideShapes Go.ChangeAt Go.RowKit

theorem cellsLP : Tryd.prog.cellsOf 80 = 6 := by kernel_rfl
set_option maxRecDepth 100000 in
/-- The cells of one, as they are read. -/
theorem oneP_of_trod {H : Type} {enc : TypeId × Value → H} {W : World} {base : Nat} {sp : Nat → Bool} {held : Bool} {n : Nat} {cs : List Value} {x : DataW H × List MemPlace}
    (h : DataW.trod enc Tryd.prog W base sp held n 80 cs = some x) : ∃ t : Pai, cs = t.cells ∧ t.head.name.size ≤ maxLen ∧ t.tail.name.size ≤ maxLen := by
  obtain ⟨y0, y1, m, _, hl, t0, t1⟩ := trod_struct2 Tryd.underlying80 h
  rw [cellsLP] at hl
  match cs, hl with
  | [c0, c1, c2, c3, c4, c5], _ =>
    simp only [cellsLV, List.drop, List.take] at t0 t1
    obtain ⟨a, ha, hm⟩ := oneV_of_trod t0
    obtain ⟨b, hb, hm2⟩ := oneV_of_trod t1
    simp only [Vlu.cells, List.cons.injEq, and_true] at ha hb
    obtain ⟨rfl, rfl, rfl⟩ := ha
    obtain ⟨rfl, rfl, rfl⟩ := hb
    exact ⟨⟨a, b⟩, rfl, hm, hm2⟩
theorem chooseP (n : Nat) {p : Nat → Pai → Prop} (h : ∀ i, i < n → ∃ t, p i t) : ∃ f : Nat → Pai, ∀ i, i < n → p i (f i) := by
  classical
  refine ⟨fun i => if hi : i < n then Classical.choose (h i hi) else ⟨⟨0, 0, ⟨#[]⟩⟩, ⟨0, 0, ⟨#[]⟩⟩⟩, fun i hi => ?_⟩
  simp only [dif_pos hi]
  exact Classical.choose_spec (h i hi)
set_option maxRecDepth 100000 in
theorem memP_of_trod {H : Type} {enc : TypeId × Value → H} {W : World} {base : Nat} {sp : Nat → Bool} {held : Bool} {a0 : Option Addr} {len0 cap0 : Nat} {d0 : DataW H} {p0 : List MemPlace}
    (h0 : DataW.Trod enc Tryd.prog W base sp held 42 (.slice a0 len0 cap0) d0 p0) : ∃ l : List Pai, len0 = l.length ∧ MemP W a0 l ∧ len0 ≤ 9223372036854775807 ∧ ∀ (k : Nat) (h : k < l.length), l[k].able := by
  obtain ⟨fuel, hf⟩ := h0
  rcases Deep.open_slice Tryd.underlying42 hf with ⟨hcs, _⟩ | ⟨a, len, cap, m, n, D, Pl, hcs, _, hle, hmax, hm, _, hel⟩
  · simp [Value.cells] at hcs
    obtain ⟨rfl, rfl, rfl⟩ := hcs
    exact ⟨[], rfl, fun h => by simp at h, by omega, fun k h => by simp at h⟩
  · simp [Value.cells] at hcs
    obtain ⟨rfl, rfl, rfl⟩ := hcs
    have hlm : len0 ≤ m := by rw [hm]; split <;> omega
    unfold maxLen at hmax
    rw [cellsLP] at hel
    have key : ∀ i, i < len0 → ∃ t : Pai, W.cell? (a.add (i * 6)) = some (.int .i64 t.head.kind) ∧ W.cell? ((a.add (i * 6)).add 1) = some (.int .i64 t.head.num) ∧ W.cell? ((a.add (i * 6)).add 2) = some (.string t.head.name) ∧ W.cell? ((a.add (i * 6)).add 3) = some (.int .i64 t.tail.kind) ∧ W.cell? ((a.add (i * 6)).add 4) = some (.int .i64 t.tail.num) ∧ W.cell? ((a.add (i * 6)).add 5) = some (.string t.tail.name) ∧ t.able := by
      intro i hi
      obtain ⟨cs', hc, ht⟩ := hel i (by omega)
      obtain ⟨t, rfl, hs⟩ := oneP_of_trod ht
      obtain ⟨_, _, hcell⟩ := World.cells?_some hc
      have h0 := hcell 0 (by omega)
      have h1 := hcell 1 (by omega)
      have h2 := hcell 2 (by omega)
      have h3 := hcell 3 (by omega)
      have h4 := hcell 4 (by omega)
      have h5 := hcell 5 (by omega)
      exact ⟨t, by simpa [Addr.add, Pai.cells] using h0, by simpa [Pai.cells] using h1, by simpa [Pai.cells] using h2, by simpa [Pai.cells] using h3, by simpa [Pai.cells] using h4, by simpa [Pai.cells] using h5, by unfold maxLen at hs; unfold Pai.able; omega⟩
    obtain ⟨f, hf⟩ := chooseP len0 key
    refine ⟨(List.range len0).map f, by simp, ?_, by omega, ?_⟩
    · intro hpos
      have hpos' : 0 < len0 := by simpa using hpos
      obtain ⟨b, off, spot⟩ := a
      have hspot : spot = none := by simpa [Addr.add] using World.cell?_spot (hf 0 hpos').1
      subst hspot
      refine ⟨b, off, rfl, fun k hk => ?_⟩
      have hk' : k < len0 := by simpa using hk
      obtain ⟨e0, e1, e2, e3, e4, e5, _⟩ := hf k hk'
      have ha : ∀ j, (⟨b, off, none⟩ : Addr).add j = ⟨b, off + j, none⟩ := fun j => by unfold Addr.add; split <;> simp_all
      rw [Deep.add_add, ha] at e1 e2 e3 e4 e5
      rw [ha] at e0
      simp only [List.getElem_map, List.getElem_range]
      exact ⟨e0, e1, e2, e3, e4, e5⟩
    · intro k hk
      have hk' : k < len0 := by simpa using hk
      have := (hf k hk').2.2.2.2.2.2
      simp only [List.getElem_map, List.getElem_range]
      exact this
end Go.Proofs.YtgfienijabkpjaaDoor
