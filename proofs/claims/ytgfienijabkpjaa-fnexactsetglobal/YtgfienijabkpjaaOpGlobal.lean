/-
  A slice of Global that came in, opened: what lies where it leads.
-/
import Derived.Test.YtgfienijabkpjaaStGlobal
import Derived.Test.YtgfienijabkpjaaOpValue
import Derived.OpenShut
import Derived.WalkKit
import Derived.Deep.Slices
import Derived.Deep.Strs
import Derived.Lib.SmallJoins
namespace Go.Proofs.Ytgfienijabkpjaa
open Go.ChangeShapes Go.WideShapes Go.ChangeAt Go.RowKit

theorem cellsLG : Try.prog.cellsOf 105 = 5 := by kernel_rfl
set_option maxRecDepth 100000 in
/-- The cells of one, as they are read. -/
theorem oneG_of_trod {H : Type} {enc : TypeId × Value → H} {W : World} {base : Nat} {sp : Nat → Bool} {held : Bool} {n : Nat} {cs : List Value} {x : DataW H × List MemPlace}
    (h : DataW.trod enc Try.prog W base sp held n 105 cs = some x) : ∃ t : Glb, cs = t.cells ∧ t.name.size ≤ maxLen ∧ t.value.name.size ≤ maxLen := by
  obtain ⟨y0, y1, y2, m, _, hl, t0, t1, t2⟩ := Deep.trod_struct3 Try.underlying105 h
  rw [cellsLG] at hl
  match cs, hl with
  | [c0, c1, c2, c3, c4], _ =>
    simp only [cellsLV, cellsIV, cellsSV, List.drop, List.take] at t0 t1 t2
    obtain ⟨a, ha, hm⟩ := oneV_of_trod t1
    simp only [Vlu.cells, List.cons.injEq, and_true] at ha
    obtain ⟨rfl, rfl, rfl⟩ := ha
    obtain ⟨s, hv0, _, hs⟩ := DataW.trod_string Try.underlying9 t0
    obtain ⟨i, hv2, _, _⟩ := DataW.trod_int Try.underlying2 t2
    simp only [List.cons.injEq, and_true] at hv0 hv2
    subst hv0 hv2
    exact ⟨⟨s, a, i⟩, rfl, hs, hm⟩
theorem chooseG (n : Nat) {p : Nat → Glb → Prop} (h : ∀ i, i < n → ∃ t, p i t) : ∃ f : Nat → Glb, ∀ i, i < n → p i (f i) := by
  classical
  refine ⟨fun i => if hi : i < n then Classical.choose (h i hi) else ⟨⟨#[]⟩, ⟨0, 0, ⟨#[]⟩⟩, 0⟩, fun i hi => ?_⟩
  simp only [dif_pos hi]
  exact Classical.choose_spec (h i hi)
set_option maxRecDepth 100000 in
theorem memG_of_trod {H : Type} {enc : TypeId × Value → H} {W : World} {base : Nat} {sp : Nat → Bool} {held : Bool} {a0 : Option Addr} {len0 cap0 : Nat} {d0 : DataW H} {p0 : List MemPlace}
    (h0 : DataW.Trod enc Try.prog W base sp held 46 (.slice a0 len0 cap0) d0 p0) : ∃ l : List Glb, len0 = l.length ∧ MemG W a0 l ∧ len0 ≤ 9223372036854775807 ∧ ∀ (k : Nat) (h : k < l.length), l[k].able := by
  obtain ⟨fuel, hf⟩ := h0
  rcases Deep.open_slice Try.underlying46 hf with ⟨hcs, _⟩ | ⟨a, len, cap, m, n, D, Pl, hcs, _, hle, hmax, hm, _, hel⟩
  · simp [Value.cells] at hcs
    obtain ⟨rfl, rfl, rfl⟩ := hcs
    exact ⟨[], rfl, fun h => by simp at h, by omega, fun k h => by simp at h⟩
  · simp [Value.cells] at hcs
    obtain ⟨rfl, rfl, rfl⟩ := hcs
    have hlm : len0 ≤ m := by rw [hm]; split <;> omega
    unfold maxLen at hmax
    rw [cellsLG] at hel
    have key : ∀ i, i < len0 → ∃ t : Glb, W.cell? (a.add (i * 5)) = some (.string t.name) ∧ W.cell? ((a.add (i * 5)).add 1) = some (.int .i64 t.value.kind) ∧ W.cell? ((a.add (i * 5)).add 2) = some (.int .i64 t.value.num) ∧ W.cell? ((a.add (i * 5)).add 3) = some (.string t.value.name) ∧ W.cell? ((a.add (i * 5)).add 4) = some (.int .i64 t.ver) ∧ t.able := by
      intro i hi
      obtain ⟨cs', hc, ht⟩ := hel i (by omega)
      obtain ⟨t, rfl, hs⟩ := oneG_of_trod ht
      obtain ⟨_, _, hcell⟩ := World.cells?_some hc
      have h0 := hcell 0 (by omega)
      have h1 := hcell 1 (by omega)
      have h2 := hcell 2 (by omega)
      have h3 := hcell 3 (by omega)
      have h4 := hcell 4 (by omega)
      exact ⟨t, by simpa [Addr.add, Glb.cells] using h0, by simpa [Glb.cells] using h1, by simpa [Glb.cells] using h2, by simpa [Glb.cells] using h3, by simpa [Glb.cells] using h4, by unfold maxLen at hs; unfold Glb.able; omega⟩
    obtain ⟨f, hf⟩ := chooseG len0 key
    refine ⟨(List.range len0).map f, by simp, ?_, by omega, ?_⟩
    · intro hpos
      have hpos' : 0 < len0 := by simpa using hpos
      obtain ⟨b, off, spot⟩ := a
      have hspot : spot = none := by simpa [Addr.add] using World.cell?_spot (hf 0 hpos').1
      subst hspot
      refine ⟨b, off, rfl, fun k hk => ?_⟩
      have hk' : k < len0 := by simpa using hk
      obtain ⟨e0, e1, e2, e3, e4, _⟩ := hf k hk'
      have ha : ∀ j, (⟨b, off, none⟩ : Addr).add j = ⟨b, off + j, none⟩ := fun j => by unfold Addr.add; split <;> simp_all
      rw [Deep.add_add, ha] at e1 e2 e3 e4
      rw [ha] at e0
      simp only [List.getElem_map, List.getElem_range]
      exact ⟨e0, e1, e2, e3, e4⟩
    · intro k hk
      have hk' : k < len0 := by simpa using hk
      have := (hf k hk').2.2.2.2.2
      simp only [List.getElem_map, List.getElem_range]
      exact this
end Go.Proofs.Ytgfienijabkpjaa
