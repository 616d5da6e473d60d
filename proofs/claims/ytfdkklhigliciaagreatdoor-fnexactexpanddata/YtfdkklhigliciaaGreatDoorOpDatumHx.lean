/-
  Parts of the proof laid into one text, one behind the other; each says at its head what is proved in it.
-/
import Derived.Test.YtfdkklhigliciaaGreatDoorXaC
import Derived.OpenShut
import Derived.WalkKit
import Derived.Deep.Slices
import Derived.Deep.Strs
import Derived.Lib.SmallJoins
/-
  A slice of Datum that came in, opened: what lies where it leads.
-/
namespace Go.Proofs.YtfdkklhigliciaaGreatDoor
open Go.ChangeShapes Go.WideShapes Go.ChangeAt Go.RowKit

theorem cellsLD : Tryz.prog.cellsOf 42 = 4 := by kernel_rfl
theorem cellsID : Tryz.prog.cellsOf 2 = 1 := by kernel_rfl
theorem cellsSD : Tryz.prog.cellsOf 9 = 1 := by kernel_rfl
set_option maxRecDepth 100000 in
/-- The cells of one, as they are read. -/
theorem oneD_of_trod {H : Type} {enc : TypeId × Value → H} {W : World} {base : Nat} {sp : Nat → Bool} {held : Bool} {n : Nat} {cs : List Value} {x : DataW H × List MemPlace}
    (h : DataW.trod enc Tryz.prog W base sp held n 42 cs = some x) : ∃ t : Dat, cs = t.cells ∧ t.name.size ≤ maxLen := by
  obtain ⟨y0, y1, y2, y3, m, _, hl, t0, t1, t2, t3⟩ := Joins.trod_struct4 Tryz.underlying42 h
  rw [cellsLD] at hl
  match cs, hl with
  | [c0, c1, c2, c3], _ =>
    simp only [cellsID, cellsSD, List.drop, List.take] at t0 t1 t2 t3
    obtain ⟨v0, hv0, _, _⟩ := DataW.trod_int Tryz.underlying2 t0
    obtain ⟨v1, hv1, _, _⟩ := DataW.trod_int Tryz.underlying2 t1
    obtain ⟨v2, hv2, _, _⟩ := DataW.trod_int Tryz.underlying2 t2
    obtain ⟨v3, hv3, _, hm⟩ := DataW.trod_string Tryz.underlying9 t3
    simp only [List.cons.injEq, and_true] at hv0 hv1 hv2 hv3
    subst hv0 hv1 hv2 hv3
    exact ⟨⟨v0, v1, v2, v3⟩, rfl, hm⟩
set_option maxRecDepth 100000 in
/-- One that came in. -/
theorem openD {H : Type} {enc : TypeId × Value → H} {W : World} {b0 base : Nat} {sp : Nat → Bool} {held : Bool} {v : Value} {d : DataW H} {p : List MemPlace}
    (hv : Value.okWide Tryz.prog W .any b0 42 v) (h : DataW.Trod enc Tryz.prog W base sp held 42 v d p) : ∃ t : Dat, v = t.val ∧ t.name.size ≤ maxLen := by
  obtain ⟨cs, rfl, _⟩ := okWide_struct Tryz.underlying42 hv
  obtain ⟨n, hn⟩ := h
  obtain ⟨t, ht, hm⟩ := oneD_of_trod hn
  refine ⟨t, ?_, hm⟩
  have : cs.toList = t.cells := by simpa [Value.cells] using ht
  have e : cs = #[.int .i64 t.kind, .int .i64 t.parent, .int .i64 t.num, .string t.name] := by
    apply Array.toList_inj.1; rw [this]; rfl
  rw [e]
theorem chooseD (n : Nat) {p : Nat → Dat → Prop} (h : ∀ i, i < n → ∃ t, p i t) : ∃ f : Nat → Dat, ∀ i, i < n → p i (f i) := by
  classical
  refine ⟨fun i => if hi : i < n then Classical.choose (h i hi) else ⟨0, 0, 0, ⟨#[]⟩⟩, fun i hi => ?_⟩
  simp only [dif_pos hi]
  exact Classical.choose_spec (h i hi)
set_option maxRecDepth 100000 in
theorem memD_of_trod {H : Type} {enc : TypeId × Value → H} {W : World} {base : Nat} {sp : Nat → Bool} {held : Bool} {a0 : Option Addr} {len0 cap0 : Nat} {d0 : DataW H} {p0 : List MemPlace}
    (h0 : DataW.Trod enc Tryz.prog W base sp held 22 (.slice a0 len0 cap0) d0 p0) : ∃ l : List Dat, len0 = l.length ∧ MemD W a0 l ∧ len0 ≤ 9223372036854775807 ∧ ∀ (k : Nat) (h : k < l.length), l[k].name.size ≤ 9223372036854775807 := by
  obtain ⟨fuel, hf⟩ := h0
  rcases Deep.open_slice Tryz.underlying22 hf with ⟨hcs, _⟩ | ⟨a, len, cap, m, n, D, Pl, hcs, _, hle, hmax, hm, _, hel⟩
  · simp [Value.cells] at hcs
    obtain ⟨rfl, rfl, rfl⟩ := hcs
    exact ⟨[], rfl, fun h => by simp at h, by omega, fun k h => by simp at h⟩
  · simp [Value.cells] at hcs
    obtain ⟨rfl, rfl, rfl⟩ := hcs
    have hlm : len0 ≤ m := by rw [hm]; split <;> omega
    unfold maxLen at hmax
    rw [cellsLD] at hel
    have key : ∀ i, i < len0 → ∃ t : Dat, W.cell? (a.add (i * 4)) = some (.int .i64 t.kind) ∧ W.cell? ((a.add (i * 4)).add 1) = some (.int .i64 t.parent) ∧ W.cell? ((a.add (i * 4)).add 2) = some (.int .i64 t.num) ∧ W.cell? ((a.add (i * 4)).add 3) = some (.string t.name) ∧ t.name.size ≤ maxLen := by
      intro i hi
      obtain ⟨cs', hc, ht⟩ := hel i (by omega)
      obtain ⟨t, rfl, hs⟩ := oneD_of_trod ht
      obtain ⟨_, _, hcell⟩ := World.cells?_some hc
      have h0 := hcell 0 (by omega)
      have h1 := hcell 1 (by omega)
      have h2 := hcell 2 (by omega)
      have h3 := hcell 3 (by omega)
      exact ⟨t, by simpa [Addr.add, Dat.cells] using h0, by simpa [Dat.cells] using h1, by simpa [Dat.cells] using h2, by simpa [Dat.cells] using h3, hs⟩
    obtain ⟨f, hf⟩ := chooseD len0 key
    refine ⟨(List.range len0).map f, by simp, ?_, by omega, ?_⟩
    · intro hpos
      have hpos' : 0 < len0 := by simpa using hpos
      obtain ⟨b, off, spot⟩ := a
      have hspot : spot = none := by simpa [Addr.add] using World.cell?_spot (hf 0 hpos').1
      subst hspot
      refine ⟨b, off, rfl, fun k hk => ?_⟩
      have hk' : k < len0 := by simpa using hk
      obtain ⟨e0, e1, e2, e3, _⟩ := hf k hk'
      have ha : ∀ j, (⟨b, off, none⟩ : Addr).add j = ⟨b, off + j, none⟩ := fun j => by unfold Addr.add; split <;> simp_all
      rw [Deep.add_add, ha] at e1 e2 e3
      rw [ha] at e0
      simp only [List.getElem_map, List.getElem_range]
      exact ⟨e0, e1, e2, e3⟩
    · intro k hk
      have hk' : k < len0 := by simpa using hk
      have := (hf k hk').2.2.2.2
      unfold maxLen at this
      simp only [List.getElem_map, List.getElem_range]
      omega
end Go.Proofs.YtfdkklhigliciaaGreatDoor
