/-
  A value that came in, opened.
-/
import Derived.Test.YtgfienijabkpjaaDoorVluBase
import Derived.OpenShut
import Derived.WalkKit
import Derived.Deep.Slices
import Derived.Deep.Strs
import Derived.Lib.SmallJoins
namespace Go.Proofs.YtgfienijabkpjaaDoor
open Go.ChangeShapes Go.WideShapes Go.ChangeAt Go.RowKit

theorem cellsLV : Tryd.prog.cellsOf 43 = 3 := by kernel_rfl
theorem cellsIV : Tryd.prog.cellsOf 2 = 1 := by kernel_rfl
theorem cellsSV : Tryd.prog.cellsOf 9 = 1 := by kernel_rfl
set_option maxRecDepth 100000 in
/-- The cells of one, as they are read. -/
theorem oneV_of_trod {H : Type} {enc : TypeId × Value → H} {W : World} {base : Nat} {sp : Nat → Bool} {held : Bool} {n : Nat} {cs : List Value} {x : DataW H × List MemPlace}
    (h : DataW.trod enc Tryd.prog W base sp held n 43 cs = some x) : ∃ t : Vlu, cs = t.cells ∧ t.name.size ≤ maxLen := by
  obtain ⟨y0, y1, y2, m, _, hl, t0, t1, t2⟩ := Deep.trod_struct3 Tryd.underlying43 h
  rw [cellsLV] at hl
  match cs, hl with
  | [c0, c1, c2], _ =>
    simp only [cellsIV, cellsSV, List.drop, List.take] at t0 t1 t2
    obtain ⟨v0, hv0, _, _⟩ := DataW.trod_int Tryd.underlying2 t0
    obtain ⟨v1, hv1, _, _⟩ := DataW.trod_int Tryd.underlying2 t1
    obtain ⟨v2, hv2, _, hm⟩ := DataW.trod_string Tryd.underlying9 t2
    simp only [List.cons.injEq, and_true] at hv0 hv1 hv2
    subst hv0 hv1 hv2
    exact ⟨⟨v0, v1, v2⟩, rfl, hm⟩
set_option maxRecDepth 100000 in
/-- One that came in. -/
theorem openV {H : Type} {enc : TypeId × Value → H} {W : World} {b0 base : Nat} {sp : Nat → Bool} {held : Bool} {v : Value} {d : DataW H} {p : List MemPlace}
    (hv : Value.okWide Tryd.prog W .any b0 43 v) (h : DataW.Trod enc Tryd.prog W base sp held 43 v d p) : ∃ t : Vlu, v = t.val ∧ t.name.size ≤ maxLen := by
  obtain ⟨cs, rfl, _⟩ := okWide_struct Tryd.underlying43 hv
  obtain ⟨n, hn⟩ := h
  obtain ⟨t, ht, hm⟩ := oneV_of_trod hn
  refine ⟨t, ?_, hm⟩
  have : cs.toList = t.cells := by simpa [Value.cells] using ht
  have e : cs = #[.int .i64 t.kind, .int .i64 t.num, .string t.name] := by
    apply Array.toList_inj.1; rw [this]; rfl
  rw [e]
end Go.Proofs.YtgfienijabkpjaaDoor
