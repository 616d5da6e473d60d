/-
  A setting as a struct of four: what is read of one that came in; its toConfig. No program in it but toConfig.
-/
import Derived.Test.YtoafolefecddmaaDoorConfA
import Derived.ProofKit
import Derived.OpenShut
import Derived.Deep.Strs
import Derived.Lib.SmallJoins
namespace Go.Proofs.YtoafolefecddmaaDoor
open Go.ChangeShapes Go.WideShapes Go.ChangeAt Go.RowKit Go.Lib Go.Extern.Stop Go.Stop Go.Extern Num

theorem cellsLCf : Tryd.prog.cellsOf 23 = 4 := by kernel_rfl
theorem cellsICf : Tryd.prog.cellsOf 2 = 1 := by kernel_rfl
theorem cellsBCf : Tryd.prog.cellsOf 4 = 1 := by kernel_rfl
set_option maxRecDepth 100000 in
/-- One that came in. -/
theorem openCf {H : Type} {enc : TypeId × Value → H} {W : World} {b0 base : Nat} {sp : Nat → Bool} {held : Bool} {v : Value} {d : DataW H} {p : List MemPlace}
    (hv : Value.okWide Tryd.prog W .any b0 23 v) (h : DataW.Trod enc Tryd.prog W base sp held 23 v d p) : ∃ (s t : Int) (pp cc : Bool), v = cfV s t pp cc := by
  obtain ⟨cs, rfl, _⟩ := okWide_struct Tryd.underlying23 hv
  obtain ⟨n, hn⟩ := h
  obtain ⟨y0, y1, y2, y3, m, _, hl, t0, t1, t2, t3⟩ := Joins.trod_struct4 Tryd.underlying23 hn
  rw [cellsLCf] at hl
  have hl' : cs.toList.length = 4 := by simpa [Value.cells] using hl
  match hcs : cs.toList, hl' with
  | [c0, c1, c2, c3], _ =>
    have hcl : (Value.agg cs).cells.toList = [c0, c1, c2, c3] := by simpa [Value.cells] using hcs
    rw [hcl] at t0 t1 t2 t3
    simp only [cellsICf, cellsBCf, List.drop, List.take] at t0 t1 t2 t3
    obtain ⟨v0, hv0, _, _⟩ := DataW.trod_int Tryd.underlying2 t0
    obtain ⟨v1, hv1, _, _⟩ := DataW.trod_int Tryd.underlying2 t1
    obtain ⟨v2, hv2, _⟩ := DataW.trod_bool Tryd.underlying4 t2
    obtain ⟨v3, hv3, _⟩ := DataW.trod_bool Tryd.underlying4 t3
    simp only [List.cons.injEq, and_true] at hv0 hv1 hv2 hv3
    subst hv0 hv1 hv2 hv3
    refine ⟨v0, v1, v2, v3, ?_⟩
    have e : cs = #[.int .i64 v0, .int .i64 v1, .bool v2, .bool v3] := by
      apply Array.toList_inj.1; rw [hcs]
    rw [e]
set_option maxRecDepth 100000 in
theorem toCf_any (s t : Int) (p c : Bool) (w : World) :
    Calls Tryd.prog 5 #[cfV s t p c] w fun e w' => e = .returned (cfV s t p c) ∧ Below w.heap.size w w' := by
  go_enter Tryd.func5, Tryd.ntmps5
  go_wp2
  exact bodyPost_ret (v := cfV s t p c) (by simp [results, Tryd.results5, go_sem]) rfl ⟨rfl, by repeat (first | exact Below.refl _ _ | refine Below.setCell ?_ (by simp) _ | refine Below.alloc ?_ (by simp <;> omega) _ | refine Below.drew ?_)⟩
end Go.Proofs.YtoafolefecddmaaDoor
