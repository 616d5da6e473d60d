/-
  What the lists of the laws on the texts of tokens give a walk: the table of powers of ten, and the handle of the type error; a token that came in, opened.
-/
import Derived.Test.YtnlfnicgfhfpfaaDoorTexts
import Derived.Test.YtnlfnicgfhfpfaaDoorTok
import Derived.Test.YtnlfnicgfhfpfaaDoorCards
import Derived.Test.YtnlfnicgfhfpfaaDoorTie
import Derived.WalkKit
import Derived.ProofKit
import Derived.OpenShut
import Derived.LaidHandle
import Derived.Deep.DeepHandedRow
import Derived.Deep.Strs
import Derived.Lib.LaidTab
import Derived.Stop.LaidErr
namespace Go.Proofs.YtnlfnicgfhfpfaaDoor
open Go.ChangeShapes Go.WideShapes Go.ChangeAt Go.RowKit Go.Lib

theorem own : ownKnob Tryd.prog.godebug = none := by kernel_rfl
theorem laidOut : laidOutB Tryd.prog = true := by kernel_rfl
theorem gEt : Tryd.prog.globalNamed "errors.errorType" = some 0 := by kernel_rfl
theorem cutRt : (Tryd.prog.cutTypes.find? (·.1 == "internal/reflectlite.rtype")).map (·.2) = some 123 := by kernel_rfl
theorem oneRow : ((List.range 189).filter fun t => Tryd.prog.rowNamed t [101, 114, 114, 111, 114]) = [74] := by kernel_rfl
theorem typesSize : Tryd.prog.types.size = 189 := by kernel_rfl
theorem et_of_handles {W : World} (h : handlesMet Tryd.prog [("errors.errorType", Rows.laid_errors_errorType)] W) : ET W := by
  obtain ⟨name, u, ty, e1, e2, e3, e4, e5⟩ := h _ (List.mem_singleton.2 rfl)
  have en : name = [101, 114, 114, 111, 114] := (Option.some.inj e1).symm
  subst en
  obtain rfl := Option.some.inj (cutRt.symm.trans e2)
  have hm : ty ∈ (List.range 189).filter fun t => Tryd.prog.rowNamed t [101, 114, 114, 111, 114] := List.mem_filter.2 ⟨List.mem_range.2 (by rw [← typesSize]; exact e3), e4⟩
  rw [oneRow] at hm
  obtain rfl := List.mem_singleton.1 hm
  have hh : typeHandle Tryd.prog 74 = .pointer (some ⟨7, 74, none⟩) := by kernel_rfl
  rw [hh] at e5
  unfold ET
  simpa using World.var?_cell gEt e5 0
theorem gPow : Tryd.prog.globalNamed "internal/strconv.uint64pow10" = some 2 := by kernel_rfl
theorem gPowType : (Tryd.prog.globals[2]?).map (·.type) = some 140 := by kernel_rfl
theorem cellsPow : Tryd.prog.cellsOf 140 = 20 := by kernel_rfl
theorem cellsU64 : Tryd.prog.cellsOf 117 = 1 := by kernel_rfl
theorem tab_of_laid {r : List (String × DataW Unit)} {W : World} (h : laidMet Tryd.prog (("internal/strconv.uint64pow10", Rows.laid_internal_strconv_uint64pow10) :: r) W) : TabIs Tryd.prog W "internal/strconv.uint64pow10" .u64 pow10Tab :=
  tabIs_of_head (rest := r) gPow gPowType Tryd.underlying140 Tryd.underlying117 cellsU64 cellsPow h
theorem lt_of_laid {W : World} (h : laidMetH Tryd.prog [("math/bits.deBruijn32tab", Rows.laid_math_bits_deBruijn32tab), ("math/bits.deBruijn64tab", Rows.laid_math_bits_deBruijn64tab), ("internal/strconv.uint64pow10", Rows.laid_internal_strconv_uint64pow10), ("errors.errorType", Rows.laid_errors_errorType)] W) : LT W := by
  have h' : laidMet Tryd.prog [("math/bits.deBruijn32tab", Rows.laid_math_bits_deBruijn32tab), ("math/bits.deBruijn64tab", Rows.laid_math_bits_deBruijn64tab), ("internal/strconv.uint64pow10", Rows.laid_internal_strconv_uint64pow10)] W ∧ handlesMet Tryd.prog [("errors.errorType", Rows.laid_errors_errorType)] W := h
  exact ⟨et_of_handles h'.2, tab_of_laid h'.1.tail.tail⟩

theorem cellsI64 : Tryd.prog.cellsOf 2 = 1 := by kernel_rfl
theorem cellsString : Tryd.prog.cellsOf 9 = 1 := by kernel_rfl
theorem cellsLTok : Tryd.prog.cellsOf 30 = 3 := by kernel_rfl
set_option maxRecDepth 100000 in
/-- The cells of a token, as they are read. -/
theorem tok_of_trod {H : Type} {enc : TypeId × Value → H} {W : World} {base : Nat} {sp : Nat → Bool} {held : Bool} {n : Nat} {cs : List Value} {x : DataW H × List MemPlace}
    (h : DataW.trod enc Tryd.prog W base sp held n 30 cs = some x) : ∃ t : Tok, cs = t.cells ∧ t.name.size ≤ maxLen := by
  obtain ⟨y0, y1, y2, m, _, hl, t0, t1, t2⟩ := Deep.trod_struct3 Tryd.underlying30 h
  rw [cellsLTok] at hl
  match cs, hl with
  | [c0, c1, c2], _ =>
    simp only [cellsI64, cellsString, List.drop, List.take] at t0 t1 t2
    obtain ⟨k, hk, _, _⟩ := DataW.trod_int Tryd.underlying2 t0
    obtain ⟨v, hv, _, _⟩ := DataW.trod_int Tryd.underlying2 t1
    obtain ⟨s, hs, _, hm⟩ := DataW.trod_string Tryd.underlying9 t2
    simp only [List.cons.injEq, and_true] at hk hv hs
    subst hk hv hs
    exact ⟨⟨k, v, s⟩, rfl, hm⟩
set_option maxRecDepth 100000 in
/-- A token that came in. -/
theorem open_tok {H : Type} {enc : TypeId × Value → H} {W : World} {b0 base : Nat} {sp : Nat → Bool} {held : Bool} {v : Value} {d : DataW H} {p : List MemPlace}
    (hv : Value.okWide Tryd.prog W .any b0 30 v) (h : DataW.Trod enc Tryd.prog W base sp held 30 v d p) : ∃ t : Tok, v = t.val ∧ t.name.size ≤ maxLen := by
  obtain ⟨cs, rfl, _⟩ := okWide_struct Tryd.underlying30 hv
  obtain ⟨n, hn⟩ := h
  obtain ⟨t, ht, hm⟩ := tok_of_trod hn
  refine ⟨t, ?_, hm⟩
  have : cs.toList = t.cells := by simpa [Value.cells] using ht
  have e : cs = #[.int .i64 t.kind, .int .i64 t.num, .string t.name] := by
    apply Array.toList_inj.1; rw [this]; rfl
  rw [e]
end Go.Proofs.YtnlfnicgfhfpfaaDoor
