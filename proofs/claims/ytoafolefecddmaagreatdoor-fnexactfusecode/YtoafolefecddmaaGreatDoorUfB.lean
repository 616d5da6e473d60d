/-
  Parts of the proof laid into one text, one behind the other: ImplFu, Rows11. Contracts of the program's and the model's functions, and what they are proved of, as their theorems say.
-/
import Derived.Test.YtoafolefecddmaaGreatDoorUfA
import Derived.Test.YtoafolefecddmaaGreatDoorTjB
import Derived.Deep.MidRow
import Derived.Test.YtoafolefecddmaaGreatDoorRows2Hv
import Derived.Lib.SmallJoins
import Derived.OpenShut
namespace Go.Proofs.YtoafolefecddmaaGreatDoor
open Go.RowKit Go.Extern.Stop Go.Stop Go.Extern Num Go.Lib
def fusT : List Int := [1, 1, 12, 13, 2, 2, 12, 14, 4, 2, 2, 15, 8, 2, 6, 16]
structure FU (w : World) : Prop where
  lt : 0 < w.heap.size
  range : w.rangeAt 0 0 [.int .i64 1, .int .i64 1, .int .i64 12, .int .i64 13, .int .i64 2, .int .i64 2, .int .i64 12, .int .i64 14, .int .i64 4, .int .i64 2, .int .i64 2, .int .i64 15, .int .i64 8, .int .i64 2, .int .i64 6, .int .i64 16]
theorem FU.below {w w' : World} (h : FU w) (hb : Below w.heap.size w w') : FU w' := ⟨Nat.lt_of_lt_of_le h.lt hb.size, fun j v hj => cell_keep hb (h.range j v hj)⟩
def fusV (q : Nat) : Value := .agg #[.int .i64 (fusT.getD (q * 4) 0), .int .i64 (fusT.getD (q * 4 + 1) 0), .int .i64 (fusT.getD (q * 4 + 2) 0), .int .i64 (fusT.getD (q * 4 + 3) 0)]
def fusK (k : Int) : Nat := if k = 13 then 0 else if k = 14 then 1 else if k = 15 then 2 else if k = 16 then 3 else 4
theorem idxFu0 (u : World) : (Instr.index 150 (.agg #[.int .i64 1, .int .i64 1, .int .i64 12, .int .i64 13, .int .i64 2, .int .i64 2, .int .i64 12, .int .i64 14, .int .i64 4, .int .i64 2, .int .i64 2, .int .i64 15, .int .i64 8, .int .i64 2, .int .i64 6, .int .i64 16]) (.int .i64 0)).run Tryz.prog u = .ok (.agg #[.int .i64 1, .int .i64 1, .int .i64 12, .int .i64 13]) u := by kernel_rfl
theorem idxFu1 (u : World) : (Instr.index 150 (.agg #[.int .i64 1, .int .i64 1, .int .i64 12, .int .i64 13, .int .i64 2, .int .i64 2, .int .i64 12, .int .i64 14, .int .i64 4, .int .i64 2, .int .i64 2, .int .i64 15, .int .i64 8, .int .i64 2, .int .i64 6, .int .i64 16]) (.int .i64 1)).run Tryz.prog u = .ok (.agg #[.int .i64 2, .int .i64 2, .int .i64 12, .int .i64 14]) u := by kernel_rfl
theorem idxFu2 (u : World) : (Instr.index 150 (.agg #[.int .i64 1, .int .i64 1, .int .i64 12, .int .i64 13, .int .i64 2, .int .i64 2, .int .i64 12, .int .i64 14, .int .i64 4, .int .i64 2, .int .i64 2, .int .i64 15, .int .i64 8, .int .i64 2, .int .i64 6, .int .i64 16]) (.int .i64 2)).run Tryz.prog u = .ok (.agg #[.int .i64 4, .int .i64 2, .int .i64 2, .int .i64 15]) u := by kernel_rfl
theorem idxFu3 (u : World) : (Instr.index 150 (.agg #[.int .i64 1, .int .i64 1, .int .i64 12, .int .i64 13, .int .i64 2, .int .i64 2, .int .i64 12, .int .i64 14, .int .i64 4, .int .i64 2, .int .i64 2, .int .i64 15, .int .i64 8, .int .i64 2, .int .i64 6, .int .i64 16]) (.int .i64 3)).run Tryz.prog u = .ok (.agg #[.int .i64 8, .int .i64 2, .int .i64 6, .int .i64 16]) u := by kernel_rfl
end Go.Proofs.YtoafolefecddmaaGreatDoor
namespace Go.Proofs.YtoafolefecddmaaGreatDoor
open Go.ChangeShapes Go.WideShapes Go.ChangeAt Go.RowKit Go.Lib
theorem varB {P : Program} {B g : Nat} {W W' : World} {n : String} {cs : Array Value} (h : Below B W W') (hg : P.globalNamed n = some g) (hgB : g < B) (hv : W.var? P n = some cs) : W'.var? P n = some cs := by
  unfold World.var? at hv ⊢
  simp only [hg, Option.bind_some] at hv ⊢
  rw [h.block g hgB]
  exact hv
theorem gFus : Tryz.prog.globalNamed "loop.example/g00349/impl.fusions" = some 0 := by kernel_rfl
theorem gFusType : (Tryz.prog.globals[0]?).map (·.type) = some 150 := by kernel_rfl
theorem cellsFus : Tryz.prog.cellsOf 102 = 4 := by kernel_rfl
theorem cellsFus4 : Tryz.prog.cellsOf 150 = 16 := by kernel_rfl
theorem cellsFusI : Tryz.prog.cellsOf 2 = 1 := by kernel_rfl
theorem list4 {α : Type} {cs : List α} (h : cs.length = 4) : ∃ c0 c1 c2 c3, cs = [c0, c1, c2, c3] := by
  match cs, h with
  | [c0, c1, c2, c3], _ => exact ⟨c0, c1, c2, c3, rfl⟩
set_option maxRecDepth 100000 in
theorem fus4 {H : Type} {enc : TypeId × Value → H} {w : World} {base : Nat} {sp : Nat → Bool} {held : Bool} {fuel : Nat} {cs : List Value} {a b c d : Int} {p : List MemPlace}
    (h : DataW.trod enc Tryz.prog w base sp held fuel 102 cs = some (.agg [.lit (.int .i64 a), .lit (.int .i64 b), .lit (.int .i64 c), .lit (.int .i64 d)], p)) : cs = [.int .i64 a, .int .i64 b, .int .i64 c, .int .i64 d] := by
  obtain ⟨y0, y1, y2, y3, n, hx, hl, h0, h1, h2, h3⟩ := Go.Joins.trod_struct4 Tryz.underlying102 h
  have hl' : cs.length = 4 := hl.trans cellsFus
  obtain ⟨c0, c1, c2, c3, rfl⟩ := list4 hl'
  rw [cellsFusI] at h0 h1 h2 h3
  obtain ⟨z0, e0, r0, _⟩ := DataW.trod_int Tryz.underlying2 h0
  obtain ⟨z1, e1, r1, _⟩ := DataW.trod_int Tryz.underlying2 h1
  obtain ⟨z2, e2, r2, _⟩ := DataW.trod_int Tryz.underlying2 h2
  obtain ⟨z3, e3, r3, _⟩ := DataW.trod_int Tryz.underlying2 h3
  subst r0 r1 r2 r3
  simp at hx e0 e1 e2 e3
  obtain ⟨⟨q0, q1, q2, q3⟩, -⟩ := hx
  subst q0 q1 q2 q3 e0 e1 e2 e3
  rfl
set_option maxRecDepth 100000 in
theorem fu_of_laid {W : World} (h : laidMet Tryz.prog [("loop.example/g00349/impl.fusions", Rows.laid_loop_example_g00349_impl_fusions)] W) : FU W := by
  obtain ⟨ps, ⟨g', t', cs, fuel, p, q, hg', ht', hvar, hd, _, _⟩, _⟩ := h
  obtain rfl := Option.some.inj (gFus.symm.trans hg')
  obtain rfl := Option.some.inj (gFusType.symm.trans ht')
  obtain ⟨xs, m, _, hx, hl, hn, hf⟩ := DataW.trod_array Tryz.underlying150 hd
  rw [cellsFus4] at hl
  rw [cellsFus] at hf
  obtain ⟨x0, x1, x2, x3, rfl⟩ := list4 hn
  unfold Rows.laid_loop_example_g00349_impl_fusions at hx
  simp at hx
  obtain ⟨⟨r0, r1, r2, r3⟩, -⟩ := hx
  have h0 := hf 0 (by omega)
  have h1 := hf 1 (by omega)
  have h2 := hf 2 (by omega)
  have h3 := hf 3 (by omega)
  obtain ⟨d0, p0⟩ := x0
  obtain ⟨d1, p1⟩ := x1
  obtain ⟨d2, p2⟩ := x2
  obtain ⟨d3, p3⟩ := x3
  simp only at r0 r1 r2 r3
  subst r0 r1 r2 r3
  have k0 := fus4 h0
  have k1 := fus4 h1
  have k2 := fus4 h2
  have k3 := fus4 h3
  have hc : cs.toList = [.int .i64 1, .int .i64 1, .int .i64 12, .int .i64 13, .int .i64 2, .int .i64 2, .int .i64 12, .int .i64 14, .int .i64 4, .int .i64 2, .int .i64 2, .int .i64 15, .int .i64 8, .int .i64 2, .int .i64 6, .int .i64 16] := by
    generalize cs.toList = L at hl k0 k1 k2 k3
    have e1 : L = (L.drop (0 * 4)).take 4 ++ ((L.drop (1 * 4)).take 4 ++ ((L.drop (2 * 4)).take 4 ++ (L.drop (3 * 4)).take 4)) := by
      have a3 : (L.drop (3 * 4)).take 4 = L.drop 12 := List.take_of_length_le (by simp; omega)
      have a2 : (L.drop 8).take 4 ++ L.drop 12 = L.drop 8 := by
        have := List.take_append_drop 4 (L.drop 8)
        rwa [List.drop_drop] at this
      have a1 : (L.drop 4).take 4 ++ L.drop 8 = L.drop 4 := by
        have := List.take_append_drop 4 (L.drop 4)
        rwa [List.drop_drop] at this
      have a0 : (L.drop 0).take 4 ++ L.drop 4 = L := by
        rw [List.drop_zero]; exact List.take_append_drop 4 L
      rw [a3]
      show L = (L.drop 0).take 4 ++ ((L.drop 4).take 4 ++ ((L.drop 8).take 4 ++ L.drop 12))
      rw [a2, a1, a0]
    rw [e1, k0, k1, k2, k3]
    rfl
  have hcell : ∀ j v, ([.int .i64 1, .int .i64 1, .int .i64 12, .int .i64 13, .int .i64 2, .int .i64 2, .int .i64 12, .int .i64 14, .int .i64 4, .int .i64 2, .int .i64 2, .int .i64 15, .int .i64 8, .int .i64 2, .int .i64 6, .int .i64 16] : List Value)[j]? = some v → W.cell? ⟨0, j, none⟩ = some v := fun j v hj => by
    rw [World.var?_cell hg' hvar j]
    rw [← hc] at hj
    simpa using hj
  exact ⟨World.block_lt_of_cell? W ⟨0, 0, none⟩ (hcell 0 _ rfl), fun j v hj => by rw [Nat.zero_add]; exact hcell j v hj⟩
theorem lt_of_laid11 {W : World} (h : laidMetH Tryz.prog [("math/bits.deBruijn32tab", Rows.laid_math_bits_deBruijn32tab), ("math/bits.deBruijn64tab", Rows.laid_math_bits_deBruijn64tab), ("internal/strconv.uint64pow10", Rows.laid_internal_strconv_uint64pow10), ("errors.errorType", Rows.laid_errors_errorType), ("loop.example/g00349/impl.fusions", Rows.laid_loop_example_g00349_impl_fusions)] W) : LT W ∧ FU W := by
  have h' : laidMet Tryz.prog [("math/bits.deBruijn32tab", Rows.laid_math_bits_deBruijn32tab), ("math/bits.deBruijn64tab", Rows.laid_math_bits_deBruijn64tab), ("internal/strconv.uint64pow10", Rows.laid_internal_strconv_uint64pow10), ("loop.example/g00349/impl.fusions", Rows.laid_loop_example_g00349_impl_fusions)] W ∧ handlesMet Tryz.prog [("errors.errorType", Rows.laid_errors_errorType)] W := h
  exact ⟨⟨et_of_handles h'.2, tab_of_laid h'.1.tail.tail⟩, fu_of_laid h'.1.tail.tail.tail⟩
end Go.Proofs.YtoafolefecddmaaGreatDoor
