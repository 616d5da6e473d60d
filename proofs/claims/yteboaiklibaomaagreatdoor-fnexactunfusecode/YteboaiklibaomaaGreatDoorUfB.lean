/-
  Parts of the proof laid into one text, one behind the other; each says at its head what is proved in it.
-/
import Derived.Test.YteboaiklibaomaaGreatDoorUfA
import Derived.Test.YteboaiklibaomaaGreatDoorTjB
import Derived.Deep.MidRow
import Derived.Test.YteboaiklibaomaaGreatDoorRows2Ht
import Derived.Lib.SmallJoins
import Derived.OpenShut
/-
  The program's table of pairs, and fusionInto: what an operation is two of; nothing that was there is turned.
-/
namespace Go.Proofs.YteboaiklibaomaaGreatDoor
open Go.RowKit Go.Extern.Stop Go.Stop Go.Extern Num Go.Lib

/-- Bit, first, second and both of each pair, one behind the other. -/
def fusT : List Int := [1, 1, 12, 13, 2, 2, 12, 14, 4, 2, 2, 15, 8, 2, 6, 16]
/-- The table as it lies. -/
structure FU (w : World) : Prop where
  lt : 0 < w.heap.size
  range : w.rangeAt 0 0 [.int .i64 1, .int .i64 1, .int .i64 12, .int .i64 13, .int .i64 2, .int .i64 2, .int .i64 12, .int .i64 14, .int .i64 4, .int .i64 2, .int .i64 2, .int .i64 15, .int .i64 8, .int .i64 2, .int .i64 6, .int .i64 16]
theorem FU.below {w w' : World} (h : FU w) (hb : Below w.heap.size w w') : FU w' := ⟨Nat.lt_of_lt_of_le h.lt hb.size, fun j v hj => cell_keep hb (h.range j v hj)⟩
/-- A pair as a value: the number q of the table; 4: none. -/
def fusV (q : Nat) : Value := .agg #[.int .i64 (fusT.getD (q * 4) 0), .int .i64 (fusT.getD (q * 4 + 1) 0), .int .i64 (fusT.getD (q * 4 + 2) 0), .int .i64 (fusT.getD (q * 4 + 3) 0)]
def fusK (k : Int) : Nat := if k = 13 then 0 else if k = 14 then 1 else if k = 15 then 2 else if k = 16 then 3 else 4
theorem idxFu0 (u : World) : (Instr.index 99 (.agg #[.int .i64 1, .int .i64 1, .int .i64 12, .int .i64 13, .int .i64 2, .int .i64 2, .int .i64 12, .int .i64 14, .int .i64 4, .int .i64 2, .int .i64 2, .int .i64 15, .int .i64 8, .int .i64 2, .int .i64 6, .int .i64 16]) (.int .i64 0)).run Tryz.prog u = .ok (.agg #[.int .i64 1, .int .i64 1, .int .i64 12, .int .i64 13]) u := by kernel_rfl
theorem idxFu1 (u : World) : (Instr.index 99 (.agg #[.int .i64 1, .int .i64 1, .int .i64 12, .int .i64 13, .int .i64 2, .int .i64 2, .int .i64 12, .int .i64 14, .int .i64 4, .int .i64 2, .int .i64 2, .int .i64 15, .int .i64 8, .int .i64 2, .int .i64 6, .int .i64 16]) (.int .i64 1)).run Tryz.prog u = .ok (.agg #[.int .i64 2, .int .i64 2, .int .i64 12, .int .i64 14]) u := by kernel_rfl
theorem idxFu2 (u : World) : (Instr.index 99 (.agg #[.int .i64 1, .int .i64 1, .int .i64 12, .int .i64 13, .int .i64 2, .int .i64 2, .int .i64 12, .int .i64 14, .int .i64 4, .int .i64 2, .int .i64 2, .int .i64 15, .int .i64 8, .int .i64 2, .int .i64 6, .int .i64 16]) (.int .i64 2)).run Tryz.prog u = .ok (.agg #[.int .i64 4, .int .i64 2, .int .i64 2, .int .i64 15]) u := by kernel_rfl
theorem idxFu3 (u : World) : (Instr.index 99 (.agg #[.int .i64 1, .int .i64 1, .int .i64 12, .int .i64 13, .int .i64 2, .int .i64 2, .int .i64 12, .int .i64 14, .int .i64 4, .int .i64 2, .int .i64 2, .int .i64 15, .int .i64 8, .int .i64 2, .int .i64 6, .int .i64 16]) (.int .i64 3)).run Tryz.prog u = .ok (.agg #[.int .i64 8, .int .i64 2, .int .i64 6, .int .i64 16]) u := by kernel_rfl
theorem fusK_no {k : Int} (h : ∀ q, q < 4 → fusT.getD (q * 4 + 3) 0 ≠ k) : fusK k = 4 := by
  have h0 : (13 : Int) ≠ k := h 0 (by omega)
  have h1 : (14 : Int) ≠ k := h 1 (by omega)
  have h2 : (15 : Int) ≠ k := h 2 (by omega)
  have h3 : (16 : Int) ≠ k := h 3 (by omega)
  unfold fusK
  rw [if_neg (fun e => h0 e.symm), if_neg (fun e => h1 e.symm), if_neg (fun e => h2 e.symm), if_neg (fun e => h3 e.symm)]
set_option maxHeartbeats 2000000 in
theorem fusionInto_any (k : Int) (w : World) (hF : FU w) : Calls Tryz.prog 38 #[.int .i64 k] w fun e w' => e = .returned (.tuple #[fusV (fusK k), .bool (decide (fusK k < 4))]) ∧ Below w.heap.size w w' := by
  obtain ⟨W, hW⟩ : ∃ W, W = w.alloc (.cells #[.int .i64 0, .int .i64 0, .int .i64 0, .int .i64 0] 68) := ⟨_, rfl⟩
  have hb0 : Below w.heap.size w W := by rw [hW]; exact bnew _ _
  have HW : Hid (W = w.alloc (.cells #[.int .i64 0, .int .i64 0, .int .i64 0, .int .i64 0] 68)) := hW
  have r0 : W.cell? ⟨w.heap.size, 0, none⟩ = some (.int .i64 0) := by rw [hW]; simp [go_sem]
  have r1 : W.cell? ⟨w.heap.size, 1, none⟩ = some (.int .i64 0) := by rw [hW]; simp [go_sem]
  have r2 : W.cell? ⟨w.heap.size, 2, none⟩ = some (.int .i64 0) := by rw [hW]; simp [go_sem]
  have r3 : W.cell? ⟨w.heap.size, 3, none⟩ = some (.int .i64 0) := by rw [hW]; simp [go_sem]
  have rf : ∀ j, W.frozen? ⟨w.heap.size, j, none⟩ = false := fun j => by rw [hW]; simp [go_sem]
  have rl : w.heap.size < W.heap.size := by rw [hW]; simp
  have HQ : Hid (∀ u, Below W.heap.size W u → u.cell? ⟨w.heap.size, 0, none⟩ = some (.int .i64 0) ∧ u.cell? ⟨w.heap.size, 1, none⟩ = some (.int .i64 0) ∧ u.cell? ⟨w.heap.size, 2, none⟩ = some (.int .i64 0) ∧ u.cell? ⟨w.heap.size, 3, none⟩ = some (.int .i64 0) ∧ (∀ j, u.frozen? ⟨w.heap.size, j, none⟩ = false) ∧ w.heap.size < u.heap.size) := fun u hu => ⟨cell_keep hu r0, cell_keep hu r1, cell_keep hu r2, cell_keep hu r3, fun j => by rw [(bcell hu).2 _ _ rl]; exact rf j, Nat.lt_of_lt_of_le rl hu.size⟩
  have HB0 : Hid (Below w.heap.size w W) := hb0
  have HR : Hid (W.rangeAt 0 0 [.int .i64 1, .int .i64 1, .int .i64 12, .int .i64 13, .int .i64 2, .int .i64 2, .int .i64 12, .int .i64 14, .int .i64 4, .int .i64 2, .int .i64 2, .int .i64 15, .int .i64 8, .int .i64 2, .int .i64 6, .int .i64 16]) := (hF.below hb0).range
  clear hF hb0 hW r0 r1 r2 r3 rf rl
  go_enter Tryz.func38, Tryz.ntmps38
  go_wp2_with (rw [← HW.out]; refine wpList_load_mid rfl 99 _ rfl 0 0 rfl [.int .i64 1, .int .i64 1, .int .i64 12, .int .i64 13, .int .i64 2, .int .i64 2, .int .i64 12, .int .i64 14, .int .i64 4, .int .i64 2, .int .i64 2, .int .i64 15, .int .i64 8, .int .i64 2, .int .i64 6, .int .i64 16] _ HR.out Tryz.underlying99 rfl (by kernel_rfl) ?_; clear HR)
  go_loopw [7] (fun i wr => ∃ j : Nat, j ≤ 4 ∧ i = .int .i64 (j : Int) ∧ Hid (∀ q, q < j → fusT.getD (q * 4 + 3) 0 ≠ k) ∧ Below W.heap.size W wr) (fun i _ => 4 - (RowKit.intOf i).toNat)
  case atStart => exact ⟨0, by omega, rfl, fun q hq => by omega, Below.refl _ _⟩
  case round =>
    obtain ⟨j, hj, rfl, HN, hb⟩ := hrel
    obtain ⟨q0, q1, q2, q3, qf, ql⟩ := HQ.out wr hb
    have HB : Hid (Below w.heap.size w wr) := HB0.out.trans (hb.mono HB0.out.size)
    have HBW : Hid (Below W.heap.size W wr) := hb
    clear hb
    rcases (show j = 0 ∨ j = 1 ∨ j = 2 ∨ j = 3 ∨ j = 4 by omega) with rfl | rfl | rfl | rfl | rfl
    · have hix := idxFu0
      by_cases hk : k = 13
      · subst hk
        clear HN
        go_wp2
        refine bodyPost_ret (v := .tuple #[fusV 0, .bool true]) (by simp [results, Tryz.results38, go_sem, fusV, fusT, ql, q0, q1, q2, q3]) rfl ⟨by simp [fusK], ?_⟩
        repeat (first | exact HB.out | refine Below.setCell ?_ (by have := HB.out.size; simp at this ⊢ <;> omega) _ | refine Below.alloc ?_ (by have := HB.out.size; simp at this ⊢ <;> omega) _)
      · have HN2 : Hid (∀ q, q < 1 → fusT.getD (q * 4 + 3) 0 ≠ k) := fun q hq => by
          by_cases e : q < 0
          · exact HN.out q e
          · have : q = 0 := by omega
            subst this
            exact fun e => hk e.symm
        clear HN
        go_wp2
        refine ⟨⟨1, by omega, rfl, HN2.out, ?_⟩, by simp [RowKit.intOf]⟩
        repeat (first | exact HBW.out | refine Below.setCell ?_ (by have := HBW.out.size; simp at this ⊢ <;> omega) _ | refine Below.alloc ?_ (by have := HBW.out.size; simp at this ⊢ <;> omega) _)
    · have hix := idxFu1
      by_cases hk : k = 14
      · subst hk
        clear HN
        go_wp2
        refine bodyPost_ret (v := .tuple #[fusV 1, .bool true]) (by simp [results, Tryz.results38, go_sem, fusV, fusT, ql, q0, q1, q2, q3]) rfl ⟨by simp [fusK], ?_⟩
        repeat (first | exact HB.out | refine Below.setCell ?_ (by have := HB.out.size; simp at this ⊢ <;> omega) _ | refine Below.alloc ?_ (by have := HB.out.size; simp at this ⊢ <;> omega) _)
      · have HN2 : Hid (∀ q, q < 2 → fusT.getD (q * 4 + 3) 0 ≠ k) := fun q hq => by
          by_cases e : q < 1
          · exact HN.out q e
          · have : q = 1 := by omega
            subst this
            exact fun e => hk e.symm
        clear HN
        go_wp2
        refine ⟨⟨2, by omega, rfl, HN2.out, ?_⟩, by simp [RowKit.intOf]⟩
        repeat (first | exact HBW.out | refine Below.setCell ?_ (by have := HBW.out.size; simp at this ⊢ <;> omega) _ | refine Below.alloc ?_ (by have := HBW.out.size; simp at this ⊢ <;> omega) _)
    · have hix := idxFu2
      by_cases hk : k = 15
      · subst hk
        clear HN
        go_wp2
        refine bodyPost_ret (v := .tuple #[fusV 2, .bool true]) (by simp [results, Tryz.results38, go_sem, fusV, fusT, ql, q0, q1, q2, q3]) rfl ⟨by simp [fusK], ?_⟩
        repeat (first | exact HB.out | refine Below.setCell ?_ (by have := HB.out.size; simp at this ⊢ <;> omega) _ | refine Below.alloc ?_ (by have := HB.out.size; simp at this ⊢ <;> omega) _)
      · have HN2 : Hid (∀ q, q < 3 → fusT.getD (q * 4 + 3) 0 ≠ k) := fun q hq => by
          by_cases e : q < 2
          · exact HN.out q e
          · have : q = 2 := by omega
            subst this
            exact fun e => hk e.symm
        clear HN
        go_wp2
        refine ⟨⟨3, by omega, rfl, HN2.out, ?_⟩, by simp [RowKit.intOf]⟩
        repeat (first | exact HBW.out | refine Below.setCell ?_ (by have := HBW.out.size; simp at this ⊢ <;> omega) _ | refine Below.alloc ?_ (by have := HBW.out.size; simp at this ⊢ <;> omega) _)
    · have hix := idxFu3
      by_cases hk : k = 16
      · subst hk
        clear HN
        go_wp2
        refine bodyPost_ret (v := .tuple #[fusV 3, .bool true]) (by simp [results, Tryz.results38, go_sem, fusV, fusT, ql, q0, q1, q2, q3]) rfl ⟨by simp [fusK], ?_⟩
        repeat (first | exact HB.out | refine Below.setCell ?_ (by have := HB.out.size; simp at this ⊢ <;> omega) _ | refine Below.alloc ?_ (by have := HB.out.size; simp at this ⊢ <;> omega) _)
      · have HN2 : Hid (∀ q, q < 4 → fusT.getD (q * 4 + 3) 0 ≠ k) := fun q hq => by
          by_cases e : q < 3
          · exact HN.out q e
          · have : q = 3 := by omega
            subst this
            exact fun e => hk e.symm
        clear HN
        go_wp2
        refine ⟨⟨4, by omega, rfl, HN2.out, ?_⟩, by simp [RowKit.intOf]⟩
        repeat (first | exact HBW.out | refine Below.setCell ?_ (by have := HBW.out.size; simp at this ⊢ <;> omega) _ | refine Below.alloc ?_ (by have := HBW.out.size; simp at this ⊢ <;> omega) _)
    · have HE : Hid (fusK k = 4) := fusK_no HN.out
      clear HN
      go_wp2
      refine bodyPost_ret (v := .tuple #[fusV 4, .bool false]) (by simp [results, Tryz.results38, go_sem, fusV, fusT, q0, q1, q2, q3]) rfl ⟨by rw [HE.out]; rfl, ?_⟩
      repeat (first | refine Below.setCell ?_ (by simp) _ | exact HB.out)
end Go.Proofs.YteboaiklibaomaaGreatDoor
/-
  What the lists of chapter 11 give a walk: the tables of the list before, and the program's own table of pairs.
-/
namespace Go.Proofs.YteboaiklibaomaaGreatDoor
open Go.ChangeShapes Go.WideShapes Go.ChangeAt Go.RowKit Go.Lib

theorem varB {P : Program} {B g : Nat} {W W' : World} {n : String} {cs : Array Value} (h : Below B W W') (hg : P.globalNamed n = some g) (hgB : g < B) (hv : W.var? P n = some cs) : W'.var? P n = some cs := by
  unfold World.var? at hv ⊢
  simp only [hg, Option.bind_some] at hv ⊢
  rw [h.block g hgB]
  exact hv
theorem gFus : Tryz.prog.globalNamed "loop.example/g00349/impl.fusions" = some 0 := by kernel_rfl
theorem gFusType : (Tryz.prog.globals[0]?).map (·.type) = some 99 := by kernel_rfl
theorem cellsFus : Tryz.prog.cellsOf 68 = 4 := by kernel_rfl
theorem cellsFus4 : Tryz.prog.cellsOf 99 = 16 := by kernel_rfl
theorem cellsFusI : Tryz.prog.cellsOf 2 = 1 := by kernel_rfl
theorem list4 {α : Type} {cs : List α} (h : cs.length = 4) : ∃ c0 c1 c2 c3, cs = [c0, c1, c2, c3] := by
  match cs, h with
  | [c0, c1, c2, c3], _ => exact ⟨c0, c1, c2, c3, rfl⟩
set_option maxRecDepth 100000 in
theorem fus4 {H : Type} {enc : TypeId × Value → H} {w : World} {base : Nat} {sp : Nat → Bool} {held : Bool} {fuel : Nat} {cs : List Value} {a b c d : Int} {p : List MemPlace}
    (h : DataW.trod enc Tryz.prog w base sp held fuel 68 cs = some (.agg [.lit (.int .i64 a), .lit (.int .i64 b), .lit (.int .i64 c), .lit (.int .i64 d)], p)) : cs = [.int .i64 a, .int .i64 b, .int .i64 c, .int .i64 d] := by
  obtain ⟨y0, y1, y2, y3, n, hx, hl, h0, h1, h2, h3⟩ := Go.Joins.trod_struct4 Tryz.underlying68 h
  have hl' : cs.length = 4 := hl.trans cellsFus
  obtain ⟨c0, c1, c2, c3, rfl⟩ := list4 hl'
  rw [cellsFusI] at h0 h1 h2 h3
  obtain ⟨z0, e0, r0, _⟩ := DataW.trod_int Tryz.underlying2 h0
  obtain ⟨z1, e1, r1, _⟩ := DataW.trod_int Tryz.underlying2 h1
  obtain ⟨z2, e2, r2, _⟩ := DataW.trod_int Tryz.underlying2 h2
  obtain ⟨z3, e3, r3, _⟩ := DataW.trod_int Tryz.underlying2 h3
  subst r0 r1 r2 r3
  simp at hx e0 e1 e2 e3
  obtain ⟨⟨q0, q1, q2, q3⟩, -⟩ := hx
  subst q0 q1 q2 q3 e0 e1 e2 e3
  rfl
set_option maxRecDepth 100000 in
theorem fu_of_laid {W : World} (h : laidMet Tryz.prog [("loop.example/g00349/impl.fusions", Rows.laid_loop_example_g00349_impl_fusions)] W) : FU W := by
  obtain ⟨ps, ⟨g', t', cs, fuel, p, q, hg', ht', hvar, hd, _, _⟩, _⟩ := h
  obtain rfl := Option.some.inj (gFus.symm.trans hg')
  obtain rfl := Option.some.inj (gFusType.symm.trans ht')
  obtain ⟨xs, m, _, hx, hl, hn, hf⟩ := DataW.trod_array Tryz.underlying99 hd
  rw [cellsFus4] at hl
  rw [cellsFus] at hf
  obtain ⟨x0, x1, x2, x3, rfl⟩ := list4 hn
  unfold Rows.laid_loop_example_g00349_impl_fusions at hx
  simp at hx
  obtain ⟨⟨r0, r1, r2, r3⟩, -⟩ := hx
  have h0 := hf 0 (by omega)
  have h1 := hf 1 (by omega)
  have h2 := hf 2 (by omega)
  have h3 := hf 3 (by omega)
  obtain ⟨d0, p0⟩ := x0
  obtain ⟨d1, p1⟩ := x1
  obtain ⟨d2, p2⟩ := x2
  obtain ⟨d3, p3⟩ := x3
  simp only at r0 r1 r2 r3
  subst r0 r1 r2 r3
  have k0 := fus4 h0
  have k1 := fus4 h1
  have k2 := fus4 h2
  have k3 := fus4 h3
  have hc : cs.toList = [.int .i64 1, .int .i64 1, .int .i64 12, .int .i64 13, .int .i64 2, .int .i64 2, .int .i64 12, .int .i64 14, .int .i64 4, .int .i64 2, .int .i64 2, .int .i64 15, .int .i64 8, .int .i64 2, .int .i64 6, .int .i64 16] := by
    generalize cs.toList = L at hl k0 k1 k2 k3
    have e1 : L = (L.drop (0 * 4)).take 4 ++ ((L.drop (1 * 4)).take 4 ++ ((L.drop (2 * 4)).take 4 ++ (L.drop (3 * 4)).take 4)) := by
      have a3 : (L.drop (3 * 4)).take 4 = L.drop 12 := List.take_of_length_le (by simp; omega)
      have a2 : (L.drop 8).take 4 ++ L.drop 12 = L.drop 8 := by
        have := List.take_append_drop 4 (L.drop 8)
        rwa [List.drop_drop] at this
      have a1 : (L.drop 4).take 4 ++ L.drop 8 = L.drop 4 := by
        have := List.take_append_drop 4 (L.drop 4)
        rwa [List.drop_drop] at this
      have a0 : (L.drop 0).take 4 ++ L.drop 4 = L := by
        rw [List.drop_zero]; exact List.take_append_drop 4 L
      rw [a3]
      show L = (L.drop 0).take 4 ++ ((L.drop 4).take 4 ++ ((L.drop 8).take 4 ++ L.drop 12))
      rw [a2, a1, a0]
    rw [e1, k0, k1, k2, k3]
    rfl
  have hcell : ∀ j v, ([.int .i64 1, .int .i64 1, .int .i64 12, .int .i64 13, .int .i64 2, .int .i64 2, .int .i64 12, .int .i64 14, .int .i64 4, .int .i64 2, .int .i64 2, .int .i64 15, .int .i64 8, .int .i64 2, .int .i64 6, .int .i64 16] : List Value)[j]? = some v → W.cell? ⟨0, j, none⟩ = some v := fun j v hj => by
    rw [World.var?_cell hg' hvar j]
    rw [← hc] at hj
    simpa using hj
  exact ⟨World.block_lt_of_cell? W ⟨0, 0, none⟩ (hcell 0 _ rfl), fun j v hj => by rw [Nat.zero_add]; exact hcell j v hj⟩
theorem lt_of_laid11 {W : World} (h : laidMetH Tryz.prog [("math/bits.deBruijn32tab", Rows.laid_math_bits_deBruijn32tab), ("math/bits.deBruijn64tab", Rows.laid_math_bits_deBruijn64tab), ("internal/strconv.uint64pow10", Rows.laid_internal_strconv_uint64pow10), ("errors.errorType", Rows.laid_errors_errorType), ("loop.example/g00349/impl.fusions", Rows.laid_loop_example_g00349_impl_fusions)] W) : LT W ∧ FU W := by
  have h' : laidMet Tryz.prog [("math/bits.deBruijn32tab", Rows.laid_math_bits_deBruijn32tab), ("math/bits.deBruijn64tab", Rows.laid_math_bits_deBruijn64tab), ("internal/strconv.uint64pow10", Rows.laid_internal_strconv_uint64pow10), ("loop.example/g00349/impl.fusions", Rows.laid_loop_example_g00349_impl_fusions)] W ∧ handlesMet Tryz.prog [("errors.errorType", Rows.laid_errors_errorType)] W := h
  exact ⟨⟨et_of_handles h'.2, tab_of_laid h'.1.tail.tail⟩, fu_of_laid h'.1.tail.tail.tail⟩
end Go.Proofs.YteboaiklibaomaaGreatDoor
