/-
  A slice of Op, and one Op, that came in, opened: what lies where it leads, and where the slice of each leads.
-/
import Derived.Test.YtkdhmijebkhmaaaDoorStOp
import Derived.Test.YtkdhmijebkhmaaaDoorOpDatum
namespace Go.Proofs.YtkdhmijebkhmaaaDoor
open Go.ChangeShapes Go.WideShapes Go.ChangeAt Go.RowKit

theorem cellsLOp : Tryd.prog.cellsOf 24 = 7 := by kernel_rfl
theorem cellsSubOp : Tryd.prog.cellsOf 22 = 1 := by kernel_rfl
theorem trod_structnOp {H : Type} {enc : TypeId × Value → H} {P : Program} {w : World} {base : Nat} {spare : Nat → Bool} {held : Bool} {t : TypeId} {f0 f1 f2 f3 f4 f5 f6 : Field} {fuel : Nat} {cs : List Value} {x : DataW H × List MemPlace} (ht : P.underlying t = some (.struct #[f0, f1, f2, f3, f4, f5, f6])) (h : DataW.trod enc P w base spare held fuel t cs = some x) :
    ∃ y0 y1 y2 y3 y4 y5 y6 n, cs.length = P.cellsOf t ∧ DataW.trod enc P w base spare held n f0.type ((cs.drop f0.offset).take (P.cellsOf f0.type)) = some y0 ∧ DataW.trod enc P w base spare held n f1.type ((cs.drop f1.offset).take (P.cellsOf f1.type)) = some y1 ∧ DataW.trod enc P w base spare held n f2.type ((cs.drop f2.offset).take (P.cellsOf f2.type)) = some y2 ∧ DataW.trod enc P w base spare held n f3.type ((cs.drop f3.offset).take (P.cellsOf f3.type)) = some y3 ∧ DataW.trod enc P w base spare held n f4.type ((cs.drop f4.offset).take (P.cellsOf f4.type)) = some y4 ∧ DataW.trod enc P w base spare held n f5.type ((cs.drop f5.offset).take (P.cellsOf f5.type)) = some y5 ∧ DataW.trod enc P w base spare held n f6.type ((cs.drop f6.offset).take (P.cellsOf f6.type)) = some y6 := by
  obtain ⟨xs, n, _, rfl, hl, hlen, hf⟩ := DataW.trod_struct ht h
  match xs, hlen with
  | [y0, y1, y2, y3, y4, y5, y6], _ => exact ⟨y0, y1, y2, y3, y4, y5, y6, n, hl, by simpa using hf 0 f0 rfl, by simpa using hf 1 f1 rfl, by simpa using hf 2 f2 rfl, by simpa using hf 3 f3 rfl, by simpa using hf 4 f4 rfl, by simpa using hf 5 f5 rfl, by simpa using hf 6 f6 rfl⟩
set_option maxRecDepth 100000 in
/-- The cells of one, as they are read. -/
theorem oneOp_of_trod {H : Type} {enc : TypeId × Value → H} {W : World} {base : Nat} {sp : Nat → Bool} {held : Bool} {n : Nat} {cs : List Value} {x : DataW H × List MemPlace}
    (h : DataW.trod enc Tryd.prog W base sp held n 24 cs = some x) : ∃ (t : Opr) (ao : Option Addr) (cap : Nat), cs = t.cells (.slice ao t.data.length cap) ∧ MemD W ao t.data ∧ t.able := by
  obtain ⟨y0, y1, y2, y3, y4, y5, y6, m, hl, t0, t1, t2, t3, t4, t5, t6⟩ := trod_structnOp Tryd.underlying24 h
  rw [cellsLOp] at hl
  match cs, hl with
    | [c0, c1, c2, c3, c4, c5, c6], _ =>
      simp only [cellsID, cellsSD, cellsSubOp, List.drop, List.take] at t0 t1 t2 t3 t4 t5 t6
      obtain ⟨v0, hv0, _, _⟩ := DataW.trod_int Tryd.underlying2 t0
      obtain ⟨v1, hv1, _, _⟩ := DataW.trod_int Tryd.underlying2 t1
      obtain ⟨v2, hv2, _, _⟩ := DataW.trod_int Tryd.underlying2 t2
      obtain ⟨v3, hv3, _, _⟩ := DataW.trod_int Tryd.underlying2 t3
      obtain ⟨v4, hv4, _, _⟩ := DataW.trod_int Tryd.underlying2 t4
      obtain ⟨v5, hv5, _, hm⟩ := DataW.trod_string Tryd.underlying9 t5
      simp only [List.cons.injEq, and_true] at hv0 hv1 hv2 hv3 hv4 hv5
      subst hv0 hv1 hv2 hv3 hv4 hv5
      obtain ⟨ao, len, cap, rfl⟩ : ∃ ao len cap, c6 = .slice ao len cap := by
        rcases Deep.open_slice Tryd.underlying22 t6 with ⟨hcs, _⟩ | ⟨a, len, cap, _, _, _, _, hcs, _⟩
        · exact ⟨_, _, _, by simpa using hcs⟩
        · exact ⟨_, _, _, by simpa using hcs⟩
      obtain ⟨l, rfl, hM, hll, hz⟩ := memD_of_trod (enc := enc) (base := base) (sp := sp) (held := held) (d0 := y6.1) (p0 := y6.2) ⟨m, by simpa [Value.cells] using t6⟩
      unfold maxLen at hm
      exact ⟨⟨v0, v1, v2, v3, v4, v5, l⟩, ao, cap, rfl, hM, ⟨by show v5.size ≤ _; omega, hll, hz⟩⟩
theorem chooseOp (n : Nat) {p : Nat → Opr → Prop} (h : ∀ i, i < n → ∃ t, p i t) : ∃ f : Nat → Opr, ∀ i, i < n → p i (f i) := by
  classical
  refine ⟨fun i => if hi : i < n then Classical.choose (h i hi) else ⟨0, 0, 0, 0, 0, ⟨#[]⟩, []⟩, fun i hi => ?_⟩
  simp only [dif_pos hi]
  exact Classical.choose_spec (h i hi)
set_option maxRecDepth 100000 in
/-- One that came in by value. -/
theorem openOp {H : Type} {enc : TypeId × Value → H} {W : World} {b0 base : Nat} {sp : Nat → Bool} {held : Bool} {v : Value} {d : DataW H} {p : List MemPlace}
    (hv : Value.okWide Tryd.prog W .any b0 24 v) (h : DataW.Trod enc Tryd.prog W base sp held 24 v d p) : ∃ (t : Opr) (ao : Option Addr) (cap : Nat), v = t.val (.slice ao t.data.length cap) ∧ MemD W ao t.data ∧ t.able := by
  obtain ⟨cs, rfl, _⟩ := okWide_struct Tryd.underlying24 hv
  obtain ⟨n, hn⟩ := h
  obtain ⟨t, ao, cap, e, hM, ha⟩ := oneOp_of_trod hn
  refine ⟨t, ao, cap, ?_, hM, ha⟩
  have e2 : cs.toList = t.cells (.slice ao t.data.length cap) := by simpa [Value.cells] using e
  have e3 : cs = #[.int .i64 t.kind, .int .i64 t.a, .int .i64 t.b, .int .i64 t.c, .int .i64 t.d, .string t.name, (.slice ao t.data.length cap)] := by apply Array.toList_inj.1; rw [e2]; rfl
  rw [e3]
end Go.Proofs.YtkdhmijebkhmaaaDoor
