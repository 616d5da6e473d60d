/-
  A slice of Block, and one Block, that came in, opened: what lies where it leads, and where the slice of each leads.
-/
import Derived.Test.YtkdhmijebkhmaaaStBlock
import Derived.Test.YtkdhmijebkhmaaaOpOp
namespace Go.Proofs.Ytkdhmijebkhmaaa
open Go.ChangeShapes Go.WideShapes Go.ChangeAt Go.RowKit

theorem cellsLBl : Try.prog.cellsOf 31 = 2 := by kernel_rfl
theorem cellsSubBl : Try.prog.cellsOf 29 = 1 := by kernel_rfl
theorem trod_structnBl {H : Type} {enc : TypeId × Value → H} {P : Program} {w : World} {base : Nat} {spare : Nat → Bool} {held : Bool} {t : TypeId} {f0 f1 : Field} {fuel : Nat} {cs : List Value} {x : DataW H × List MemPlace} (ht : P.underlying t = some (.struct #[f0, f1])) (h : DataW.trod enc P w base spare held fuel t cs = some x) :
    ∃ y0 y1 n, cs.length = P.cellsOf t ∧ DataW.trod enc P w base spare held n f0.type ((cs.drop f0.offset).take (P.cellsOf f0.type)) = some y0 ∧ DataW.trod enc P w base spare held n f1.type ((cs.drop f1.offset).take (P.cellsOf f1.type)) = some y1 := by
  obtain ⟨xs, n, _, rfl, hl, hlen, hf⟩ := DataW.trod_struct ht h
  match xs, hlen with
  | [y0, y1], _ => exact ⟨y0, y1, n, hl, by simpa using hf 0 f0 rfl, by simpa using hf 1 f1 rfl⟩
set_option maxRecDepth 100000 in
/-- The cells of one, as they are read. -/
theorem oneBl_of_trod {H : Type} {enc : TypeId × Value → H} {W : World} {base : Nat} {sp : Nat → Bool} {held : Bool} {n : Nat} {cs : List Value} {x : DataW H × List MemPlace}
    (h : DataW.trod enc Try.prog W base sp held n 31 cs = some x) : ∃ (t : Blk) (ao : Option Addr) (cap : Nat), cs = t.cells (.slice ao t.ops.length cap) ∧ MemOp W ao t.ops ∧ t.able := by
  obtain ⟨y0, y1, m, hl, t0, t1⟩ := trod_structnBl Try.underlying31 h
  rw [cellsLBl] at hl
  match cs, hl with
    | [c0, c1], _ =>
      simp only [cellsID, cellsSubBl, List.drop, List.take] at t0 t1
      obtain ⟨v0, hv0, _, _⟩ := DataW.trod_int Try.underlying2 t0
      simp only [List.cons.injEq, and_true] at hv0
      subst hv0
      obtain ⟨ao, len, cap, rfl⟩ : ∃ ao len cap, c1 = .slice ao len cap := by
        rcases Deep.open_slice Try.underlying29 t1 with ⟨hcs, _⟩ | ⟨a, len, cap, _, _, _, _, hcs, _⟩
        · exact ⟨_, _, _, by simpa using hcs⟩
        · exact ⟨_, _, _, by simpa using hcs⟩
      obtain ⟨l, rfl, hM, hll, hz⟩ := memOp_of_trod (enc := enc) (base := base) (sp := sp) (held := held) (d0 := y1.1) (p0 := y1.2) ⟨m, by simpa [Value.cells] using t1⟩
      exact ⟨⟨v0, l⟩, ao, cap, rfl, hM, ⟨hll, hz⟩⟩
theorem chooseBl (n : Nat) {p : Nat → Blk → Prop} (h : ∀ i, i < n → ∃ t, p i t) : ∃ f : Nat → Blk, ∀ i, i < n → p i (f i) := by
  classical
  refine ⟨fun i => if hi : i < n then Classical.choose (h i hi) else ⟨0, []⟩, fun i hi => ?_⟩
  simp only [dif_pos hi]
  exact Classical.choose_spec (h i hi)
set_option maxRecDepth 100000 in
theorem memBl_of_trod {H : Type} {enc : TypeId × Value → H} {W : World} {base : Nat} {sp : Nat → Bool} {held : Bool} {a0 : Option Addr} {len0 cap0 : Nat} {d0 : DataW H} {p0 : List MemPlace}
    (h0 : DataW.Trod enc Try.prog W base sp held 22 (.slice a0 len0 cap0) d0 p0) : ∃ l : List Blk, len0 = l.length ∧ MemBl W a0 l ∧ len0 ≤ 9223372036854775807 ∧ ∀ (k : Nat) (h : k < l.length), l[k].able := by
  obtain ⟨fuel, hf⟩ := h0
  rcases Deep.open_slice Try.underlying22 hf with ⟨hcs, _⟩ | ⟨a, len, cap, m, n, D, Pl, hcs, _, hle, hmax, hm, _, hel⟩
  · simp [Value.cells] at hcs
    obtain ⟨rfl, rfl, rfl⟩ := hcs
    exact ⟨[], rfl, fun h => by simp at h, by omega, fun k h => by simp at h⟩
  · simp [Value.cells] at hcs
    obtain ⟨rfl, rfl, rfl⟩ := hcs
    have hlm : len0 ≤ m := by rw [hm]; split <;> omega
    unfold maxLen at hmax
    rw [cellsLBl] at hel
    have key : ∀ i, i < len0 → ∃ t : Blk, W.cell? (a.add (i * 2)) = some (.int .i64 t.args) ∧ (∃ ao cap, W.cell? ((a.add (i * 2)).add 1) = some (.slice ao t.ops.length cap) ∧ MemOp W ao t.ops) ∧ t.able := by
      intro i hi
      obtain ⟨cs', hc, ht⟩ := hel i (by omega)
      obtain ⟨t, ao, cap, rfl, hM, hs⟩ := oneBl_of_trod ht
      obtain ⟨_, _, hcell⟩ := World.cells?_some hc
      have h0 := hcell 0 (by omega)
      have h1 := hcell 1 (by omega)
      exact ⟨t, by simpa [Addr.add, Blk.cells] using h0, ⟨ao, cap, by simpa [Blk.cells] using h1, hM⟩, hs⟩
    obtain ⟨f, hf⟩ := chooseBl len0 key
    refine ⟨(List.range len0).map f, by simp, ?_, by omega, ?_⟩
    · intro hpos
      have hpos' : 0 < len0 := by simpa using hpos
      obtain ⟨b, off, spot⟩ := a
      have hspot : spot = none := by simpa [Addr.add] using World.cell?_spot (hf 0 hpos').1
      subst hspot
      refine ⟨b, off, rfl, fun k hk => ?_⟩
      have hk' : k < len0 := by simpa using hk
      obtain ⟨e0, ⟨ao, cap, ez, hM⟩, _⟩ := hf k hk'
      have ha : ∀ j, (⟨b, off, none⟩ : Addr).add j = ⟨b, off + j, none⟩ := fun j => by unfold Addr.add; split <;> simp_all
      rw [Deep.add_add, ha] at  ez
      rw [ha] at e0
      simp only [List.getElem_map, List.getElem_range]
      exact ⟨e0, ao, cap, ez, hM⟩
    · intro k hk
      have hk' : k < len0 := by simpa using hk
      simp only [List.getElem_map, List.getElem_range]
      exact (hf k hk').2.2
set_option maxRecDepth 100000 in
/-- One that came in by value. -/
theorem openBl {H : Type} {enc : TypeId × Value → H} {W : World} {b0 base : Nat} {sp : Nat → Bool} {held : Bool} {v : Value} {d : DataW H} {p : List MemPlace}
    (hv : Value.okWide Try.prog W .any b0 31 v) (h : DataW.Trod enc Try.prog W base sp held 31 v d p) : ∃ (t : Blk) (ao : Option Addr) (cap : Nat), v = t.val (.slice ao t.ops.length cap) ∧ MemOp W ao t.ops ∧ t.able := by
  obtain ⟨cs, rfl, _⟩ := okWide_struct Try.underlying31 hv
  obtain ⟨n, hn⟩ := h
  obtain ⟨t, ao, cap, e, hM, ha⟩ := oneBl_of_trod hn
  refine ⟨t, ao, cap, ?_, hM, ha⟩
  have e2 : cs.toList = t.cells (.slice ao t.ops.length cap) := by simpa [Value.cells] using e
  have e3 : cs = #[.int .i64 t.args, (.slice ao t.ops.length cap)] := by apply Array.toList_inj.1; rw [e2]; rfl
  rw [e3]
end Go.Proofs.Ytkdhmijebkhmaaa
