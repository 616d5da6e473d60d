/-
  Parts of the proof laid into one text, one behind the other: OpDatum, OpOp, OpBlock. Contracts of the program's and the model's functions, and what they are proved of, as their theorems say.
-/
import Derived.Test.YtoafolefecddmaaGreatDoorStDatumHv
import Derived.OpenShut
import Derived.WalkKit
import Derived.Deep.Slices
import Derived.Deep.Strs
import Derived.Lib.SmallJoins
import Derived.Test.YtoafolefecddmaaGreatDoorTiE
namespace Go.Proofs.YtoafolefecddmaaGreatDoor
open Go.ChangeShapes Go.WideShapes Go.ChangeAt Go.RowKit
theorem cellsLD : Tryz.prog.cellsOf 259 = 4 := by kernel_rfl
theorem cellsID : Tryz.prog.cellsOf 2 = 1 := by kernel_rfl
theorem cellsSD : Tryz.prog.cellsOf 9 = 1 := by kernel_rfl
set_option maxRecDepth 100000 in
theorem oneD_of_trod {H : Type} {enc : TypeId × Value → H} {W : World} {base : Nat} {sp : Nat → Bool} {held : Bool} {n : Nat} {cs : List Value} {x : DataW H × List MemPlace}
    (h : DataW.trod enc Tryz.prog W base sp held n 259 cs = some x) : ∃ t : Dat, cs = t.cells ∧ t.name.size ≤ maxLen := by
  obtain ⟨y0, y1, y2, y3, m, _, hl, t0, t1, t2, t3⟩ := Joins.trod_struct4 Tryz.underlying259 h
  rw [cellsLD] at hl
  match cs, hl with
  | [c0, c1, c2, c3], _ =>
    simp only [cellsID, cellsSD, List.drop, List.take] at t0 t1 t2 t3
    obtain ⟨v0, hv0, _, _⟩ := DataW.trod_int Tryz.underlying2 t0
    obtain ⟨v1, hv1, _, _⟩ := DataW.trod_int Tryz.underlying2 t1
    obtain ⟨v2, hv2, _, _⟩ := DataW.trod_int Tryz.underlying2 t2
    obtain ⟨v3, hv3, _, hm⟩ := DataW.trod_string Tryz.underlying9 t3
    simp only [List.cons.injEq, and_true] at hv0 hv1 hv2 hv3
    subst hv0 hv1 hv2 hv3
    exact ⟨⟨v0, v1, v2, v3⟩, rfl, hm⟩
theorem chooseD (n : Nat) {p : Nat → Dat → Prop} (h : ∀ i, i < n → ∃ t, p i t) : ∃ f : Nat → Dat, ∀ i, i < n → p i (f i) := by
  classical
  refine ⟨fun i => if hi : i < n then Classical.choose (h i hi) else ⟨0, 0, 0, ⟨#[]⟩⟩, fun i hi => ?_⟩
  simp only [dif_pos hi]
  exact Classical.choose_spec (h i hi)
set_option maxRecDepth 100000 in
theorem memD_of_trod {H : Type} {enc : TypeId × Value → H} {W : World} {base : Nat} {sp : Nat → Bool} {held : Bool} {a0 : Option Addr} {len0 cap0 : Nat} {d0 : DataW H} {p0 : List MemPlace}
    (h0 : DataW.Trod enc Tryz.prog W base sp held 164 (.slice a0 len0 cap0) d0 p0) : ∃ l : List Dat, len0 = l.length ∧ MemD W a0 l ∧ len0 ≤ 9223372036854775807 ∧ ∀ (k : Nat) (h : k < l.length), l[k].name.size ≤ 9223372036854775807 := by
  obtain ⟨fuel, hf⟩ := h0
  rcases Deep.open_slice Tryz.underlying164 hf with ⟨hcs, _⟩ | ⟨a, len, cap, m, n, D, Pl, hcs, _, hle, hmax, hm, _, hel⟩
  · simp [Value.cells] at hcs
    obtain ⟨rfl, rfl, rfl⟩ := hcs
    exact ⟨[], rfl, fun h => by simp at h, by omega, fun k h => by simp at h⟩
  · simp [Value.cells] at hcs
    obtain ⟨rfl, rfl, rfl⟩ := hcs
    have hlm : len0 ≤ m := by rw [hm]; split <;> omega
    unfold maxLen at hmax
    rw [cellsLD] at hel
    have key : ∀ i, i < len0 → ∃ t : Dat, W.cell? (a.add (i * 4)) = some (.int .i64 t.kind) ∧ W.cell? ((a.add (i * 4)).add 1) = some (.int .i64 t.parent) ∧ W.cell? ((a.add (i * 4)).add 2) = some (.int .i64 t.num) ∧ W.cell? ((a.add (i * 4)).add 3) = some (.string t.name) ∧ t.name.size ≤ maxLen := by
      intro i hi
      obtain ⟨cs', hc, ht⟩ := hel i (by omega)
      obtain ⟨t, rfl, hs⟩ := oneD_of_trod ht
      obtain ⟨_, _, hcell⟩ := World.cells?_some hc
      have h0 := hcell 0 (by omega)
      have h1 := hcell 1 (by omega)
      have h2 := hcell 2 (by omega)
      have h3 := hcell 3 (by omega)
      exact ⟨t, by simpa [Addr.add, Dat.cells] using h0, by simpa [Dat.cells] using h1, by simpa [Dat.cells] using h2, by simpa [Dat.cells] using h3, hs⟩
    obtain ⟨f, hf⟩ := chooseD len0 key
    refine ⟨(List.range len0).map f, by simp, ?_, by omega, ?_⟩
    · intro hpos
      have hpos' : 0 < len0 := by simpa using hpos
      obtain ⟨b, off, spot⟩ := a
      have hspot : spot = none := by simpa [Addr.add] using World.cell?_spot (hf 0 hpos').1
      subst hspot
      refine ⟨b, off, rfl, fun k hk => ?_⟩
      have hk' : k < len0 := by simpa using hk
      obtain ⟨e0, e1, e2, e3, _⟩ := hf k hk'
      have ha : ∀ j, (⟨b, off, none⟩ : Addr).add j = ⟨b, off + j, none⟩ := fun j => by unfold Addr.add; split <;> simp_all
      rw [Deep.add_add, ha] at e1 e2 e3
      rw [ha] at e0
      simp only [List.getElem_map, List.getElem_range]
      exact ⟨e0, e1, e2, e3⟩
    · intro k hk
      have hk' : k < len0 := by simpa using hk
      have := (hf k hk').2.2.2.2
      unfold maxLen at this
      simp only [List.getElem_map, List.getElem_range]
      omega
theorem cellsLOp : Tryz.prog.cellsOf 166 = 7 := by kernel_rfl
theorem cellsSubOp : Tryz.prog.cellsOf 164 = 1 := by kernel_rfl
theorem trod_structnOp {H : Type} {enc : TypeId × Value → H} {P : Program} {w : World} {base : Nat} {spare : Nat → Bool} {held : Bool} {t : TypeId} {f0 f1 f2 f3 f4 f5 f6 : Field} {fuel : Nat} {cs : List Value} {x : DataW H × List MemPlace} (ht : P.underlying t = some (.struct #[f0, f1, f2, f3, f4, f5, f6])) (h : DataW.trod enc P w base spare held fuel t cs = some x) :
    ∃ y0 y1 y2 y3 y4 y5 y6 n, cs.length = P.cellsOf t ∧ DataW.trod enc P w base spare held n f0.type ((cs.drop f0.offset).take (P.cellsOf f0.type)) = some y0 ∧ DataW.trod enc P w base spare held n f1.type ((cs.drop f1.offset).take (P.cellsOf f1.type)) = some y1 ∧ DataW.trod enc P w base spare held n f2.type ((cs.drop f2.offset).take (P.cellsOf f2.type)) = some y2 ∧ DataW.trod enc P w base spare held n f3.type ((cs.drop f3.offset).take (P.cellsOf f3.type)) = some y3 ∧ DataW.trod enc P w base spare held n f4.type ((cs.drop f4.offset).take (P.cellsOf f4.type)) = some y4 ∧ DataW.trod enc P w base spare held n f5.type ((cs.drop f5.offset).take (P.cellsOf f5.type)) = some y5 ∧ DataW.trod enc P w base spare held n f6.type ((cs.drop f6.offset).take (P.cellsOf f6.type)) = some y6 := by
  obtain ⟨xs, n, _, rfl, hl, hlen, hf⟩ := DataW.trod_struct ht h
  match xs, hlen with
  | [y0, y1, y2, y3, y4, y5, y6], _ => exact ⟨y0, y1, y2, y3, y4, y5, y6, n, hl, by simpa using hf 0 f0 rfl, by simpa using hf 1 f1 rfl, by simpa using hf 2 f2 rfl, by simpa using hf 3 f3 rfl, by simpa using hf 4 f4 rfl, by simpa using hf 5 f5 rfl, by simpa using hf 6 f6 rfl⟩
set_option maxRecDepth 100000 in
theorem oneOp_of_trod {H : Type} {enc : TypeId × Value → H} {W : World} {base : Nat} {sp : Nat → Bool} {held : Bool} {n : Nat} {cs : List Value} {x : DataW H × List MemPlace}
    (h : DataW.trod enc Tryz.prog W base sp held n 166 cs = some x) : ∃ (t : Opr) (ao : Option Addr) (cap : Nat), cs = t.cells (.slice ao t.data.length cap) ∧ MemD W ao t.data ∧ t.able := by
  obtain ⟨y0, y1, y2, y3, y4, y5, y6, m, hl, t0, t1, t2, t3, t4, t5, t6⟩ := trod_structnOp Tryz.underlying166 h
  rw [cellsLOp] at hl
  match cs, hl with
    | [c0, c1, c2, c3, c4, c5, c6], _ =>
      simp only [cellsID, cellsSD, cellsSubOp, List.drop, List.take] at t0 t1 t2 t3 t4 t5 t6
      obtain ⟨v0, hv0, _, _⟩ := DataW.trod_int Tryz.underlying2 t0
      obtain ⟨v1, hv1, _, _⟩ := DataW.trod_int Tryz.underlying2 t1
      obtain ⟨v2, hv2, _, _⟩ := DataW.trod_int Tryz.underlying2 t2
      obtain ⟨v3, hv3, _, _⟩ := DataW.trod_int Tryz.underlying2 t3
      obtain ⟨v4, hv4, _, _⟩ := DataW.trod_int Tryz.underlying2 t4
      obtain ⟨v5, hv5, _, hm⟩ := DataW.trod_string Tryz.underlying9 t5
      simp only [List.cons.injEq, and_true] at hv0 hv1 hv2 hv3 hv4 hv5
      subst hv0 hv1 hv2 hv3 hv4 hv5
      obtain ⟨ao, len, cap, rfl⟩ : ∃ ao len cap, c6 = .slice ao len cap := by
        rcases Deep.open_slice Tryz.underlying164 t6 with ⟨hcs, _⟩ | ⟨a, len, cap, _, _, _, _, hcs, _⟩
        · exact ⟨_, _, _, by simpa using hcs⟩
        · exact ⟨_, _, _, by simpa using hcs⟩
      obtain ⟨l, rfl, hM, hll, hz⟩ := memD_of_trod (enc := enc) (base := base) (sp := sp) (held := held) (d0 := y6.1) (p0 := y6.2) ⟨m, by simpa [Value.cells] using t6⟩
      unfold maxLen at hm
      exact ⟨⟨v0, v1, v2, v3, v4, v5, l⟩, ao, cap, rfl, hM, ⟨by show v5.size ≤ _; omega, hll, hz⟩⟩
theorem chooseOp (n : Nat) {p : Nat → Opr → Prop} (h : ∀ i, i < n → ∃ t, p i t) : ∃ f : Nat → Opr, ∀ i, i < n → p i (f i) := by
  classical
  refine ⟨fun i => if hi : i < n then Classical.choose (h i hi) else ⟨0, 0, 0, 0, 0, ⟨#[]⟩, []⟩, fun i hi => ?_⟩
  simp only [dif_pos hi]
  exact Classical.choose_spec (h i hi)
set_option maxRecDepth 100000 in
theorem memOp_of_trod {H : Type} {enc : TypeId × Value → H} {W : World} {base : Nat} {sp : Nat → Bool} {held : Bool} {a0 : Option Addr} {len0 cap0 : Nat} {d0 : DataW H} {p0 : List MemPlace}
    (h0 : DataW.Trod enc Tryz.prog W base sp held 75 (.slice a0 len0 cap0) d0 p0) : ∃ l : List Opr, len0 = l.length ∧ MemOp W a0 l ∧ len0 ≤ 9223372036854775807 ∧ ∀ (k : Nat) (h : k < l.length), l[k].able := by
  obtain ⟨fuel, hf⟩ := h0
  rcases Deep.open_slice Tryz.underlying75 hf with ⟨hcs, _⟩ | ⟨a, len, cap, m, n, D, Pl, hcs, _, hle, hmax, hm, _, hel⟩
  · simp [Value.cells] at hcs
    obtain ⟨rfl, rfl, rfl⟩ := hcs
    exact ⟨[], rfl, fun h => by simp at h, by omega, fun k h => by simp at h⟩
  · simp [Value.cells] at hcs
    obtain ⟨rfl, rfl, rfl⟩ := hcs
    have hlm : len0 ≤ m := by rw [hm]; split <;> omega
    unfold maxLen at hmax
    rw [cellsLOp] at hel
    have key : ∀ i, i < len0 → ∃ t : Opr, W.cell? (a.add (i * 7)) = some (.int .i64 t.kind) ∧ W.cell? ((a.add (i * 7)).add 1) = some (.int .i64 t.a) ∧ W.cell? ((a.add (i * 7)).add 2) = some (.int .i64 t.b) ∧ W.cell? ((a.add (i * 7)).add 3) = some (.int .i64 t.c) ∧ W.cell? ((a.add (i * 7)).add 4) = some (.int .i64 t.d) ∧ W.cell? ((a.add (i * 7)).add 5) = some (.string t.name) ∧ (∃ ao cap, W.cell? ((a.add (i * 7)).add 6) = some (.slice ao t.data.length cap) ∧ MemD W ao t.data) ∧ t.able := by
      intro i hi
      obtain ⟨cs', hc, ht⟩ := hel i (by omega)
      obtain ⟨t, ao, cap, rfl, hM, hs⟩ := oneOp_of_trod ht
      obtain ⟨_, _, hcell⟩ := World.cells?_some hc
      have h0 := hcell 0 (by omega)
      have h1 := hcell 1 (by omega)
      have h2 := hcell 2 (by omega)
      have h3 := hcell 3 (by omega)
      have h4 := hcell 4 (by omega)
      have h5 := hcell 5 (by omega)
      have h6 := hcell 6 (by omega)
      exact ⟨t, by simpa [Addr.add, Opr.cells] using h0, by simpa [Opr.cells] using h1, by simpa [Opr.cells] using h2, by simpa [Opr.cells] using h3, by simpa [Opr.cells] using h4, by simpa [Opr.cells] using h5, ⟨ao, cap, by simpa [Opr.cells] using h6, hM⟩, hs⟩
    obtain ⟨f, hf⟩ := chooseOp len0 key
    refine ⟨(List.range len0).map f, by simp, ?_, by omega, ?_⟩
    · intro hpos
      have hpos' : 0 < len0 := by simpa using hpos
      obtain ⟨b, off, spot⟩ := a
      have hspot : spot = none := by simpa [Addr.add] using World.cell?_spot (hf 0 hpos').1
      subst hspot
      refine ⟨b, off, rfl, fun k hk => ?_⟩
      have hk' : k < len0 := by simpa using hk
      obtain ⟨e0, e1, e2, e3, e4, e5, ⟨ao, cap, ez, hM⟩, _⟩ := hf k hk'
      have ha : ∀ j, (⟨b, off, none⟩ : Addr).add j = ⟨b, off + j, none⟩ := fun j => by unfold Addr.add; split <;> simp_all
      rw [Deep.add_add, ha] at e1 e2 e3 e4 e5 ez
      rw [ha] at e0
      simp only [List.getElem_map, List.getElem_range]
      exact ⟨e0, e1, e2, e3, e4, e5, ao, cap, ez, hM⟩
    · intro k hk
      have hk' : k < len0 := by simpa using hk
      simp only [List.getElem_map, List.getElem_range]
      exact (hf k hk').2.2.2.2.2.2.2
theorem cellsLBl : Tryz.prog.cellsOf 77 = 2 := by kernel_rfl
theorem cellsSubBl : Tryz.prog.cellsOf 75 = 1 := by kernel_rfl
theorem trod_structnBl {H : Type} {enc : TypeId × Value → H} {P : Program} {w : World} {base : Nat} {spare : Nat → Bool} {held : Bool} {t : TypeId} {f0 f1 : Field} {fuel : Nat} {cs : List Value} {x : DataW H × List MemPlace} (ht : P.underlying t = some (.struct #[f0, f1])) (h : DataW.trod enc P w base spare held fuel t cs = some x) :
    ∃ y0 y1 n, cs.length = P.cellsOf t ∧ DataW.trod enc P w base spare held n f0.type ((cs.drop f0.offset).take (P.cellsOf f0.type)) = some y0 ∧ DataW.trod enc P w base spare held n f1.type ((cs.drop f1.offset).take (P.cellsOf f1.type)) = some y1 := by
  obtain ⟨xs, n, _, rfl, hl, hlen, hf⟩ := DataW.trod_struct ht h
  match xs, hlen with
  | [y0, y1], _ => exact ⟨y0, y1, n, hl, by simpa using hf 0 f0 rfl, by simpa using hf 1 f1 rfl⟩
set_option maxRecDepth 100000 in
theorem oneBl_of_trod {H : Type} {enc : TypeId × Value → H} {W : World} {base : Nat} {sp : Nat → Bool} {held : Bool} {n : Nat} {cs : List Value} {x : DataW H × List MemPlace}
    (h : DataW.trod enc Tryz.prog W base sp held n 77 cs = some x) : ∃ (t : Blk) (ao : Option Addr) (cap : Nat), cs = t.cells (.slice ao t.ops.length cap) ∧ MemOp W ao t.ops ∧ t.able := by
  obtain ⟨y0, y1, m, hl, t0, t1⟩ := trod_structnBl Tryz.underlying77 h
  rw [cellsLBl] at hl
  match cs, hl with
    | [c0, c1], _ =>
      simp only [cellsID, cellsSubBl, List.drop, List.take] at t0 t1
      obtain ⟨v0, hv0, _, _⟩ := DataW.trod_int Tryz.underlying2 t0
      simp only [List.cons.injEq, and_true] at hv0
      subst hv0
      obtain ⟨ao, len, cap, rfl⟩ : ∃ ao len cap, c1 = .slice ao len cap := by
        rcases Deep.open_slice Tryz.underlying75 t1 with ⟨hcs, _⟩ | ⟨a, len, cap, _, _, _, _, hcs, _⟩
        · exact ⟨_, _, _, by simpa using hcs⟩
        · exact ⟨_, _, _, by simpa using hcs⟩
      obtain ⟨l, rfl, hM, hll, hz⟩ := memOp_of_trod (enc := enc) (base := base) (sp := sp) (held := held) (d0 := y1.1) (p0 := y1.2) ⟨m, by simpa [Value.cells] using t1⟩
      exact ⟨⟨v0, l⟩, ao, cap, rfl, hM, ⟨hll, hz⟩⟩
theorem chooseBl (n : Nat) {p : Nat → Blk → Prop} (h : ∀ i, i < n → ∃ t, p i t) : ∃ f : Nat → Blk, ∀ i, i < n → p i (f i) := by
  classical
  refine ⟨fun i => if hi : i < n then Classical.choose (h i hi) else ⟨0, []⟩, fun i hi => ?_⟩
  simp only [dif_pos hi]
  exact Classical.choose_spec (h i hi)
set_option maxRecDepth 100000 in
theorem memBl_of_trod {H : Type} {enc : TypeId × Value → H} {W : World} {base : Nat} {sp : Nat → Bool} {held : Bool} {a0 : Option Addr} {len0 cap0 : Nat} {d0 : DataW H} {p0 : List MemPlace}
    (h0 : DataW.Trod enc Tryz.prog W base sp held 35 (.slice a0 len0 cap0) d0 p0) : ∃ l : List Blk, len0 = l.length ∧ MemBl W a0 l ∧ len0 ≤ 9223372036854775807 ∧ ∀ (k : Nat) (h : k < l.length), l[k].able := by
  obtain ⟨fuel, hf⟩ := h0
  rcases Deep.open_slice Tryz.underlying35 hf with ⟨hcs, _⟩ | ⟨a, len, cap, m, n, D, Pl, hcs, _, hle, hmax, hm, _, hel⟩
  · simp [Value.cells] at hcs
    obtain ⟨rfl, rfl, rfl⟩ := hcs
    exact ⟨[], rfl, fun h => by simp at h, by omega, fun k h => by simp at h⟩
  · simp [Value.cells] at hcs
    obtain ⟨rfl, rfl, rfl⟩ := hcs
    have hlm : len0 ≤ m := by rw [hm]; split <;> omega
    unfold maxLen at hmax
    rw [cellsLBl] at hel
    have key : ∀ i, i < len0 → ∃ t : Blk, W.cell? (a.add (i * 2)) = some (.int .i64 t.args) ∧ (∃ ao cap, W.cell? ((a.add (i * 2)).add 1) = some (.slice ao t.ops.length cap) ∧ MemOp W ao t.ops) ∧ t.able := by
      intro i hi
      obtain ⟨cs', hc, ht⟩ := hel i (by omega)
      obtain ⟨t, ao, cap, rfl, hM, hs⟩ := oneBl_of_trod ht
      obtain ⟨_, _, hcell⟩ := World.cells?_some hc
      have h0 := hcell 0 (by omega)
      have h1 := hcell 1 (by omega)
      exact ⟨t, by simpa [Addr.add, Blk.cells] using h0, ⟨ao, cap, by simpa [Blk.cells] using h1, hM⟩, hs⟩
    obtain ⟨f, hf⟩ := chooseBl len0 key
    refine ⟨(List.range len0).map f, by simp, ?_, by omega, ?_⟩
    · intro hpos
      have hpos' : 0 < len0 := by simpa using hpos
      obtain ⟨b, off, spot⟩ := a
      have hspot : spot = none := by simpa [Addr.add] using World.cell?_spot (hf 0 hpos').1
      subst hspot
      refine ⟨b, off, rfl, fun k hk => ?_⟩
      have hk' : k < len0 := by simpa using hk
      obtain ⟨e0, ⟨ao, cap, ez, hM⟩, _⟩ := hf k hk'
      have ha : ∀ j, (⟨b, off, none⟩ : Addr).add j = ⟨b, off + j, none⟩ := fun j => by unfold Addr.add; split <;> simp_all
      rw [Deep.add_add, ha] at  ez
      rw [ha] at e0
      simp only [List.getElem_map, List.getElem_range]
      exact ⟨e0, ao, cap, ez, hM⟩
    · intro k hk
      have hk' : k < len0 := by simpa using hk
      simp only [List.getElem_map, List.getElem_range]
      exact (hf k hk').2.2
end Go.Proofs.YtoafolefecddmaaGreatDoor
