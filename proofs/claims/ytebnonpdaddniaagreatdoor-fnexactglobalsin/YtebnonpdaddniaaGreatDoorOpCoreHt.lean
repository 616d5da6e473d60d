/-
  Parts of the proof laid into one text, one behind the other; each says at its head what is proved in it.
-/
import Derived.Test.YtebnonpdaddniaaGreatDoorHtJ
import Derived.Test.YtebnonpdaddniaaGreatDoorOpDatumHt
/-
  A slice of Core that came in, opened: what lies where it leads, and where the data of each lead.
-/
namespace Go.Proofs.YtebnonpdaddniaaGreatDoor
open Go.ChangeShapes Go.WideShapes Go.ChangeAt Go.RowKit

theorem cellsLC : Tryz.prog.cellsOf 83 = 6 := by kernel_rfl
theorem cellsLDS : Tryz.prog.cellsOf 42 = 1 := by kernel_rfl
theorem trod_struct6 {H : Type} {enc : TypeId × Value → H} {P : Program} {w : World} {base : Nat} {spare : Nat → Bool} {held : Bool} {t : TypeId} {f0 f1 f2 f3 f4 f5 : Field} {fuel : Nat} {cs : List Value} {x : DataW H × List MemPlace} (ht : P.underlying t = some (.struct #[f0, f1, f2, f3, f4, f5])) (h : DataW.trod enc P w base spare held fuel t cs = some x) :
    ∃ y0 y1 y2 y3 y4 y5 n, cs.length = P.cellsOf t ∧ DataW.trod enc P w base spare held n f0.type ((cs.drop f0.offset).take (P.cellsOf f0.type)) = some y0 ∧ DataW.trod enc P w base spare held n f1.type ((cs.drop f1.offset).take (P.cellsOf f1.type)) = some y1 ∧ DataW.trod enc P w base spare held n f2.type ((cs.drop f2.offset).take (P.cellsOf f2.type)) = some y2 ∧ DataW.trod enc P w base spare held n f3.type ((cs.drop f3.offset).take (P.cellsOf f3.type)) = some y3 ∧ DataW.trod enc P w base spare held n f4.type ((cs.drop f4.offset).take (P.cellsOf f4.type)) = some y4 ∧ DataW.trod enc P w base spare held n f5.type ((cs.drop f5.offset).take (P.cellsOf f5.type)) = some y5 := by
  obtain ⟨xs, n, _, rfl, hl, hlen, hf⟩ := DataW.trod_struct ht h
  match xs, hlen with
  | [y0, y1, y2, y3, y4, y5], _ => exact ⟨y0, y1, y2, y3, y4, y5, n, hl, by simpa using hf 0 f0 rfl, by simpa using hf 1 f1 rfl, by simpa using hf 2 f2 rfl, by simpa using hf 3 f3 rfl, by simpa using hf 4 f4 rfl, by simpa using hf 5 f5 rfl⟩
set_option maxRecDepth 100000 in
/-- The cells of one, as they are read. -/
theorem oneC_of_trod {H : Type} {enc : TypeId × Value → H} {W : World} {base : Nat} {sp : Nat → Bool} {held : Bool} {n : Nat} {cs : List Value} {x : DataW H × List MemPlace}
    (h : DataW.trod enc Tryz.prog W base sp held n 83 cs = some x) : ∃ (t : Cor) (ao : Option Addr) (cap : Nat), cs = t.cells (.slice ao t.data.length cap) ∧ MemD W ao t.data ∧ t.able := by
  obtain ⟨y0, y1, y2, y3, y4, y5, m, hl, t0, t1, t2, t3, t4, t5⟩ := trod_struct6 Tryz.underlying83 h
  rw [cellsLC] at hl
  match cs, hl with
    | [c0, c1, c2, c3, c4, c5], _ =>
      simp only [cellsID, cellsSD, cellsLDS, List.drop, List.take] at t0 t1 t2 t3 t4 t5
      obtain ⟨v0, hv0, _, _⟩ := DataW.trod_int Tryz.underlying2 t0
      obtain ⟨v1, hv1, _, _⟩ := DataW.trod_int Tryz.underlying2 t1
      obtain ⟨v2, hv2, _, _⟩ := DataW.trod_int Tryz.underlying2 t2
      obtain ⟨v3, hv3, _, _⟩ := DataW.trod_int Tryz.underlying2 t3
      obtain ⟨v4, hv4, _, hm⟩ := DataW.trod_string Tryz.underlying9 t4
      simp only [List.cons.injEq, and_true] at hv0 hv1 hv2 hv3 hv4
      subst hv0 hv1 hv2 hv3 hv4
      obtain ⟨ao, len, cap, rfl⟩ : ∃ ao len cap, c5 = .slice ao len cap := by
        rcases Deep.open_slice Tryz.underlying42 t5 with ⟨hcs, _⟩ | ⟨a, len, cap, _, _, _, _, hcs, _⟩
        · exact ⟨_, _, _, by simpa using hcs⟩
        · exact ⟨_, _, _, by simpa using hcs⟩
      obtain ⟨l, rfl, hM, hll, hz⟩ := memD_of_trod (enc := enc) (base := base) (sp := sp) (held := held) (d0 := y5.1) (p0 := y5.2) ⟨m, by simpa [Value.cells] using t5⟩
      unfold maxLen at hm
      exact ⟨⟨v0, v1, v2, v3, v4, l⟩, ao, cap, rfl, hM, ⟨by show v4.size ≤ _; omega, hll, hz⟩⟩
theorem chooseC (n : Nat) {p : Nat → Cor → Prop} (h : ∀ i, i < n → ∃ t, p i t) : ∃ f : Nat → Cor, ∀ i, i < n → p i (f i) := by
  classical
  refine ⟨fun i => if hi : i < n then Classical.choose (h i hi) else ⟨0, 0, 0, 0, ⟨#[]⟩, []⟩, fun i hi => ?_⟩
  simp only [dif_pos hi]
  exact Classical.choose_spec (h i hi)
set_option maxRecDepth 100000 in
theorem memC_of_trod {H : Type} {enc : TypeId × Value → H} {W : World} {base : Nat} {sp : Nat → Bool} {held : Bool} {a0 : Option Addr} {len0 cap0 : Nat} {d0 : DataW H} {p0 : List MemPlace}
    (h0 : DataW.Trod enc Tryz.prog W base sp held 35 (.slice a0 len0 cap0) d0 p0) : ∃ l : List Cor, len0 = l.length ∧ MemC W a0 l ∧ len0 ≤ 9223372036854775807 ∧ ∀ (k : Nat) (h : k < l.length), l[k].able := by
  obtain ⟨fuel, hf⟩ := h0
  rcases Deep.open_slice Tryz.underlying35 hf with ⟨hcs, _⟩ | ⟨a, len, cap, m, n, D, Pl, hcs, _, hle, hmax, hm, _, hel⟩
  · simp [Value.cells] at hcs
    obtain ⟨rfl, rfl, rfl⟩ := hcs
    exact ⟨[], rfl, fun h => by simp at h, by omega, fun k h => by simp at h⟩
  · simp [Value.cells] at hcs
    obtain ⟨rfl, rfl, rfl⟩ := hcs
    have hlm : len0 ≤ m := by rw [hm]; split <;> omega
    unfold maxLen at hmax
    rw [cellsLC] at hel
    have key : ∀ i, i < len0 → ∃ t : Cor, W.cell? (a.add (i * 6)) = some (.int .i64 t.kind) ∧ W.cell? ((a.add (i * 6)).add 1) = some (.int .i64 t.parent) ∧ W.cell? ((a.add (i * 6)).add 2) = some (.int .i64 t.a) ∧ W.cell? ((a.add (i * 6)).add 3) = some (.int .i64 t.b) ∧ W.cell? ((a.add (i * 6)).add 4) = some (.string t.name) ∧ (∃ ao cap, W.cell? ((a.add (i * 6)).add 5) = some (.slice ao t.data.length cap) ∧ MemD W ao t.data) ∧ t.able := by
      intro i hi
      obtain ⟨cs', hc, ht⟩ := hel i (by omega)
      obtain ⟨t, ao, cap, rfl, hM, hs⟩ := oneC_of_trod ht
      obtain ⟨_, _, hcell⟩ := World.cells?_some hc
      have h0 := hcell 0 (by omega)
      have h1 := hcell 1 (by omega)
      have h2 := hcell 2 (by omega)
      have h3 := hcell 3 (by omega)
      have h4 := hcell 4 (by omega)
      have h5 := hcell 5 (by omega)
      exact ⟨t, by simpa [Addr.add, Cor.cells] using h0, by simpa [Cor.cells] using h1, by simpa [Cor.cells] using h2, by simpa [Cor.cells] using h3, by simpa [Cor.cells] using h4, ⟨ao, cap, by simpa [Cor.cells] using h5, hM⟩, hs⟩
    obtain ⟨f, hf⟩ := chooseC len0 key
    refine ⟨(List.range len0).map f, by simp, ?_, by omega, ?_⟩
    · intro hpos
      have hpos' : 0 < len0 := by simpa using hpos
      obtain ⟨b, off, spot⟩ := a
      have hspot : spot = none := by simpa [Addr.add] using World.cell?_spot (hf 0 hpos').1
      subst hspot
      refine ⟨b, off, rfl, fun k hk => ?_⟩
      have hk' : k < len0 := by simpa using hk
      obtain ⟨e0, e1, e2, e3, e4, ⟨ao, cap, e5, hM⟩, _⟩ := hf k hk'
      have ha : ∀ j, (⟨b, off, none⟩ : Addr).add j = ⟨b, off + j, none⟩ := fun j => by unfold Addr.add; split <;> simp_all
      rw [Deep.add_add, ha] at e1 e2 e3 e4 e5
      rw [ha] at e0
      simp only [List.getElem_map, List.getElem_range]
      exact ⟨e0, e1, e2, e3, e4, ao, cap, e5, hM⟩
    · intro k hk
      have hk' : k < len0 := by simpa using hk
      simp only [List.getElem_map, List.getElem_range]
      exact (hf k hk').2.2.2.2.2.2
end Go.Proofs.YtebnonpdaddniaaGreatDoor
