/-
  A slice of int64, and a stack in pieces, that came in, opened: what is read where they lead.
-/
import Derived.Test.YtdohpfckiahlcaaSgTo
import Derived.WalkKit
import Derived.ProofKit
import Derived.OpenShut
import Derived.Deep.Strs
namespace Go.Proofs.Ytdohpfckiahlcaa
open Go.ChangeShapes Go.WideShapes Go.ChangeAt Go.RowKit

theorem cellsLI : Try.prog.cellsOf 2 = 1 := by kernel_rfl
theorem cellsLIS : Try.prog.cellsOf 42 = 1 := by kernel_rfl
theorem cellsLSp : Try.prog.cellsOf 52 = 1 := by kernel_rfl
theorem cellsLSps : Try.prog.cellsOf 22 = 1 := by kernel_rfl
theorem cellsLSg : Try.prog.cellsOf 24 = 2 := by kernel_rfl
theorem chooseI (n : Nat) {p : Nat → Int → Prop} (h : ∀ i, i < n → ∃ t, p i t) : ∃ f : Nat → Int, ∀ i, i < n → p i (f i) := by
  classical
  refine ⟨fun i => if hi : i < n then Classical.choose (h i hi) else 0, fun i hi => ?_⟩
  simp only [dif_pos hi]
  exact Classical.choose_spec (h i hi)
theorem chooseL (n : Nat) {p : Nat → List Int → Prop} (h : ∀ i, i < n → ∃ t, p i t) : ∃ f : Nat → List Int, ∀ i, i < n → p i (f i) := by
  classical
  refine ⟨fun i => if hi : i < n then Classical.choose (h i hi) else [], fun i hi => ?_⟩
  simp only [dif_pos hi]
  exact Classical.choose_spec (h i hi)
set_option maxRecDepth 100000 in
theorem seeI_of_trod {H : Type} {enc : TypeId × Value → H} {W : World} {base : Nat} {sp : Nat → Bool} {held : Bool} {a0 : Option Addr} {len0 cap0 : Nat} {d0 : DataW H} {p0 : List MemPlace}
    (h0 : DataW.Trod enc Try.prog W base sp held 42 (.slice a0 len0 cap0) d0 p0) : ∃ l : List Int, len0 = l.length ∧ SeeI W (.slice a0 len0 cap0) l ∧ len0 ≤ 9223372036854775807 := by
  obtain ⟨fuel, hf⟩ := h0
  rcases Deep.open_slice Try.underlying42 hf with ⟨hcs, _⟩ | ⟨a, len, cap, m, n, D, Pl, hcs, _, hle, hmax, hm, _, hel⟩
  · simp [Value.cells] at hcs
    obtain ⟨rfl, rfl, rfl⟩ := hcs
    exact ⟨[], rfl, ⟨_, _, rfl, fun h => by simp at h⟩, by omega⟩
  · simp [Value.cells] at hcs
    obtain ⟨rfl, rfl, rfl⟩ := hcs
    have hlm : len0 ≤ m := by rw [hm]; split <;> omega
    unfold maxLen at hmax
    rw [cellsLI] at hel
    have key : ∀ i, i < len0 → ∃ t : Int, W.cell? (a.add (i * 1)) = some (.int .i64 t) := by
      intro i hi
      obtain ⟨cs', hc, ht⟩ := hel i (by omega)
      obtain ⟨v0, hv0, _⟩ := DataW.trod_int Try.underlying2 ht
      obtain ⟨_, _, hcell⟩ := World.cells?_some hc
      have h0 := hcell 0 (by omega)
      subst hv0
      exact ⟨v0, by simpa [Addr.add] using h0⟩
    obtain ⟨f, hf⟩ := chooseI len0 key
    refine ⟨(List.range len0).map f, by simp, ⟨some a, cap0, by simp, fun hpos => ?_⟩, by omega⟩
    have hpos' : 0 < len0 := by simpa using hpos
    obtain ⟨b, off, spot⟩ := a
    have hspot : spot = none := by simpa [Addr.add] using World.cell?_spot (hf 0 hpos')
    subst hspot
    refine ⟨b, off, rfl, fun k hk => ?_⟩
    have hk' : k < len0 := by simpa using hk
    have e0 := hf k hk'
    have ha : ∀ j, (⟨b, off, none⟩ : Addr).add j = ⟨b, off + j, none⟩ := fun j => by unfold Addr.add; split <;> simp_all
    rw [ha, Nat.mul_one] at e0
    simp only [List.getElem_map, List.getElem_range]
    exact e0
theorem trod_struct1 {H : Type} {enc : TypeId × Value → H} {P : Program} {w : World} {base : Nat} {spare : Nat → Bool} {held : Bool} {t : TypeId} {f0 : Field} {fuel : Nat} {cs : List Value} {x : DataW H × List MemPlace} (ht : P.underlying t = some (.struct #[f0])) (h : DataW.trod enc P w base spare held fuel t cs = some x) :
    ∃ y0 n, cs.length = P.cellsOf t ∧ DataW.trod enc P w base spare held n f0.type ((cs.drop f0.offset).take (P.cellsOf f0.type)) = some y0 := by
  obtain ⟨xs, n, _, rfl, hl, hlen, hf⟩ := DataW.trod_struct ht h
  match xs, hlen with
  | [y0], _ => exact ⟨y0, n, hl, by simpa using hf 0 f0 rfl⟩
theorem trod_struct2 {H : Type} {enc : TypeId × Value → H} {P : Program} {w : World} {base : Nat} {spare : Nat → Bool} {held : Bool} {t : TypeId} {f0 f1 : Field} {fuel : Nat} {cs : List Value} {x : DataW H × List MemPlace} (ht : P.underlying t = some (.struct #[f0, f1])) (h : DataW.trod enc P w base spare held fuel t cs = some x) :
    ∃ y0 y1 n, cs.length = P.cellsOf t ∧ DataW.trod enc P w base spare held n f0.type ((cs.drop f0.offset).take (P.cellsOf f0.type)) = some y0 ∧ DataW.trod enc P w base spare held n f1.type ((cs.drop f1.offset).take (P.cellsOf f1.type)) = some y1 := by
  obtain ⟨xs, n, _, rfl, hl, hlen, hf⟩ := DataW.trod_struct ht h
  match xs, hlen with
  | [y0, y1], _ => exact ⟨y0, y1, n, hl, by simpa using hf 0 f0 rfl, by simpa using hf 1 f1 rfl⟩
set_option maxRecDepth 100000 in
theorem onePart_of_trod {H : Type} {enc : TypeId × Value → H} {W : World} {base : Nat} {sp : Nat → Bool} {held : Bool} {n : Nat} {cs : List Value} {x : DataW H × List MemPlace}
    (h : DataW.trod enc Try.prog W base sp held n 52 cs = some x) : ∃ (l : List Int) (v : Value), cs = [v] ∧ SeeI W v l ∧ l.length ≤ 9223372036854775807 := by
  obtain ⟨y0, m, hl, t0⟩ := trod_struct1 Try.underlying52 h
  rw [cellsLSp] at hl
  match cs, hl with
    | [c0], _ =>
      simp only [cellsLIS, List.drop, List.take] at t0
      obtain ⟨ao, len, cap, rfl⟩ : ∃ ao len cap, c0 = .slice ao len cap := by
        rcases Deep.open_slice Try.underlying42 t0 with ⟨hcs, _⟩ | ⟨a, len, cap, _, _, _, _, hcs, _⟩
        · exact ⟨_, _, _, by simpa using hcs⟩
        · exact ⟨_, _, _, by simpa using hcs⟩
      obtain ⟨l, rfl, hM, hll⟩ := seeI_of_trod (enc := enc) (base := base) (sp := sp) (held := held) (d0 := y0.1) (p0 := y0.2) ⟨m, by simpa [Value.cells] using t0⟩
      exact ⟨l, _, rfl, hM, hll⟩
set_option maxRecDepth 100000 in
theorem seeP_of_trod {H : Type} {enc : TypeId × Value → H} {W : World} {base : Nat} {sp : Nat → Bool} {held : Bool} {a0 : Option Addr} {len0 cap0 : Nat} {d0 : DataW H} {p0 : List MemPlace}
    (h0 : DataW.Trod enc Try.prog W base sp held 22 (.slice a0 len0 cap0) d0 p0) : ∃ ps : List (List Int), SeeP W (.slice a0 len0 cap0) ps ∧ AbleP ps := by
  obtain ⟨fuel, hf⟩ := h0
  rcases Deep.open_slice Try.underlying22 hf with ⟨hcs, _⟩ | ⟨a, len, cap, m, n, D, Pl, hcs, _, hle, hmax, hm, _, hel⟩
  · simp [Value.cells] at hcs
    obtain ⟨rfl, rfl, rfl⟩ := hcs
    exact ⟨[], ⟨_, _, rfl, fun h => by simp at h⟩, by simp, fun k h => by simp at h⟩
  · simp [Value.cells] at hcs
    obtain ⟨rfl, rfl, rfl⟩ := hcs
    have hlm : len0 ≤ m := by rw [hm]; split <;> omega
    unfold maxLen at hmax
    rw [cellsLSp] at hel
    have key : ∀ i, i < len0 → ∃ t : List Int, (∃ u, W.cell? (a.add (i * 1)) = some u ∧ SeeI W u t) ∧ t.length ≤ 9223372036854775807 := by
      intro i hi
      obtain ⟨cs', hc, ht⟩ := hel i (by omega)
      obtain ⟨l, v, rfl, hM, hs⟩ := onePart_of_trod ht
      obtain ⟨_, _, hcell⟩ := World.cells?_some hc
      have h0 := hcell 0 (by omega)
      exact ⟨l, ⟨v, by simpa [Addr.add] using h0, hM⟩, hs⟩
    obtain ⟨f, hf⟩ := chooseL len0 key
    refine ⟨(List.range len0).map f, ⟨some a, cap0, by simp, fun hpos => ?_⟩, by simp; omega, fun k hk => ?_⟩
    · have hpos' : 0 < len0 := by simpa using hpos
      obtain ⟨b, off, spot⟩ := a
      obtain ⟨u0, hu0, _⟩ := (hf 0 hpos').1
      have hspot : spot = none := by simpa [Addr.add] using World.cell?_spot hu0
      subst hspot
      refine ⟨b, off, rfl, fun k hk => ?_⟩
      have hk' : k < len0 := by simpa using hk
      obtain ⟨u, e0, hM⟩ := (hf k hk').1
      have ha : ∀ j, (⟨b, off, none⟩ : Addr).add j = ⟨b, off + j, none⟩ := fun j => by unfold Addr.add; split <;> simp_all
      rw [ha, Nat.mul_one] at e0
      simp only [List.getElem_map, List.getElem_range]
      exact ⟨u, e0, hM⟩
    · have hk' : k < len0 := by simpa using hk
      simp only [List.getElem_map, List.getElem_range]
      exact (hf k hk').2
set_option maxRecDepth 100000 in
/-- A stack that came in by value. -/
theorem openSeg {H : Type} {enc : TypeId × Value → H} {W : World} {b0 base : Nat} {sp : Nat → Bool} {held : Bool} {v : Value} {d : DataW H} {p : List MemPlace}
    (hv : Value.okWide Try.prog W .any b0 24 v) (h : DataW.Trod enc Try.prog W base sp held 24 v d p) : ∃ (size : Int) (x : Value) (ps : List (List Int)), v = segV size x ∧ SeeP W x ps ∧ AbleP ps := by
  obtain ⟨cs, rfl, _⟩ := okWide_struct Try.underlying24 hv
  obtain ⟨n, hn⟩ := h
  obtain ⟨y0, y1, m, hl, t0, t1⟩ := trod_struct2 Try.underlying24 hn
  rw [cellsLSg] at hl
  have hcl : cs.size = 2 := by simpa [Value.cells] using hl
  obtain ⟨c0, c1, rfl⟩ : ∃ c0 c1, cs = #[c0, c1] := by
    obtain ⟨L⟩ := cs
    match L, hcl with
    | [c0, c1], _ => exact ⟨c0, c1, rfl⟩
  simp only [Value.cells, cellsLI, cellsLSps, List.drop, List.take] at t0 t1
  obtain ⟨v0, hv0, _⟩ := DataW.trod_int Try.underlying2 t0
  obtain ⟨ao, len, cap, rfl⟩ : ∃ ao len cap, c1 = .slice ao len cap := by
    rcases Deep.open_slice Try.underlying22 t1 with ⟨hcs, _⟩ | ⟨a, len, cap, _, _, _, _, hcs, _⟩
    · exact ⟨_, _, _, by simpa using hcs⟩
    · exact ⟨_, _, _, by simpa using hcs⟩
  obtain ⟨ps, hM, ha⟩ := seeP_of_trod (enc := enc) (base := base) (sp := sp) (held := held) (d0 := y1.1) (p0 := y1.2) ⟨m, by simpa [Value.cells] using t1⟩
  have e0 : c0 = .int .i64 v0 := by simpa using hv0
  subst e0
  exact ⟨v0, _, ps, rfl, hM, ha⟩
end Go.Proofs.Ytdohpfckiahlcaa
