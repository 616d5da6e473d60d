/-
  A map from words to places: what a look-up, a new entry and the length answer; no function of the program in it.
-/
import Derived.Test.YtgfienijabkpjaaGlobMath
import Derived.Maps.Keyed
import Derived.DeepKeys4
namespace Go.Proofs.Ytgfienijabkpjaa
open Go.RowKit Go.Extern.Stop Go.Stop Go.Extern Num Go.Lib
open Go.ChangeMaps Go.MapKept

/-- A word that a key's cells can hold. -/
structure Wd.fit (x : Wd) : Prop where
  t0 : 0 ≤ x.tag
  t1 : x.tag < 256
  r0 : 0 ≤ x.rest
  r1 : x.rest < 18446744073709551616
theorem keyedW : Maps.Keyed Try.prog 74 :=
  Maps.Keyed.of_law (deep_law (m := 2) (by omega) (by kernel_rfl) (by kernel_rfl) (by rw [Try.underlying74]))
theorem cellsW : Try.prog.cellsOf 74 = 2 := by kernel_rfl
theorem keyTypeW : Try.prog.keyType 74 = true := by kernel_rfl
theorem cellsU8 : Try.prog.cellsOf 5 = 1 := by kernel_rfl
theorem cellsU64 : Try.prog.cellsOf 72 = 1 := by kernel_rfl
theorem sizeTS : Try.prog.types.size = 163 := by kernel_rfl
theorem minU8 : IntKind.u8.min = 0 := by decide
theorem maxU8 : IntKind.u8.max = 255 := by decide
theorem minU64 : IntKind.u64.min = 0 := by decide
theorem maxU64 : IntKind.u64.max = 18446744073709551615 := by decide
theorem keyW (x : Wd) (h : x.fit) : ∃ l, keyOf Try.prog 74 x.val = some l := by
  have h0 : (Lit.int .u8 x.tag).wf = true := by have := h.t0; have := h.t1; simp [Lit.wf, minU8, maxU8]; omega
  have h1 : (Lit.int .u64 x.rest).wf = true := by have := h.r0; have := h.r1; simp [Lit.wf, minU64, maxU64]; omega
  have hf : x.val.formed Try.prog 74 = true := by simp [Value.formed, Try.underlying74, cellsW]
  unfold keyOf
  rw [Try.underlying74]
  simp only [keyTypeW, hf, Bool.and_self, if_true]
  obtain ⟨d, hd⟩ : ∃ d, Try.prog.types.size + 1 = d + 2 := ⟨Try.prog.types.size - 1, by rw [sizeTS]⟩
  rw [hd]
  simp [Program.keyLits, Try.underlying74, Try.underlying5, Try.underlying72, cellsW, cellsU8, cellsU64, Value.cells, h0, h1]
/-- The entries: each word leads to its place. -/
def entW : Nat → List Wd → List (Value × Value)
  | _, [] => []
  | i, x :: r => (x.val, .int .i64 (i : Int)) :: entW (i + 1) r
theorem entW_len (i : Nat) (l : List Wd) : (entW i l).length = l.length := by
  induction l generalizing i with
  | nil => rfl
  | cons x r ih => simp [entW, ih]
theorem entW_at (l : List Wd) (i j : Nat) : (entW i l)[j]? = (l[j]?).map fun x => (x.val, .int .i64 ((i + j : Nat) : Int)) := by
  induction l generalizing i j with
  | nil => simp [entW]
  | cons x r ih =>
    cases j with
    | zero => simp [entW]
    | succ j => simp only [entW, List.getElem?_cons_succ, ih]; congr 1; funext y; congr 3; omega
theorem entW_snoc (l : List Wd) (i : Nat) (x : Wd) : entW i (l ++ [x]) = entW i l ++ [(x.val, .int .i64 ((i + l.length : Nat) : Int))] := by
  induction l generalizing i with
  | nil => simp [entW]
  | cons y r ih => simp only [List.cons_append, entW, ih, List.length_cons, show i + 1 + r.length = i + (r.length + 1) by omega]
/-- A block that is a map from words to their places. -/
def MapW (w : World) (b : Nat) (ws : List Wd) : Prop :=
  ∃ es clock, w.heap[b]? = some (.map es clock) ∧ es.toList.map (fun e => (e.key, e.val)) = entW 0 ws ∧ ∀ x ∈ ws, x.fit
theorem MapW.lt {w : World} {b : Nat} {ws : List Wd} (h : MapW w b ws) : b < w.heap.size := by
  obtain ⟨es, clock, hb, _⟩ := h
  exact (Array.getElem?_eq_some_iff.1 hb).1
theorem MapW.keep {w w' : World} {b : Nat} {ws : List Wd} (h : MapW w b ws) (hb : w'.heap[b]? = w.heap[b]?) : MapW w' b ws := by
  obtain ⟨es, clock, h1, h2⟩ := h
  exact ⟨es, clock, hb.trans h1, h2⟩
theorem MapW.below {w w' : World} {b : Nat} {ws : List Wd} (h : MapW w b ws) (hb : Below w.heap.size w w') : MapW w' b ws := h.keep (hb.block b h.lt)
theorem MapW.made (w : World) : MapW (w.alloc (.map #[] 0)) w.heap.size [] := ⟨#[], 0, (heap_alloc w _).1, rfl, fun x hx => by cases hx⟩
theorem Wd.val_inj {x y : Wd} (h : x.val = y.val) : x = y := by
  cases x; cases y
  simp only [Wd.val, Value.agg.injEq, Array.mk.injEq, List.cons.injEq, Value.int.injEq, true_and, and_true] at h
  obtain ⟨rfl, rfl⟩ := h
  rfl
theorem MapW.find {w : World} {b : Nat} {ws : List Wd} (h : MapW w b ws) (x : Wd) (hx : x.fit) : ∃ es clock, w.heap[b]? = some (.map es clock) ∧ es.toList.map (fun e => (e.key, e.val)) = entW 0 ws ∧ (∀ y ∈ ws, y.fit) ∧ ∃ l, keyOf Try.prog 74 x.val = some l ∧
    ((x ∉ ws ∧ (Instr.findKey 74 x.val es.toList).run Try.prog w = .ok none w ∧ ∀ e ∈ es.toList, e.key ≠ x.val) ∨ ∃ j, ws[j]? = some x ∧ (Instr.findKey 74 x.val es.toList).run Try.prog w = .ok (some (j, .int .i64 (j : Int))) w) := by
  obtain ⟨es, clock, hb, he, hf⟩ := h
  obtain ⟨l, hl⟩ := keyW x hx
  refine ⟨es, clock, hb, he, hf, l, hl, ?_⟩
  have at_j : ∀ (j : Nat) (e : MapEntry), es.toList[j]? = some e → ∃ y, ws[j]? = some y ∧ e.key = y.val ∧ e.val = .int .i64 (j : Int) := fun j e hj => by
    have h1 : (es.toList.map (fun e => (e.key, e.val)))[j]? = some (e.key, e.val) := by rw [List.getElem?_map, hj]; rfl
    rw [he, entW_at] at h1
    obtain ⟨y, hy, h2⟩ := Option.map_eq_some_iff.1 h1
    simp only [Prod.mk.injEq, Nat.zero_add] at h2
    exact ⟨y, hy, h2.1.symm, h2.2.symm⟩
  have keys : ∀ e ∈ es.toList, ∃ l, keyOf Try.prog 74 e.key = some l := fun e hm => by
    obtain ⟨j, hj⟩ := List.mem_iff_getElem?.1 hm
    obtain ⟨y, hy, hk, _⟩ := at_j j e hj
    rw [hk]
    exact keyW y (hf y (List.mem_of_getElem? hy))
  rcases keyedW.find w hl es.toList keys with ⟨h1, h2⟩ | ⟨j, e, h1, h2, h3⟩
  · refine Or.inl ⟨fun hm => ?_, h1, h2⟩
    obtain ⟨j, hj⟩ := List.mem_iff_getElem?.1 hm
    have h4 : (es.toList.map (fun e => (e.key, e.val)))[j]? = some (x.val, .int .i64 ((0 + j : Nat) : Int)) := by rw [he, entW_at, hj]; rfl
    rw [List.getElem?_map] at h4
    obtain ⟨e, he', h5⟩ := Option.map_eq_some_iff.1 h4
    simp only [Prod.mk.injEq] at h5
    exact h2 e (List.mem_of_getElem? he') h5.1
  · obtain ⟨y, hy, hk, hv⟩ := at_j j e h2
    have : y = x := Wd.val_inj (by rw [← hk, h3])
    subst this
    exact Or.inr ⟨j, hy, by rw [h1, hv]⟩
/-- 'v, ok := m[x]'. -/
theorem MapW.look {w : World} {b : Nat} {ws : List Wd} (h : MapW w b ws) (x : Wd) (hx : x.fit) :
    (x ∉ ws ∧ (Instr.lookup 71 (.map (some b)) x.val true).run Try.prog w = .ok (.tuple #[.int .i64 0, .bool false]) w) ∨ ∃ j : Nat, ws[j]? = some x ∧ (Instr.lookup 71 (.map (some b)) x.val true).run Try.prog w = .ok (.tuple #[.int .i64 (j : Int), .bool true]) w := by
  obtain ⟨es, clock, hb, he, hf, l, hl, hr⟩ := h.find x hx
  rcases hr with ⟨h0, h1, _⟩ | ⟨j, hj, h1⟩
  · refine Or.inl ⟨h0, ?_⟩
    simp [Instr.lookup, run_underlying Try.underlying71, MapKept.run_getObj_map hb, keyedW.check w _ hl, h1, Result.andThen]
  · refine Or.inr ⟨j, hj, ?_⟩
    simp [Instr.lookup, run_underlying Try.underlying71, MapKept.run_getObj_map hb, keyedW.check w _ hl, h1, Result.andThen]
/-- 'm[x]'. -/
theorem MapW.look1 {w : World} {b : Nat} {ws : List Wd} (h : MapW w b ws) (x : Wd) (hx : x.fit) (hm : x ∈ ws) :
    ∃ j : Nat, ws[j]? = some x ∧ (Instr.lookup 71 (.map (some b)) x.val false).run Try.prog w = .ok (.int .i64 (j : Int)) w := by
  obtain ⟨es, clock, hb, he, hf, l, hl, hr⟩ := h.find x hx
  rcases hr with ⟨h0, _⟩ | ⟨j, hj, h1⟩
  · exact absurd hm h0
  · refine ⟨j, hj, ?_⟩
    simp [Instr.lookup, run_underlying Try.underlying71, MapKept.run_getObj_map hb, keyedW.check w _ hl, h1, Result.andThen]
/-- 'm[x] = n', x new. -/
theorem MapW.put {w : World} {b : Nat} {ws : List Wd} (h : MapW w b ws) (x : Wd) (hx : x.fit) (hm : x ∉ ws) :
    ∃ w', (Instr.mapUpdate 71 (.map (some b)) x.val (.int .i64 (ws.length : Int))).run Try.prog w = .ok () w' ∧ MapW w' b (ws ++ [x]) ∧ w.grownBy w' (some b) ∧ w'.heap.size = w.heap.size := by
  obtain ⟨es, clock, hb, he, hf, l, hl, hr⟩ := h.find x hx
  rcases hr with ⟨_, h1, h2⟩ | ⟨j, hj, _⟩
  · refine ⟨setBlock w b (.map (es.push ⟨x.val, .int .i64 (ws.length : Int), clock⟩) (clock + 1)), ?_, ⟨_, _, heap_setBlock_same hb _, ?_, ?_⟩, ⟨rfl, rfl, rfl, by simp [setBlock], fun i _ hi => heap_setBlock_other hb _ (fun e => hi (by rw [e]))⟩, by simp [setBlock]⟩
    · simp [Instr.mapUpdate, run_underlying Try.underlying71, MapKept.run_getObj_map hb, keyedW.check w false hl, h1, MapKept.run_setObj_map _ hb, Result.andThen, setBlock]
    · rw [Array.toList_push, List.map_append, he, entW_snoc]; simp
    · intro y hy
      rcases List.mem_append.1 hy with hy | hy
      · exact hf y hy
      · simp at hy; subst hy; exact hx
  · exact absurd (List.mem_of_getElem? hj) hm
/-- 'len(m)'. -/
theorem MapW.len {w : World} {b : Nat} {ws : List Wd} (h : MapW w b ws) (ty : TypeId) : (Builtin.len_ #[71] ty #[.map (some b)]).run Try.prog w = .ok (.int .i64 (ws.length : Int)) w := by
  obtain ⟨es, clock, hb, he, hf⟩ := h
  have h1 : es.size = ws.length := by have := congrArg List.length he; simpa [entW_len] using this
  simp [Builtin.len_, run_underlying Try.underlying71, MapKept.run_getObj_map hb, h1, goInt, Result.andThen]
/-- 'make(map[word]int, n)'. -/
theorem makeMapW (n : Int) (w : World) : (Instr.makeMap 71 (some (.int .i64 n))).run Try.prog w = .ok (.map (some w.heap.size)) (w.alloc (.map #[] 0)) := by
  simp [Instr.makeMap, run_underlying Try.underlying71, asInt, asIntOf, Result.andThen]
theorem nW_fit {s : ByteArray} (h : symL s.data.toList = true) : (nW s).fit := by
  obtain ⟨h1, h2, h3⟩ := nW_wf h
  exact ⟨by omega, by omega, h2, h3⟩
end Go.Proofs.Ytgfienijabkpjaa
