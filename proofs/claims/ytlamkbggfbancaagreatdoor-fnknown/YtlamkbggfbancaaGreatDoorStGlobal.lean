/-
  Global, a struct of 5 cells, and slices of it: what the laws' eqGlobal, eqGlobalS, toGlobal, toGlobalS, szGlobal and szGlobalS answer; nothing that was there is turned.
-/
import Derived.Test.YtlamkbggfbancaaGreatDoorVluBase
namespace Go.Proofs.YtlamkbggfbancaaGreatDoor
open Go.RowKit Go.Extern.Stop Go.Stop Go.Extern Num Go.Lib

structure Glb where
  name : ByteArray
  value : Vlu
  ver : Int
/-- How many bytes its names have. -/
def Glb.big (t : Glb) : Nat := t.name.size + t.value.name.size
/-- Names that a machine can hold. -/
def Glb.able (t : Glb) : Prop := t.name.size ≤ 9223372036854775807 ∧ t.value.name.size ≤ 9223372036854775807
abbrev Glb.val (t : Glb) : Value := .agg #[.string t.name, .int .i64 t.value.kind, .int .i64 t.value.num, .string t.value.name, .int .i64 t.ver]
def Glb.cells (t : Glb) : List Value := [.string t.name, .int .i64 t.value.kind, .int .i64 t.value.num, .string t.value.name, .int .i64 t.ver]
def cellsG : List Glb → List Value
  | [] => []
  | t :: r => t.cells ++ cellsG r
theorem cellsG_append (a b : List Glb) : cellsG (a ++ b) = cellsG a ++ cellsG b := by
  induction a with
  | nil => rfl
  | cons t r ih => simp [cellsG, ih]
theorem cellsG_length (l : List Glb) : (cellsG l).length = l.length * 5 := by
  induction l with
  | nil => rfl
  | cons t r ih => simp [cellsG, Glb.cells, ih]; omega
theorem cellsG_one (l : List Glb) : ∀ u ∈ cellsG l, u.oneCell' = true := by
  induction l with
  | nil => intro u h; cases h
  | cons t r ih =>
    intro u h
    simp only [cellsG, Glb.cells, List.mem_append, List.mem_cons, List.not_mem_nil, or_false] at h
    rcases h with (rfl | rfl | rfl | rfl | rfl) | h
    · rfl
    · rfl
    · rfl
    · rfl
    · rfl
    · exact ih u h
theorem cellsG_at (l : List Glb) (k : Nat) (h : k < l.length) : (cellsG l)[k * 5]? = some (.string l[k].name) ∧ (cellsG l)[k * 5 + 1]? = some (.int .i64 l[k].value.kind) ∧ (cellsG l)[k * 5 + 2]? = some (.int .i64 l[k].value.num) ∧ (cellsG l)[k * 5 + 3]? = some (.string l[k].value.name) ∧ (cellsG l)[k * 5 + 4]? = some (.int .i64 l[k].ver) := by
  induction l generalizing k with
  | nil => cases h
  | cons t r ih =>
    cases k with
    | zero => exact ⟨rfl, rfl, rfl, rfl, rfl⟩
    | succ k =>
      have hk : k < r.length := by simpa using h
      have := ih k hk
      have e : ∀ j, (cellsG (t :: r))[j + 5]? = (cellsG r)[j]? := fun j => by
        show (t.cells ++ cellsG r)[j + 5]? = _
        rw [List.getElem?_append_right (by simp [Glb.cells])]
        simp [Glb.cells]
      have e1 : (k + 1) * 5 = k * 5 + 5 := by omega
      rw [e1, show k * 5 + 5 + 1 = k * 5 + 1 + 5 by omega, show k * 5 + 5 + 2 = k * 5 + 2 + 5 by omega, show k * 5 + 5 + 3 = k * 5 + 3 + 5 by omega, show k * 5 + 5 + 4 = k * 5 + 4 + 5 by omega, e, e, e, e, e]
      simpa using this
theorem takeG (l : List Glb) (k : Nat) (h : k < l.length) : l.take (k + 1) = l.take k ++ [l[k]] := by
  rw [List.take_add_one, List.getElem?_eq_getElem h]; rfl
theorem infoG : (Tryz.prog.info? 35).map (fun i => (i.zero, i.size, i.bytes)) = some (some (.agg #[.string ⟨#[]⟩, .int .i64 0, .int .i64 0, .string ⟨#[]⟩, .int .i64 0]), 5, 56) := by kernel_rfl
theorem rowG_at {w : World} {base g cap : Nat} {l : List Glb} (h : w.ownsRow base 35 5 (.slice (some ⟨g, 0, none⟩) l.length cap) l.length (cellsG l)) (k : Nat) (hk : k < l.length) :
    w.cell? ⟨g, k * 5, none⟩ = some (.string l[k].name) ∧ w.cell? ⟨g, k * 5 + 1, none⟩ = some (.int .i64 l[k].value.kind) ∧ w.cell? ⟨g, k * 5 + 2, none⟩ = some (.int .i64 l[k].value.num) ∧ w.cell? ⟨g, k * 5 + 3, none⟩ = some (.string l[k].value.name) ∧ w.cell? ⟨g, k * 5 + 4, none⟩ = some (.int .i64 l[k].ver) := by
  have ha : ∀ j, (⟨g, 0, none⟩ : Addr).add j = ⟨g, j, none⟩ := fun j => by unfold Addr.add; split <;> simp_all
  have hc := h.cells (g := g) rfl
  obtain ⟨h0, h1, h2, h3, h4⟩ := cellsG_at l k hk
  exact ⟨by rw [← ha]; exact hc _ _ h0, by rw [← ha]; exact hc _ _ h1, by rw [← ha]; exact hc _ _ h2, by rw [← ha]; exact hc _ _ h3, by rw [← ha]; exact hc _ _ h4⟩
/-- What lies where a slice leads that came in. -/
def MemG (w : World) (a : Option Addr) (l : List Glb) : Prop :=
  0 < l.length → ∃ b off, a = some ⟨b, off, none⟩ ∧ ∀ (k : Nat) (h : k < l.length), w.cell? ⟨b, off + k * 5, none⟩ = some (.string l[k].name) ∧ w.cell? ⟨b, off + k * 5 + 1, none⟩ = some (.int .i64 l[k].value.kind) ∧ w.cell? ⟨b, off + k * 5 + 2, none⟩ = some (.int .i64 l[k].value.num) ∧ w.cell? ⟨b, off + k * 5 + 3, none⟩ = some (.string l[k].value.name) ∧ w.cell? ⟨b, off + k * 5 + 4, none⟩ = some (.int .i64 l[k].ver)
theorem MemG.below {w w' : World} {a : Option Addr} {l : List Glb} (h : MemG w a l) (hb : Below w.heap.size w w') : MemG w' a l := by
  intro hl
  obtain ⟨b, off, e, hc⟩ := h hl
  exact ⟨b, off, e, fun k hk => ⟨cell_keep hb (hc k hk).1, cell_keep hb (hc k hk).2.1, cell_keep hb (hc k hk).2.2.1, cell_keep hb (hc k hk).2.2.2.1, cell_keep hb (hc k hk).2.2.2.2⟩⟩
/-- How much a slice holds. -/
def SZG (l : List Glb) (w : World) (e : Ending) (w' : World) : Prop :=
  ((e = .returned (.int .i64 (-1))) ∨ (∃ q : Nat, q ≤ 1048576 ∧ e = .returned (.int .i64 (q : Int)) ∧ l.length ≤ 1048576 ∧ ∀ (k : Nat) (h : k < l.length), l[k].big ≤ 1048576)) ∧ Below w.heap.size w w'
theorem makeG (n : Nat) (hn : n ≤ 1048576) (w : World) : (Instr.makeSlice 25 (.int .i64 (n : Int)) (.int .i64 (n : Int))).run Tryz.prog w = .ok (.slice (some ⟨w.heap.size, 0, none⟩) n n) (w.alloc (.cells (madeCells #[.string ⟨#[]⟩, .int .i64 0, .int .i64 0, .string ⟨#[]⟩, .int .i64 0] (n * 5)) 35)) := by
  obtain ⟨i0, hi, hz0, hz1, hz2⟩ := info_parts infoG
  have := run_make (P := Tryz.prog) w 25 35 i0 _ Tryz.underlying25 hi hz0 .i64 .i64 (n : Int) (n : Int) (by omega) (by omega) (by rw [hz2]; omega) (by omega)
  rw [this, hz1]
  simp [Value.cells]
theorem madeG (n : Nat) (hn : n ≤ 1048576) (w : World) : (w.alloc (.cells (madeCells #[.string ⟨#[]⟩, .int .i64 0, .int .i64 0, .string ⟨#[]⟩, .int .i64 0] (n * 5)) 35)).ownsRow w.heap.size 35 5 (.slice (some ⟨w.heap.size, 0, none⟩) n n) n (madeCells #[.string ⟨#[]⟩, .int .i64 0, .int .i64 0, .string ⟨#[]⟩, .int .i64 0] (n * 5)).toList :=
  ⟨by simp [madeCells], .inr ⟨w.heap.size, n, _, rfl, Nat.le_refl _, heap_alloc_new w _, Nat.le_refl _, by unfold maxLen; omega, by simp [madeCells], by rw [List.take_of_length_le]; simp [madeCells]⟩⟩
theorem putG (xs A : List Value) (k : Nat) (a b c d e : Value) (h : xs.take (k * 5) = A) (hl : k * 5 + 5 ≤ xs.length) : (((((xs.set (k * 5) a).set (k * 5 + 1) b).set (k * 5 + 2) c).set (k * 5 + 3) d).set (k * 5 + 4) e).take ((k + 1) * 5) = A ++ [a, b, c, d, e] := by
  have e : xs = xs.take (k * 5) ++ (xs[k * 5]'(by omega) :: xs[k * 5 + 1]'(by omega) :: xs[k * 5 + 2]'(by omega) :: xs[k * 5 + 3]'(by omega) :: xs[k * 5 + 4]'(by omega) :: xs.drop (k * 5 + 5)) := by
    rw [← List.drop_eq_getElem_cons, ← List.drop_eq_getElem_cons, ← List.drop_eq_getElem_cons, ← List.drop_eq_getElem_cons, ← List.drop_eq_getElem_cons, List.take_append_drop]
  have hA : A.length = k * 5 := by rw [← h]; simp; omega
  rw [h] at e
  generalize xs[k * 5]'(by omega) = x0 at e
  generalize xs[k * 5 + 1]'(by omega) = x1 at e
  generalize xs[k * 5 + 2]'(by omega) = x2 at e
  generalize xs[k * 5 + 3]'(by omega) = x3 at e
  generalize xs[k * 5 + 4]'(by omega) = x4 at e
  generalize xs.drop (k * 5 + 5) = r at e
  clear h
  subst e
  rw [List.set_append_right _ _ (by omega), List.set_append_right _ _ (by omega), List.set_append_right _ _ (by omega), List.set_append_right _ _ (by omega), List.set_append_right _ _ (by omega), hA, show k * 5 - k * 5 = 0 by omega, show k * 5 + 1 - k * 5 = 1 by omega, show k * 5 + 2 - k * 5 = 2 by omega, show k * 5 + 3 - k * 5 = 3 by omega, show k * 5 + 4 - k * 5 = 4 by omega]
  rw [show (k + 1) * 5 = A.length + 5 by omega, List.take_append, List.take_of_length_le (by omega), show A.length + 5 - A.length = 5 by omega]
  rfl
/-- One stored into its place. -/
theorem putG_next {wr : World} {base g n k : Nat} {xs A : List Value} {t : Glb} (ho : wr.ownsRow base 35 5 (.slice (some ⟨g, 0, none⟩) n n) n xs) (hA : xs.take (k * 5) = A) (hk : k < n) :
    ∃ ys, (((((wr.setCell ⟨g, k * 5, none⟩ (.string t.name)).setCell ⟨g, k * 5 + 1, none⟩ (.int .i64 t.value.kind)).setCell ⟨g, k * 5 + 2, none⟩ (.int .i64 t.value.num)).setCell ⟨g, k * 5 + 3, none⟩ (.string t.value.name)).setCell ⟨g, k * 5 + 4, none⟩ (.int .i64 t.ver)).ownsRow base 35 5 (.slice (some ⟨g, 0, none⟩) n n) n ys ∧ ys.take ((k + 1) * 5) = A ++ t.cells :=
  ⟨_, own_put (own_put (own_put (own_put (own_put ho _ _) _ _) _ _) _ _) _ _, putG xs A k _ _ _ _ _ hA (by have := ho.1; omega)⟩
end Go.Proofs.YtlamkbggfbancaaGreatDoor
