/-
  Datum, a struct of 4 cells, and slices of it: what the laws' eqDatum, eqDatumS, toDatum, toDatumS, szDatum and szDatumS answer; nothing that was there is turned.
-/
import Derived.Test.YtoljpgpkeploiaaGreatDoorRowKit0
namespace Go.Proofs.YtoljpgpkeploiaaGreatDoor
open Go.RowKit Go.Extern.Stop Go.Stop Go.Extern Num Go.Lib

structure Dat where
  kind : Int
  parent : Int
  num : Int
  name : ByteArray
abbrev Dat.val (t : Dat) : Value := .agg #[.int .i64 t.kind, .int .i64 t.parent, .int .i64 t.num, .string t.name]
def Dat.cells (t : Dat) : List Value := [.int .i64 t.kind, .int .i64 t.parent, .int .i64 t.num, .string t.name]
def cellsD : List Dat → List Value
  | [] => []
  | t :: r => t.cells ++ cellsD r
theorem cellsD_append (a b : List Dat) : cellsD (a ++ b) = cellsD a ++ cellsD b := by
  induction a with
  | nil => rfl
  | cons t r ih => simp [cellsD, ih]
theorem cellsD_length (l : List Dat) : (cellsD l).length = l.length * 4 := by
  induction l with
  | nil => rfl
  | cons t r ih => simp [cellsD, Dat.cells, ih]; omega
theorem cellsD_one (l : List Dat) : ∀ u ∈ cellsD l, u.oneCell' = true := by
  induction l with
  | nil => intro u h; cases h
  | cons t r ih =>
    intro u h
    simp only [cellsD, Dat.cells, List.mem_append, List.mem_cons, List.not_mem_nil, or_false] at h
    rcases h with (rfl | rfl | rfl | rfl) | h
    · rfl
    · rfl
    · rfl
    · rfl
    · exact ih u h
theorem cellsD_at (l : List Dat) (k : Nat) (h : k < l.length) : (cellsD l)[k * 4]? = some (.int .i64 l[k].kind) ∧ (cellsD l)[k * 4 + 1]? = some (.int .i64 l[k].parent) ∧ (cellsD l)[k * 4 + 2]? = some (.int .i64 l[k].num) ∧ (cellsD l)[k * 4 + 3]? = some (.string l[k].name) := by
  induction l generalizing k with
  | nil => cases h
  | cons t r ih =>
    cases k with
    | zero => exact ⟨rfl, rfl, rfl, rfl⟩
    | succ k =>
      have hk : k < r.length := by simpa using h
      have := ih k hk
      have e : ∀ j, (cellsD (t :: r))[j + 4]? = (cellsD r)[j]? := fun j => by
        show (t.cells ++ cellsD r)[j + 4]? = _
        rw [List.getElem?_append_right (by simp [Dat.cells])]
        simp [Dat.cells]
      have e1 : (k + 1) * 4 = k * 4 + 4 := by omega
      rw [e1, show k * 4 + 4 + 1 = k * 4 + 1 + 4 by omega, show k * 4 + 4 + 2 = k * 4 + 2 + 4 by omega, show k * 4 + 4 + 3 = k * 4 + 3 + 4 by omega, e, e, e, e]
      simpa using this
theorem takeD (l : List Dat) (k : Nat) (h : k < l.length) : l.take (k + 1) = l.take k ++ [l[k]] := by
  rw [List.take_add_one, List.getElem?_eq_getElem h]; rfl
theorem infoD : (Tryz.prog.info? 61).map (fun i => (i.zero, i.size, i.bytes)) = some (some (.agg #[.int .i64 0, .int .i64 0, .int .i64 0, .string ⟨#[]⟩]), 4, 40) := by kernel_rfl
theorem rowD_at {w : World} {base g cap : Nat} {l : List Dat} (h : w.ownsRow base 61 4 (.slice (some ⟨g, 0, none⟩) l.length cap) l.length (cellsD l)) (k : Nat) (hk : k < l.length) :
    w.cell? ⟨g, k * 4, none⟩ = some (.int .i64 l[k].kind) ∧ w.cell? ⟨g, k * 4 + 1, none⟩ = some (.int .i64 l[k].parent) ∧ w.cell? ⟨g, k * 4 + 2, none⟩ = some (.int .i64 l[k].num) ∧ w.cell? ⟨g, k * 4 + 3, none⟩ = some (.string l[k].name) := by
  have ha : ∀ j, (⟨g, 0, none⟩ : Addr).add j = ⟨g, j, none⟩ := fun j => by unfold Addr.add; split <;> simp_all
  have hc := h.cells (g := g) rfl
  obtain ⟨h0, h1, h2, h3⟩ := cellsD_at l k hk
  exact ⟨by rw [← ha]; exact hc _ _ h0, by rw [← ha]; exact hc _ _ h1, by rw [← ha]; exact hc _ _ h2, by rw [← ha]; exact hc _ _ h3⟩
/-- What lies where a slice leads that came in. -/
def MemD (w : World) (a : Option Addr) (l : List Dat) : Prop :=
  0 < l.length → ∃ b off, a = some ⟨b, off, none⟩ ∧ ∀ (k : Nat) (h : k < l.length), w.cell? ⟨b, off + k * 4, none⟩ = some (.int .i64 l[k].kind) ∧ w.cell? ⟨b, off + k * 4 + 1, none⟩ = some (.int .i64 l[k].parent) ∧ w.cell? ⟨b, off + k * 4 + 2, none⟩ = some (.int .i64 l[k].num) ∧ w.cell? ⟨b, off + k * 4 + 3, none⟩ = some (.string l[k].name)
theorem MemD.below {w w' : World} {a : Option Addr} {l : List Dat} (h : MemD w a l) (hb : Below w.heap.size w w') : MemD w' a l := by
  intro hl
  obtain ⟨b, off, e, hc⟩ := h hl
  exact ⟨b, off, e, fun k hk => ⟨cell_keep hb (hc k hk).1, cell_keep hb (hc k hk).2.1, cell_keep hb (hc k hk).2.2.1, cell_keep hb (hc k hk).2.2.2⟩⟩
/-- How much a slice holds. -/
def SZD (l : List Dat) (w : World) (e : Ending) (w' : World) : Prop :=
  ((e = .returned (.int .i64 (-1))) ∨ (∃ q : Nat, q ≤ 1048576 ∧ e = .returned (.int .i64 (q : Int)) ∧ l.length ≤ 1048576 ∧ ∀ (k : Nat) (h : k < l.length), l[k].name.size ≤ 1048576)) ∧ Below w.heap.size w w'
theorem makeD (n : Nat) (hn : n ≤ 1048576) (w : World) : (Instr.makeSlice 25 (.int .i64 (n : Int)) (.int .i64 (n : Int))).run Tryz.prog w = .ok (.slice (some ⟨w.heap.size, 0, none⟩) n n) (w.alloc (.cells (madeCells #[.int .i64 0, .int .i64 0, .int .i64 0, .string ⟨#[]⟩] (n * 4)) 61)) := by
  obtain ⟨i0, hi, hz0, hz1, hz2⟩ := info_parts infoD
  have := run_make (P := Tryz.prog) w 25 61 i0 _ Tryz.underlying25 hi hz0 .i64 .i64 (n : Int) (n : Int) (by omega) (by omega) (by rw [hz2]; omega) (by omega)
  rw [this, hz1]
  simp [Value.cells]
theorem madeD (n : Nat) (hn : n ≤ 1048576) (w : World) : (w.alloc (.cells (madeCells #[.int .i64 0, .int .i64 0, .int .i64 0, .string ⟨#[]⟩] (n * 4)) 61)).ownsRow w.heap.size 61 4 (.slice (some ⟨w.heap.size, 0, none⟩) n n) n (madeCells #[.int .i64 0, .int .i64 0, .int .i64 0, .string ⟨#[]⟩] (n * 4)).toList :=
  ⟨by simp [madeCells], .inr ⟨w.heap.size, n, _, rfl, Nat.le_refl _, heap_alloc_new w _, Nat.le_refl _, by unfold maxLen; omega, by simp [madeCells], by rw [List.take_of_length_le]; simp [madeCells]⟩⟩
theorem putD (xs A : List Value) (k : Nat) (a b c d : Value) (h : xs.take (k * 4) = A) (hl : k * 4 + 4 ≤ xs.length) : ((((xs.set (k * 4) a).set (k * 4 + 1) b).set (k * 4 + 2) c).set (k * 4 + 3) d).take ((k + 1) * 4) = A ++ [a, b, c, d] := by
  have e : xs = xs.take (k * 4) ++ (xs[k * 4]'(by omega) :: xs[k * 4 + 1]'(by omega) :: xs[k * 4 + 2]'(by omega) :: xs[k * 4 + 3]'(by omega) :: xs.drop (k * 4 + 4)) := by
    rw [← List.drop_eq_getElem_cons, ← List.drop_eq_getElem_cons, ← List.drop_eq_getElem_cons, ← List.drop_eq_getElem_cons, List.take_append_drop]
  have hA : A.length = k * 4 := by rw [← h]; simp; omega
  rw [h] at e
  generalize xs[k * 4]'(by omega) = x0 at e
  generalize xs[k * 4 + 1]'(by omega) = x1 at e
  generalize xs[k * 4 + 2]'(by omega) = x2 at e
  generalize xs[k * 4 + 3]'(by omega) = x3 at e
  generalize xs.drop (k * 4 + 4) = r at e
  clear h
  subst e
  rw [List.set_append_right _ _ (by omega), List.set_append_right _ _ (by omega), List.set_append_right _ _ (by omega), List.set_append_right _ _ (by omega), hA, show k * 4 - k * 4 = 0 by omega, show k * 4 + 1 - k * 4 = 1 by omega, show k * 4 + 2 - k * 4 = 2 by omega, show k * 4 + 3 - k * 4 = 3 by omega]
  rw [show (k + 1) * 4 = A.length + 4 by omega, List.take_append, List.take_of_length_le (by omega), show A.length + 4 - A.length = 4 by omega]
  rfl
/-- One stored into its place. -/
theorem putD_next {wr : World} {base g n k : Nat} {xs A : List Value} {t : Dat} (ho : wr.ownsRow base 61 4 (.slice (some ⟨g, 0, none⟩) n n) n xs) (hA : xs.take (k * 4) = A) (hk : k < n) :
    ∃ ys, ((((wr.setCell ⟨g, k * 4, none⟩ (.int .i64 t.kind)).setCell ⟨g, k * 4 + 1, none⟩ (.int .i64 t.parent)).setCell ⟨g, k * 4 + 2, none⟩ (.int .i64 t.num)).setCell ⟨g, k * 4 + 3, none⟩ (.string t.name)).ownsRow base 61 4 (.slice (some ⟨g, 0, none⟩) n n) n ys ∧ ys.take ((k + 1) * 4) = A ++ t.cells :=
  ⟨_, own_put (own_put (own_put (own_put ho _ _) _ _) _ _) _ _, putD xs A k _ _ _ _ hA (by have := ho.1; omega)⟩
end Go.Proofs.YtoljpgpkeploiaaGreatDoor
