/-
  Block, a struct of 2 cells whose last one is a slice, and slices of it: what the laws' szBlock, szBlockS, toBlock and toBlockS answer; nothing that was there is turned.
-/
import Derived.Test.YtkdhmijebkhmaaaDoorStOp
namespace Go.Proofs.YtkdhmijebkhmaaaDoor
open Go.RowKit Go.Extern.Stop Go.Stop Go.Extern Num Go.Lib

structure Blk where
  args : Int
  ops : List Opr
abbrev Blk.val (t : Blk) (v : Value) : Value := .agg #[.int .i64 t.args, v]
def Blk.cells (t : Blk) (v : Value) : List Value := [.int .i64 t.args, v]
structure Blk.small (t : Blk) : Prop where
  len : t.ops.length ≤ 1048576
  names : ∀ (k : Nat) (h : k < t.ops.length), t.ops[k].small
structure Blk.able (t : Blk) : Prop where
  len : t.ops.length ≤ 9223372036854775807
  names : ∀ (k : Nat) (h : k < t.ops.length), t.ops[k].able
/-- What lies where a slice leads that came in. -/
def MemBl (w : World) (a : Option Addr) (l : List Blk) : Prop :=
  0 < l.length → ∃ b off, a = some ⟨b, off, none⟩ ∧ ∀ (k : Nat) (h : k < l.length), w.cell? ⟨b, off + k * 2, none⟩ = some (.int .i64 l[k].args) ∧ ∃ ao cap, w.cell? ⟨b, off + k * 2 + 1, none⟩ = some (.slice ao l[k].ops.length cap) ∧ MemOp w ao l[k].ops
theorem MemBl.below {w w' : World} {a : Option Addr} {l : List Blk} (h : MemBl w a l) (hb : Below w.heap.size w w') : MemBl w' a l := by
  intro hl
  obtain ⟨b, off, e, hc⟩ := h hl
  refine ⟨b, off, e, fun k hk => ?_⟩
  obtain ⟨c0, ao, cap, cz, hm⟩ := hc k hk
  exact ⟨cell_keep hb c0, ao, cap, cell_keep hb cz, hm.below hb⟩
def SZ1Bl (t : Blk) (w : World) (e : Ending) (w' : World) : Prop := ((e = .returned (.int .i64 (-1))) ∨ (∃ q : Nat, q ≤ 1048576 ∧ e = .returned (.int .i64 (q : Int)) ∧ t.small)) ∧ Below w.heap.size w w'
def SZBl (l : List Blk) (w : World) (e : Ending) (w' : World) : Prop :=
  ((e = .returned (.int .i64 (-1))) ∨ (∃ q : Nat, q ≤ 1048576 ∧ e = .returned (.int .i64 (q : Int)) ∧ l.length ≤ 1048576 ∧ ∀ (k : Nat) (h : k < l.length), l[k].small)) ∧ Below w.heap.size w w'
def cellsBl : List (Blk × Value) → List Value
  | [] => []
  | t :: r => t.1.cells t.2 ++ cellsBl r
theorem cellsBl_append (a b : List (Blk × Value)) : cellsBl (a ++ b) = cellsBl a ++ cellsBl b := by
  induction a with
  | nil => rfl
  | cons t r ih => simp [cellsBl, ih]
theorem cellsBl_length (l : List (Blk × Value)) : (cellsBl l).length = l.length * 2 := by
  induction l with
  | nil => rfl
  | cons t r ih => simp [cellsBl, Blk.cells, ih]; omega
theorem cellsBl_at (l : List (Blk × Value)) (k : Nat) (h : k < l.length) : (cellsBl l)[k * 2]? = some (.int .i64 l[k].1.args) ∧ (cellsBl l)[k * 2 + 1]? = some l[k].2 := by
  induction l generalizing k with
  | nil => cases h
  | cons t r ih =>
    cases k with
    | zero => exact ⟨rfl, rfl⟩
    | succ k =>
      have hk : k < r.length := by simpa using h
      have := ih k hk
      have e : ∀ j, (cellsBl (t :: r))[j + 2]? = (cellsBl r)[j]? := fun j => by
        show (t.1.cells t.2 ++ cellsBl r)[j + 2]? = _
        rw [List.getElem?_append_right (by simp [Blk.cells])]
        simp [Blk.cells]
      have e1 : (k + 1) * 2 = k * 2 + 2 := by omega
      rw [e1, show k * 2 + 2 + 1 = k * 2 + 1 + 2 by omega, e, e]
      simpa using this
theorem putxBl (xs A : List Value) (k : Nat) (a0 a1 : Value) (h : xs.take (k * 2) = A) (hl : k * 2 + 2 ≤ xs.length) : ((xs.set (k * 2) a0).set (k * 2 + 1) a1).take ((k + 1) * 2) = A ++ [a0, a1] := by
  have q : xs = xs.take (k * 2) ++ (xs[k * 2]'(by omega) :: xs[k * 2 + 1]'(by omega) :: xs.drop (k * 2 + 2)) := by
    rw [← List.drop_eq_getElem_cons, ← List.drop_eq_getElem_cons, List.take_append_drop]
  have hA : A.length = k * 2 := by rw [← h]; simp; omega
  rw [h] at q
  generalize xs[k * 2]'(by omega) = x0 at q
  generalize xs[k * 2 + 1]'(by omega) = x1 at q
  generalize xs.drop (k * 2 + 2) = r at q
  clear h
  subst q
  rw [List.set_append_right _ _ (by omega), List.set_append_right _ _ (by omega), hA, show k * 2 - k * 2 = 0 by omega, show k * 2 + 1 - k * 2 = 1 by omega]
  rw [show (k + 1) * 2 = A.length + 2 by omega, List.take_append, List.take_of_length_le (by omega), show A.length + 2 - A.length = 2 by omega]
  rfl
/-- What each leads to, in rows of its own behind block g. -/
def NestBl (w : World) (B g : Nat) (P : List (Blk × Value)) : Prop := ∀ x ∈ P, ∃ gk, x.2 = .slice (some ⟨gk, 0, none⟩) x.1.ops.length x.1.ops.length ∧ g < gk ∧ IsOp w B gk x.1.ops.length x.1.ops
theorem NestBl.below {w w' : World} {B g : Nat} {P : List (Blk × Value)} (h : NestBl w B g P) (hb : Below w.heap.size w w') : NestBl w' B g P := fun x hx => by
  obtain ⟨gk, h1, h2, h3⟩ := h x hx
  exact ⟨gk, h1, h2, h3.below hb⟩
theorem NestBl.low {w : World} {B g : Nat} {P : List (Blk × Value)} (h : NestBl w B g P) {g0 : Nat} (hg : g0 ≤ g) (j : Nat) (u : Value) : NestBl (w.setCell ⟨g0, j, none⟩ u) B g P := fun x hx => by
  obtain ⟨gk, h1, h2, h3⟩ := h x hx
  exact ⟨gk, h1, h2, h3.low (by omega) j u⟩
theorem NestBl.set {w : World} {B g : Nat} {P : List (Blk × Value)} (h : NestBl w B g P) (j : Nat) (u : Value) : NestBl (w.setCell ⟨g, j, none⟩ u) B g P := h.low (Nat.le_refl _) j u
/-- As they are read. -/
def RowBl (w : World) (B g : Nat) (l : List Blk) : Prop := ∀ (k : Nat) (h : k < l.length), w.cell? ⟨g, k * 2, none⟩ = some (.int .i64 l[k].args) ∧
  ∃ gk, w.cell? ⟨g, k * 2 + 1, none⟩ = some (.slice (some ⟨gk, 0, none⟩) l[k].ops.length l[k].ops.length) ∧ IsOp w B gk l[k].ops.length l[k].ops
theorem RowBl.below {w w' : World} {B g : Nat} {l : List Blk} (h : RowBl w B g l) (hb : Below w.heap.size w w') : RowBl w' B g l := fun k hk => by
  obtain ⟨c0, gk, cz, ho⟩ := h k hk
  exact ⟨cell_keep hb c0, gk, cell_keep hb cz, ho.below hb⟩
theorem takeBl (l : List Blk) (k : Nat) (h : k < l.length) : l.take (k + 1) = l.take k ++ [l[k]] := by
  rw [List.take_add_one, List.getElem?_eq_getElem h]; rfl
end Go.Proofs.YtkdhmijebkhmaaaDoor
