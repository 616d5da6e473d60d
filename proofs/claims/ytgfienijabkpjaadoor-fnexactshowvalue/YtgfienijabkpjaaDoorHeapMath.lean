/-
  What is wrong with pairs, in plain words: no program in it.
-/
import Derived.Test.YtgfienijabkpjaaDoorVMath
import Derived.Test.YtgfienijabkpjaaDoorStPair
namespace Go.Proofs.YtgfienijabkpjaaDoor
open Go.RowKit Go.Extern.Stop Go.Stop Go.Extern Num Go.Lib

/-- Whether a value, if it is a pair, is of a place ahead. -/
def inH (n : Nat) (t : Vlu) : Bool := (!(t.kind == 5)) || decide (t.num < (n : Int))
/-- What is wrong with the pair at a place. -/
def pfault (i : Nat) (p : Pai) : Int :=
  if vfault p.head ≠ 0 then vfault p.head
  else if vfault p.tail ≠ 0 then vfault p.tail
  else if (inH i p.head && inH i p.tail) = true then 0 else 1
def heapFrom : Nat → List Pai → Int
  | _, [] => 0
  | i, p :: r => if pfault i p ≠ 0 then pfault i p else heapFrom (i + 1) r
/-- What is wrong with pairs. -/
def heapFault (l : List Pai) : Int := if 4000 < l.length then 2 else heapFrom 0 l
theorem heapFrom_bad (l : List Pai) (k : Nat) (h : k < l.length) (hp : pfault k (l[k]'h) ≠ 0) : heapFrom k (l.drop k) = pfault k (l[k]'h) := by
  rw [List.drop_eq_getElem_cons h, heapFrom, if_pos hp]
theorem heapFrom_ok (l : List Pai) (k : Nat) (h : k < l.length) (hp : pfault k (l[k]'h) = 0) : heapFrom k (l.drop k) = heapFrom (k + 1) (l.drop (k + 1)) := by
  rw [List.drop_eq_getElem_cons h, heapFrom, if_neg (by rw [hp]; decide)]
theorem heapFrom_end (l : List Pai) (k : Nat) (h : l.length ≤ k) : heapFrom k (l.drop k) = 0 := by
  rw [List.drop_of_length_le h]; rfl
/-- The cells of pairs where a row of them lies. -/
def RowP (w : World) (g : Nat) (l : List Pai) : Prop :=
  ∀ (k : Nat) (h : k < l.length), w.cell? ⟨g, k * 6, none⟩ = some (.int .i64 l[k].head.kind) ∧ w.cell? ⟨g, k * 6 + 1, none⟩ = some (.int .i64 l[k].head.num) ∧ w.cell? ⟨g, k * 6 + 2, none⟩ = some (.string l[k].head.name) ∧ w.cell? ⟨g, k * 6 + 3, none⟩ = some (.int .i64 l[k].tail.kind) ∧ w.cell? ⟨g, k * 6 + 4, none⟩ = some (.int .i64 l[k].tail.num) ∧ w.cell? ⟨g, k * 6 + 5, none⟩ = some (.string l[k].tail.name)
theorem RowP.below {w w' : World} {g : Nat} {l : List Pai} (h : RowP w g l) (hb : Below w.heap.size w w') : RowP w' g l := fun k hk =>
  ⟨cell_keep hb (h k hk).1, cell_keep hb (h k hk).2.1, cell_keep hb (h k hk).2.2.1, cell_keep hb (h k hk).2.2.2.1, cell_keep hb (h k hk).2.2.2.2.1, cell_keep hb (h k hk).2.2.2.2.2⟩
theorem RowP.of {w : World} {base g cap : Nat} {l : List Pai} (h : w.ownsRow base 85 6 (.slice (some ⟨g, 0, none⟩) l.length cap) l.length (cellsP l)) : RowP w g l := fun k hk => rowP_at h k hk
/-- Pairs whose names a machine can hold. -/
def ableL (l : List Pai) : Prop := ∀ (k : Nat) (h : k < l.length), l[k].able
end Go.Proofs.YtgfienijabkpjaaDoor
