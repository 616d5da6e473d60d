/-
  The laws' eqIntsResult, markIntsResult and heldIntsResult, and the two boxes in which a law keeps two answers; nothing but a marked row is turned.
-/
import Derived.Test.YtdohpfckiahlcaaIntRow
namespace Go.Proofs.Ytdohpfckiahlcaa
open Go.RowKit Go.Extern.Stop Go.Stop Go.Extern Num Go.Lib

/-- The two boxes in which a law keeps two answers. -/
structure BoxI (x y : Nat) (c0 : Int) (ao bo : Option Addr) (n ca cb : Nat) (w : World) : Prop where
  p0 : w.cell? ⟨x, 0, none⟩ = some (.int .i64 c0)
  p1 : w.cell? ⟨x, 1, none⟩ = some (.slice ao n ca)
  q0 : w.cell? ⟨y, 0, none⟩ = some (.int .i64 c0)
  q1 : w.cell? ⟨y, 1, none⟩ = some (.slice bo n cb)
theorem BoxI.below {x y : Nat} {c0 : Int} {ao bo : Option Addr} {n ca cb : Nat} {w w' : World} (h : BoxI x y c0 ao bo n ca cb w) (hb : Below w.heap.size w w') : BoxI x y c0 ao bo n ca cb w' :=
  ⟨cell_keep hb h.p0, cell_keep hb h.p1, cell_keep hb h.q0, cell_keep hb h.q1⟩
theorem BoxI.grown {x y : Nat} {c0 : Int} {ao bo : Option Addr} {n ca cb : Nat} {w w' : World} {r : Option Nat} (h : BoxI x y c0 ao bo n ca cb w) (hg : w.grownBy w' r) (hx : some x ≠ r) (hy : some y ≠ r) : BoxI x y c0 ao bo n ca cb w' :=
  ⟨hg.cell h.p0 hx, hg.cell h.p1 hx, hg.cell h.q0 hy, hg.cell h.q1 hy⟩
theorem BoxI.mk' {c0 : Int} {ao bo : Option Addr} {n ca cb : Nat} {w1 w2 : World} (hb : Below (w1.alloc (.cells #[.int .i64 c0, .slice ao n ca] 46)).heap.size (w1.alloc (.cells #[.int .i64 c0, .slice ao n ca] 46)) w2) :
    BoxI w1.heap.size w2.heap.size c0 ao bo n ca cb (w2.alloc (.cells #[.int .i64 c0, .slice bo n cb] 46)) := by
  have h1 : ∀ j u, #[Value.int .i64 c0, Value.slice ao n ca][j]? = some u → (w2.alloc (.cells #[.int .i64 c0, .slice bo n cb] 46)).cell? ⟨w1.heap.size, j, none⟩ = some u := fun j u h => by
    refine cell_laid _ (cell_keep hb ?_)
    rw [cell_of_row _ _ j _ _ _ (heap_alloc_new w1 _)]; exact h
  have h2 : ∀ j u, #[Value.int .i64 c0, Value.slice bo n cb][j]? = some u → (w2.alloc (.cells #[.int .i64 c0, .slice bo n cb] 46)).cell? ⟨w2.heap.size, j, none⟩ = some u := fun j u h => by
    rw [cell_of_row _ _ j _ _ _ (heap_alloc_new w2 _)]; exact h
  exact ⟨h1 0 _ rfl, h1 1 _ rfl, h2 0 _ rfl, h2 1 _ rfl⟩
end Go.Proofs.Ytdohpfckiahlcaa
