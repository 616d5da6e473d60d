/-
  Parts of the proof laid into one text, one behind the other: OpAtM. Contracts of the program's and the model's functions, and what they are proved of, as their theorems say.
-/
import Derived.Test.YtoafolefecddmaaGreatDoorUiB
namespace Go.Proofs.YtoafolefecddmaaGreatDoor
open Go.RowKit Go.Extern.Stop Go.Stop Go.Extern Num Go.Lib
structure OpAt (w : World) (B g o : Nat) (t : Opr) (gk : Nat) : Prop where
  c0 : w.cell? ⟨g, o, none⟩ = some (.int .i64 t.kind)
  c1 : w.cell? ⟨g, o + 1, none⟩ = some (.int .i64 t.a)
  c2 : w.cell? ⟨g, o + 2, none⟩ = some (.int .i64 t.b)
  c3 : w.cell? ⟨g, o + 3, none⟩ = some (.int .i64 t.c)
  c4 : w.cell? ⟨g, o + 4, none⟩ = some (.int .i64 t.d)
  c5 : w.cell? ⟨g, o + 5, none⟩ = some (.string t.name)
  c6 : w.cell? ⟨g, o + 6, none⟩ = some (.slice (some ⟨gk, 0, none⟩) t.data.length t.data.length)
  data : IsD w B gk t.data.length t.data
theorem OpAt.below {w w' : World} {B g o gk : Nat} {t : Opr} (h : OpAt w B g o t gk) (hb : Below w.heap.size w w') : OpAt w' B g o t gk :=
  ⟨cell_keep hb h.c0, cell_keep hb h.c1, cell_keep hb h.c2, cell_keep hb h.c3, cell_keep hb h.c4, cell_keep hb h.c5, cell_keep hb h.c6, h.data.below hb⟩
theorem RowOp.at {w : World} {B g : Nat} {l : List Opr} (h : RowOp w B g l) (k : Nat) (hk : k < l.length) : ∃ gk, OpAt w B g (k * 7) l[k] gk := by
  obtain ⟨c0, c1, c2, c3, c4, c5, gk, c6, hd⟩ := h k hk
  exact ⟨gk, c0, c1, c2, c3, c4, c5, c6, hd⟩
end Go.Proofs.YtoafolefecddmaaGreatDoor
