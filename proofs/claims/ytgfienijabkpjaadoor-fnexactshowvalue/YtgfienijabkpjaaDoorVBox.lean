/-
  Values that were handed in and lie in boxes of the call's own: what their cells hold, in each later world too.
-/
import Derived.Test.YtgfienijabkpjaaDoorVluBase
namespace Go.Proofs.YtgfienijabkpjaaDoor
open Go.RowKit Go.Extern.Stop Go.Stop Go.Extern Num Go.Lib

/-- The cells of a value behind a pointer. -/
structure VluAt (b o : Nat) (t : Vlu) (w : World) : Prop where
  c0 : w.cell? ⟨b, o, none⟩ = some (.int .i64 t.kind)
  c1 : w.cell? ⟨b, o + 1, none⟩ = some (.int .i64 t.num)
  c2 : w.cell? ⟨b, o + 2, none⟩ = some (.string t.name)
theorem VluAt.below {b o : Nat} {t : Vlu} {w w' : World} (h : VluAt b o t w) (hb : Below w.heap.size w w') : VluAt b o t w' := ⟨cell_keep hb h.c0, cell_keep hb h.c1, cell_keep hb h.c2⟩
/-- The cells of a value in a box. -/
structure VBox (b : Nat) (t : Vlu) (w : World) : Prop where
  c0 : w.cell? ⟨b, 0, none⟩ = some (.int .i64 t.kind)
  c1 : w.cell? ⟨b, 1, none⟩ = some (.int .i64 t.num)
  c2 : w.cell? ⟨b, 2, none⟩ = some (.string t.name)
theorem VBox.below {b : Nat} {t : Vlu} {w w' : World} (h : VBox b t w) (hb : Below w.heap.size w w') : VBox b t w' := ⟨cell_keep hb h.c0, cell_keep hb h.c1, cell_keep hb h.c2⟩
theorem VBox.at {b : Nat} {t : Vlu} {w : World} (h : VBox b t w) : VluAt b 0 t w := ⟨h.c0, h.c1, h.c2⟩
theorem box1 (w : World) (a : Vlu) (ta : TypeId) : VBox w.heap.size a (w.alloc (.cells #[.int .i64 a.kind, .int .i64 a.num, .string a.name] ta)) ∧ Below w.heap.size w (w.alloc (.cells #[.int .i64 a.kind, .int .i64 a.num, .string a.name] ta)) := by
  refine ⟨⟨?_, ?_, ?_⟩, (Below.refl _ _).alloc (Nat.le_refl _) _⟩ <;> (rw [World.cell?_alloc_at _ _ _ _ rfl]; rfl)
theorem box2 (w : World) (a b : Vlu) (ta tb : TypeId) : VBox w.heap.size a ((w.alloc (.cells #[.int .i64 a.kind, .int .i64 a.num, .string a.name] ta)).alloc (.cells #[.int .i64 b.kind, .int .i64 b.num, .string b.name] tb)) ∧ VBox (w.heap.size + 1) b ((w.alloc (.cells #[.int .i64 a.kind, .int .i64 a.num, .string a.name] ta)).alloc (.cells #[.int .i64 b.kind, .int .i64 b.num, .string b.name] tb)) ∧ Below w.heap.size w ((w.alloc (.cells #[.int .i64 a.kind, .int .i64 a.num, .string a.name] ta)).alloc (.cells #[.int .i64 b.kind, .int .i64 b.num, .string b.name] tb)) := by
  refine ⟨⟨?_, ?_, ?_⟩, ⟨?_, ?_, ?_⟩, ((Below.refl _ _).alloc (Nat.le_refl _) _).alloc (by simp) _⟩
  · rw [World.cell?_alloc_past _ _ _ (by simp), World.cell?_alloc_at _ _ _ _ rfl]; rfl
  · rw [World.cell?_alloc_past _ _ _ (by simp), World.cell?_alloc_at _ _ _ _ rfl]; rfl
  · rw [World.cell?_alloc_past _ _ _ (by simp), World.cell?_alloc_at _ _ _ _ rfl]; rfl
  · rw [World.cell?_alloc_at _ _ _ _ (by simp)]; rfl
  · rw [World.cell?_alloc_at _ _ _ _ (by simp)]; rfl
  · rw [World.cell?_alloc_at _ _ _ _ (by simp)]; rfl
end Go.Proofs.YtgfienijabkpjaaDoor
