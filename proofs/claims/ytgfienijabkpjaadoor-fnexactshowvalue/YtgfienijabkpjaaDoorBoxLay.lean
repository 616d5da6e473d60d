/-
  The box of an answer that is not yet there (zeros), and what lies in it behind the store: five cells; a row of another type lies elsewhere.
-/
import Derived.Test.YtgfienijabkpjaaDoorSvE
namespace Go.Proofs.YtgfienijabkpjaaDoor
open Go.RowKit Go.Extern.Stop Go.Stop Go.Extern Num Go.Lib

/-- The cells of an answer: a code, a slice, a value. -/
structure BoxA (x : Nat) (c : Int) (s : Value) (t : Vlu) (u : World) : Prop where
  c0 : u.cell? ⟨x, 0, none⟩ = some (.int .i64 c)
  c1 : u.cell? ⟨x, 1, none⟩ = some s
  c2 : u.cell? ⟨x, 2, none⟩ = some (.int .i64 t.kind)
  c3 : u.cell? ⟨x, 3, none⟩ = some (.int .i64 t.num)
  c4 : u.cell? ⟨x, 4, none⟩ = some (.string t.name)
theorem BoxA.below {x : Nat} {c : Int} {s : Value} {t : Vlu} {u v : World} (h : BoxA x c s t u) (hb : Below u.heap.size u v) : BoxA x c s t v := ⟨cell_keep hb h.c0, cell_keep hb h.c1, cell_keep hb h.c2, cell_keep hb h.c3, cell_keep hb h.c4⟩
theorem BoxA.grown {x : Nat} {c : Int} {s : Value} {t : Vlu} {u v : World} {r : Option Nat} (h : BoxA x c s t u) (hg : u.grownBy v r) (hr : some x ≠ r) : BoxA x c s t v := ⟨hg.cell h.c0 hr, hg.cell h.c1 hr, hg.cell h.c2 hr, hg.cell h.c3 hr, hg.cell h.c4 hr⟩
theorem lt_of_block {u : World} {x : Nat} {o : Obj} (h : u.heap[x]? = some o) : x < u.heap.size := by
  rcases Nat.lt_or_ge x u.heap.size with g | g
  · exact g
  · rw [Array.getElem?_eq_none g] at h; cases h
theorem five_cells {u : World} {x T : Nat} {v0 v1 v2 v3 v4 : Value} (h : u.heap[x]? = some (.cells #[v0, v1, v2, v3, v4] T (0, 0))) :
    u.cell? ⟨x, 0, none⟩ = some v0 ∧ u.cell? ⟨x, 1, none⟩ = some v1 ∧ u.cell? ⟨x, 2, none⟩ = some v2 ∧ u.cell? ⟨x, 3, none⟩ = some v3 ∧ u.cell? ⟨x, 4, none⟩ = some v4 ∧ ∀ o, u.frozen? ⟨x, o, none⟩ = false := by
  simp [World.cell?, World.frozen?, h]
theorem five_put {u : World} {x T : Nat} {v0 v1 v2 v3 v4 : Value} {c : Int} {s : Value} {t : Vlu} (h : u.heap[x]? = some (.cells #[v0, v1, v2, v3, v4] T (0, 0))) :
    BoxA x c s t (((((u.setCell ⟨x, 0, none⟩ (.int .i64 c)).setCell ⟨x, 1, none⟩ s).setCell ⟨x, 2, none⟩ (.int .i64 t.kind)).setCell ⟨x, 3, none⟩ (.int .i64 t.num)).setCell ⟨x, 4, none⟩ (.string t.name)) ∧ u.grownBy (((((u.setCell ⟨x, 0, none⟩ (.int .i64 c)).setCell ⟨x, 1, none⟩ s).setCell ⟨x, 2, none⟩ (.int .i64 t.kind)).setCell ⟨x, 3, none⟩ (.int .i64 t.num)).setCell ⟨x, 4, none⟩ (.string t.name)) (some x) := by
  obtain ⟨c0, c1, c2, c3, c4, _⟩ := five_cells h
  refine ⟨?_, gb_set (gb_set (gb_set (gb_set (gb_set (gb_refl _ _) _) _) _) _) _⟩
  have ne : ∀ {i j : Nat}, i ≠ j → (⟨x, i, none⟩ : Addr) ≠ ⟨x, j, none⟩ := fun h e => h (by injection e)
  have o : ∀ (v : World) (i j : Nat) (y : Value), i ≠ j → (v.setCell ⟨x, i, none⟩ y).cell? ⟨x, j, none⟩ = v.cell? ⟨x, j, none⟩ := fun v i j y h => World.cell?_setCell_other _ _ _ _ (ne h)
  refine ⟨?_, ?_, ?_, ?_, ?_⟩
  · rw [o _ 4 0 _ (by decide), o _ 3 0 _ (by decide), o _ 2 0 _ (by decide), o _ 1 0 _ (by decide)]
    exact World.cell?_setCell_same' _ _ _ (by rw [c0]; rfl)
  · rw [o _ 4 1 _ (by decide), o _ 3 1 _ (by decide), o _ 2 1 _ (by decide)]
    exact World.cell?_setCell_same' _ _ _ (by rw [o _ 0 1 _ (by decide), c1]; rfl)
  · rw [o _ 4 2 _ (by decide), o _ 3 2 _ (by decide)]
    exact World.cell?_setCell_same' _ _ _ (by rw [o _ 1 2 _ (by decide), o _ 0 2 _ (by decide), c2]; rfl)
  · rw [o _ 4 3 _ (by decide)]
    exact World.cell?_setCell_same' _ _ _ (by rw [o _ 2 3 _ (by decide), o _ 1 3 _ (by decide), o _ 0 3 _ (by decide), c3]; rfl)
  · exact World.cell?_setCell_same' _ _ _ (by rw [o _ 3 4 _ (by decide), o _ 2 4 _ (by decide), o _ 1 4 _ (by decide), o _ 0 4 _ (by decide), c4]; rfl)
/-- A row of another type lies in another block. -/
theorem own_ne {u : World} {base x size n : Nat} {e T : TypeId} {v : Value} {xs : List Value} {cs : Array Value} {fz : Nat × Nat} (h : u.ownsRow base e size v n xs) (hx : u.heap[x]? = some (.cells cs T fz)) (hne : e ≠ T) : ∀ g, v.ownBlock = some g → g ≠ x := by
  intro g hg hgx
  rcases h.2 with ⟨rfl, _⟩ | ⟨g', cap, cur, rfl, _, hgg, _⟩
  · cases hg
  · have : g' = g := by simpa [Value.ownBlock] using hg
    subst this
    subst hgx
    rw [hgg] at hx
    injection hx with h1
    injection h1 with h2 h3 h4
    exact hne h3
/-- The box of a ValueResult, all zero. -/
def BoxZValueResult (n x : Nat) (u : World) : Prop := n ≤ x ∧ u.heap[x]? = some (.cells #[.int .i64 0, .slice none 0 0, .int .i64 0, .int .i64 0, .string ⟨#[]⟩] 40 (0, 0))
theorem BoxZValueResult.below {n x : Nat} {u v : World} (h : BoxZValueResult n x u) (hb : Below u.heap.size u v) : BoxZValueResult n x v := ⟨h.1, by rw [hb.block x (lt_of_block h.2)]; exact h.2⟩
theorem BoxZValueResult.cells {n x : Nat} {u : World} (h : BoxZValueResult n x u) : u.cell? ⟨x, 0, none⟩ = some (.int .i64 0) ∧ u.cell? ⟨x, 1, none⟩ = some (.slice none 0 0) ∧ u.cell? ⟨x, 2, none⟩ = some (.int .i64 0) ∧ u.cell? ⟨x, 3, none⟩ = some (.int .i64 0) ∧ u.cell? ⟨x, 4, none⟩ = some (.string ⟨#[]⟩) ∧ ∀ o, u.frozen? ⟨x, o, none⟩ = false := five_cells h.2
theorem BoxZValueResult.put {n x : Nat} {u : World} {c : Int} {s : Value} {t : Vlu} (h : BoxZValueResult n x u) : BoxA x c s t (((((u.setCell ⟨x, 0, none⟩ (.int .i64 c)).setCell ⟨x, 1, none⟩ s).setCell ⟨x, 2, none⟩ (.int .i64 t.kind)).setCell ⟨x, 3, none⟩ (.int .i64 t.num)).setCell ⟨x, 4, none⟩ (.string t.name)) ∧ u.grownBy (((((u.setCell ⟨x, 0, none⟩ (.int .i64 c)).setCell ⟨x, 1, none⟩ s).setCell ⟨x, 2, none⟩ (.int .i64 t.kind)).setCell ⟨x, 3, none⟩ (.int .i64 t.num)).setCell ⟨x, 4, none⟩ (.string t.name)) (some x) := five_put h.2
end Go.Proofs.YtgfienijabkpjaaDoor
