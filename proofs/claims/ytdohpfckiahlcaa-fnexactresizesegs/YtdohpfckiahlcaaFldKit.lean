/-
  A block whose cells hold slices that are owned, apart from one another: what a store into one leaves of the others.
-/
import Derived.Test.YtdohpfckiahlcaaRowKit0
import Derived.WalkSmall
namespace Go.Proofs.Ytdohpfckiahlcaa
open Go.RowKit Go.Extern.Stop Go.Stop Go.Extern Num Go.Lib

/-- A cell of a block that holds a slice, its row owned. -/
def Fld (w : World) (B r f : Nat) (e : TypeId) (size : Nat) (v : Value) (n : Nat) (xs : List Value) : Prop :=
  w.cell? ⟨r, f, none⟩ = some v ∧ w.ownsRow B e size v n xs ∧ ∀ g, v.ownBlock = some g → g ≠ r
section
variable {w w1 : World} {B r f : Nat} {e : TypeId} {size : Nat} {v : Value} {n : Nat} {xs : List Value}
theorem Fld.lt (h : Fld w B r f e size v n xs) : r < w.heap.size := lt_of_cell h.1
theorem Fld.put {v' : Value} {n' : Nat} {xs' : List Value} (h : Fld w B r f e size v n xs) (hg : w.grownBy w1 v.ownBlock) (ho : w1.ownsRow B e size v' n' xs') (hv : ∀ g, v'.ownBlock = some g → v.ownBlock = some g ∨ w.heap.size ≤ g) :
    Fld (w1.setCell ⟨r, f, none⟩ v') B r f e size v' n' xs' := by
  have hlt := h.lt
  have hcell : w1.cell? ⟨r, f, none⟩ = some v := hg.cell h.1 (fun e => h.2.2 r e.symm rfl)
  have hne : ∀ g, v'.ownBlock = some g → g ≠ r := fun g hg' => by
    rcases hv g hg' with h1 | h1
    · exact h.2.2 g h1
    · omega
  exact ⟨World.cell?_setCell_same' _ _ _ (by rw [hcell]; rfl), own_set' ho hne v', hne⟩
theorem Fld.other {ro : Option Nat} {f' : Nat} (h : Fld w B r f e size v n xs) (hg : w.grownBy w1 ro) (hro : ro ≠ some r) (hap : ∀ g, v.ownBlock = some g → ro ≠ some g) (hf : f' ≠ f) (v' : Value) :
    Fld (w1.setCell ⟨r, f', none⟩ v') B r f e size v n xs := by
  have hcell : w1.cell? ⟨r, f, none⟩ = some v := hg.cell h.1 (fun e => hro e.symm)
  refine ⟨?_, own_set' (own_apart h.2.1 hg hap) h.2.2 v', h.2.2⟩
  rw [World.cell?_setCell_other _ _ _ _ (by intro e; apply hf; injection e)]
  exact hcell
theorem Fld.below (h : Fld w B r f e size v n xs) (hb : Below w.heap.size w w1) : Fld w1 B r f e size v n xs := ⟨cell_keep hb h.1, own_below h.2.1 hb, h.2.2⟩
theorem Fld.own_lt (h : Fld w B r f e size v n xs) : ∀ g, v.ownBlock = some g → g < w.heap.size := fun g hg => (h.2.1.lt g hg).2
end
theorem apart_put {w : World} {v v' u : Value} (hv : ∀ g, v'.ownBlock = some g → v.ownBlock = some g ∨ w.heap.size ≤ g) (hap : ∀ g, v.ownBlock = some g → u.ownBlock ≠ some g) (hu : ∀ g, u.ownBlock = some g → g < w.heap.size) : ∀ g, v'.ownBlock = some g → u.ownBlock ≠ some g := by
  intro g hg e
  rcases hv g hg with h | h
  · exact hap g h e
  · have := hu g e; omega
theorem apart_sym {v u : Value} (h : ∀ g, v.ownBlock = some g → u.ownBlock ≠ some g) : ∀ g, u.ownBlock = some g → v.ownBlock ≠ some g := fun g hg e => h g e hg
theorem fz_grown {w w1 : World} {r : Nat} {ro : Option Nat} (hz : ∀ o, w.frozen? ⟨r, o, none⟩ = false) (hlt : r < w.heap.size) (hg : w.grownBy w1 ro) (hro : ro ≠ some r) (p : Addr) (v : Value) : ∀ o, (w1.setCell p v).frozen? ⟨r, o, none⟩ = false := fun o => by
  rw [World.frozen?_setCell, World.frozen?_of_block (a := ⟨r, o, none⟩) (hg.block r hlt (fun e => hro e.symm))]; exact hz o
/-- A cell ahead of a row that has grown. -/
theorem afterGrow {w u w1 : World} {row : Option Nat} {r f : Nat} {v : Value} (hb : Below w.heap.size w u) (c : w.cell? ⟨r, f, none⟩ = some v) (fz : w.frozen? ⟨r, f, none⟩ = false) (hg : u.grownBy w1 row) (hr : row ≠ some r) : w1.cell? ⟨r, f, none⟩ = some v ∧ w1.frozen? ⟨r, f, none⟩ = false := by
  have h1 := cell_keep hb c
  refine ⟨hg.cell h1 (Ne.symm hr), ?_⟩
  rw [World.frozen?_of_block (a := ⟨r, f, none⟩) (hg.block r (lt_of_cell h1) (Ne.symm hr)), (bcell hb).2 r f (lt_of_cell c)]
  exact fz
end Go.Proofs.Ytdohpfckiahlcaa
