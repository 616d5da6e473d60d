/-
  A block whose cells hold slices that are owned, apart from one another: what a store into one leaves of the others; and the model's reader of data as such a block.
-/
import Derived.Test.YtimhnljmdcgkhaaDoorSpecSubD
import Derived.WalkSmall
namespace Go.Proofs.YtimhnljmdcgkhaaDoor
open Go.RowKit Go.Extern.Stop Go.Stop Go.Extern Num Go.Lib

def cellsB (l : List Bool) : List Value := l.map Value.bool
theorem cellsB_length (l : List Bool) : (cellsB l).length = l.length := by simp [cellsB]
theorem cellsB_append (a b : List Bool) : cellsB (a ++ b) = cellsB a ++ cellsB b := by simp [cellsB]
theorem infoB : (Tryd.prog.info? 4).map (fun i => (i.zero, i.size, i.bytes)) = some (some (.bool false), 1, 1) := by kernel_rfl
theorem rowB_at {w : World} {base g cap : Nat} {l : List Bool} (h : w.ownsRow base 4 1 (.slice (some ⟨g, 0, none⟩) l.length cap) l.length (cellsB l)) (k : Nat) (hk : k < l.length) :
    w.cell? ⟨g, k, none⟩ = some (.bool l[k]) := by
  have ha : ∀ j, (⟨g, 0, none⟩ : Addr).add j = ⟨g, j, none⟩ := fun j => by unfold Addr.add; split <;> simp_all
  rw [← ha]
  exact h.cells (g := g) rfl k _ (by simp [cellsB, hk])
/-- A cell of a block that holds a slice, its row owned. -/
def Fld (w : World) (B r f : Nat) (e : TypeId) (size : Nat) (v : Value) (n : Nat) (xs : List Value) : Prop :=
  w.cell? ⟨r, f, none⟩ = some v ∧ w.ownsRow B e size v n xs ∧ ∀ g, v.ownBlock = some g → g ≠ r
section
variable {w w1 : World} {B r f : Nat} {e : TypeId} {size : Nat} {v : Value} {n : Nat} {xs : List Value}
theorem Fld.lt (h : Fld w B r f e size v n xs) : r < w.heap.size := lt_of_cell h.1
theorem Fld.put {v' : Value} {n' : Nat} {xs' : List Value} (h : Fld w B r f e size v n xs) (hg : w.grownBy w1 v.ownBlock) (ho : w1.ownsRow B e size v' n' xs') (hv : ∀ g, v'.ownBlock = some g → v.ownBlock = some g ∨ w.heap.size ≤ g) :
    Fld (w1.setCell ⟨r, f, none⟩ v') B r f e size v' n' xs' := by
  have hlt := h.lt
  have hcell : w1.cell? ⟨r, f, none⟩ = some v := hg.cell h.1 (fun e => h.2.2 r e.symm rfl)
  have hne : ∀ g, v'.ownBlock = some g → g ≠ r := fun g hg' => by
    rcases hv g hg' with h1 | h1
    · exact h.2.2 g h1
    · omega
  exact ⟨World.cell?_setCell_same' _ _ _ (by rw [hcell]; rfl), own_set' ho hne v', hne⟩
theorem Fld.other {ro : Option Nat} {f' : Nat} (h : Fld w B r f e size v n xs) (hg : w.grownBy w1 ro) (hro : ro ≠ some r) (hap : ∀ g, v.ownBlock = some g → ro ≠ some g) (hf : f' ≠ f) (v' : Value) :
    Fld (w1.setCell ⟨r, f', none⟩ v') B r f e size v n xs := by
  have hcell : w1.cell? ⟨r, f, none⟩ = some v := hg.cell h.1 (fun e => hro e.symm)
  refine ⟨?_, own_set' (own_apart h.2.1 hg hap) h.2.2 v', h.2.2⟩
  rw [World.cell?_setCell_other _ _ _ _ (by intro e; apply hf; injection e)]
  exact hcell
theorem Fld.below (h : Fld w B r f e size v n xs) (hb : Below w.heap.size w w1) : Fld w1 B r f e size v n xs := ⟨cell_keep hb h.1, own_below h.2.1 hb, h.2.2⟩
theorem Fld.own_lt (h : Fld w B r f e size v n xs) : ∀ g, v.ownBlock = some g → g < w.heap.size := fun g hg => (h.2.1.lt g hg).2
end
theorem apart_put {w : World} {v v' u : Value} (hv : ∀ g, v'.ownBlock = some g → v.ownBlock = some g ∨ w.heap.size ≤ g) (hap : ∀ g, v.ownBlock = some g → u.ownBlock ≠ some g) (hu : ∀ g, u.ownBlock = some g → g < w.heap.size) : ∀ g, v'.ownBlock = some g → u.ownBlock ≠ some g := by
  intro g hg e
  rcases hv g hg with h | h
  · exact hap g h e
  · have := hu g e; omega
theorem apart_sym {v u : Value} (h : ∀ g, v.ownBlock = some g → u.ownBlock ≠ some g) : ∀ g, u.ownBlock = some g → v.ownBlock ≠ some g := fun g hg e => h g e hg
/-- The reader: data that are read, open lists, and whether each ends behind one datum. -/
structure RdAt (w : World) (B r : Nat) (vD vO vQ : Value) (D : List Dat) (O : List Int) (Q : List Bool) : Prop where
  hr : B ≤ r
  fz : ∀ o, w.frozen? ⟨r, o, none⟩ = false
  fD : Fld w B r 0 51 4 vD D.length (cellsD D)
  fO : Fld w B r 1 2 1 vO O.length (cellsI O)
  fQ : Fld w B r 2 4 1 vQ Q.length (cellsB Q)
  dO : ∀ g, vD.ownBlock = some g → vO.ownBlock ≠ some g
  dQ : ∀ g, vD.ownBlock = some g → vQ.ownBlock ≠ some g
  oQ : ∀ g, vO.ownBlock = some g → vQ.ownBlock ≠ some g
section
variable {w w1 : World} {B r : Nat} {vD vO vQ v' : Value} {D D' : List Dat} {O O' : List Int} {Q Q' : List Bool}
theorem fz_grown {ro : Option Nat} (hz : ∀ o, w.frozen? ⟨r, o, none⟩ = false) (hlt : r < w.heap.size) (hg : w.grownBy w1 ro) (hro : ro ≠ some r) (p : Addr) (v : Value) : ∀ o, (w1.setCell p v).frozen? ⟨r, o, none⟩ = false := fun o => by
  rw [World.frozen?_setCell, World.frozen?_of_block (a := ⟨r, o, none⟩) (hg.block r hlt (fun e => hro e.symm))]; exact hz o
theorem RdAt.keep (h : RdAt w B r vD vO vQ D O Q) (hb : Below w.heap.size w w1) : RdAt w1 B r vD vO vQ D O Q :=
  ⟨h.hr, fun o => by rw [(bcell hb).2 r o h.fD.lt]; exact h.fz o, h.fD.below hb, h.fO.below hb, h.fQ.below hb, h.dO, h.dQ, h.oQ⟩
theorem RdAt.data (h : RdAt w B r vD vO vQ D O Q) (hg : w.grownBy w1 vD.ownBlock) (ho : w1.ownsRow B 51 4 v' D'.length (cellsD D')) (hv : ∀ g, v'.ownBlock = some g → vD.ownBlock = some g ∨ w.heap.size ≤ g) :
    RdAt (w1.setCell ⟨r, 0, none⟩ v') B r v' vO vQ D' O Q := by
  have hro : vD.ownBlock ≠ some r := fun e => h.fD.2.2 r e rfl
  exact ⟨h.hr, fz_grown h.fz h.fD.lt hg hro _ _, h.fD.put hg ho hv, h.fO.other hg hro (apart_sym h.dO) (by omega) _, h.fQ.other hg hro (apart_sym h.dQ) (by omega) _, apart_put hv h.dO h.fO.own_lt, apart_put hv h.dQ h.fQ.own_lt, h.oQ⟩
theorem RdAt.opn (h : RdAt w B r vD vO vQ D O Q) (hg : w.grownBy w1 vO.ownBlock) (ho : w1.ownsRow B 2 1 v' O'.length (cellsI O')) (hv : ∀ g, v'.ownBlock = some g → vO.ownBlock = some g ∨ w.heap.size ≤ g) :
    RdAt (w1.setCell ⟨r, 1, none⟩ v') B r vD v' vQ D O' Q := by
  have hro : vO.ownBlock ≠ some r := fun e => h.fO.2.2 r e rfl
  exact ⟨h.hr, fz_grown h.fz h.fD.lt hg hro _ _, h.fD.other hg hro h.dO (by omega) _, h.fO.put hg ho hv, h.fQ.other hg hro (apart_sym h.oQ) (by omega) _, apart_sym (apart_put hv (apart_sym h.dO) h.fD.own_lt), h.dQ, apart_put hv h.oQ h.fQ.own_lt⟩
theorem RdAt.quo (h : RdAt w B r vD vO vQ D O Q) (hg : w.grownBy w1 vQ.ownBlock) (ho : w1.ownsRow B 4 1 v' Q'.length (cellsB Q')) (hv : ∀ g, v'.ownBlock = some g → vQ.ownBlock = some g ∨ w.heap.size ≤ g) :
    RdAt (w1.setCell ⟨r, 2, none⟩ v') B r vD vO v' D O Q' := by
  have hro : vQ.ownBlock ≠ some r := fun e => h.fQ.2.2 r e rfl
  exact ⟨h.hr, fz_grown h.fz h.fD.lt hg hro _ _, h.fD.other hg hro h.dQ (by omega) _, h.fO.other hg hro h.oQ (by omega) _, h.fQ.put hg ho hv, h.dO, apart_sym (apart_put hv (apart_sym h.dQ) h.fD.own_lt), apart_sym (apart_put hv (apart_sym h.oQ) h.fO.own_lt)⟩
end
def Rd (w : World) (B r : Nat) (D : List Dat) (O : List Int) (Q : List Bool) : Prop := ∃ vD vO vQ, RdAt w B r vD vO vQ D O Q
end Go.Proofs.YtimhnljmdcgkhaaDoor
