/-
  Parts of the proof laid into one text, one behind the other; each says at its head what is proved in it.
-/
import Derived.Test.YtebnonpdaddniaaGreatDoorHcD
import Derived.Test.YtebnonpdaddniaaGreatDoorFldKit
import Derived.WalkSmall
/-
  The model's reader of data, as a block whose cells hold slices that are owned.
-/
namespace Go.Proofs.YtebnonpdaddniaaGreatDoor
open Go.RowKit Go.Extern.Stop Go.Stop Go.Extern Num Go.Lib

def cellsB (l : List Bool) : List Value := l.map Value.bool
theorem cellsB_length (l : List Bool) : (cellsB l).length = l.length := by simp [cellsB]
theorem cellsB_append (a b : List Bool) : cellsB (a ++ b) = cellsB a ++ cellsB b := by simp [cellsB]
theorem infoB : (Tryz.prog.info? 4).map (fun i => (i.zero, i.size, i.bytes)) = some (some (.bool false), 1, 1) := by kernel_rfl
theorem rowB_at {w : World} {base g cap : Nat} {l : List Bool} (h : w.ownsRow base 4 1 (.slice (some ⟨g, 0, none⟩) l.length cap) l.length (cellsB l)) (k : Nat) (hk : k < l.length) :
    w.cell? ⟨g, k, none⟩ = some (.bool l[k]) := by
  have ha : ∀ j, (⟨g, 0, none⟩ : Addr).add j = ⟨g, j, none⟩ := fun j => by unfold Addr.add; split <;> simp_all
  rw [← ha]
  exact h.cells (g := g) rfl k _ (by simp [cellsB, hk])
/-- The reader: data that are read, open lists, and whether each ends behind one datum. -/
structure RdAt (w : World) (B r : Nat) (vD vO vQ : Value) (D : List Dat) (O : List Int) (Q : List Bool) : Prop where
  hr : B ≤ r
  fz : ∀ o, w.frozen? ⟨r, o, none⟩ = false
  fD : Fld w B r 0 100 4 vD D.length (cellsD D)
  fO : Fld w B r 1 2 1 vO O.length (cellsI O)
  fQ : Fld w B r 2 4 1 vQ Q.length (cellsB Q)
  dO : ∀ g, vD.ownBlock = some g → vO.ownBlock ≠ some g
  dQ : ∀ g, vD.ownBlock = some g → vQ.ownBlock ≠ some g
  oQ : ∀ g, vO.ownBlock = some g → vQ.ownBlock ≠ some g
section
variable {w w1 : World} {B r : Nat} {vD vO vQ v' : Value} {D D' : List Dat} {O O' : List Int} {Q Q' : List Bool}
theorem RdAt.keep (h : RdAt w B r vD vO vQ D O Q) (hb : Below w.heap.size w w1) : RdAt w1 B r vD vO vQ D O Q :=
  ⟨h.hr, fun o => by rw [(bcell hb).2 r o h.fD.lt]; exact h.fz o, h.fD.below hb, h.fO.below hb, h.fQ.below hb, h.dO, h.dQ, h.oQ⟩
theorem RdAt.data (h : RdAt w B r vD vO vQ D O Q) (hg : w.grownBy w1 vD.ownBlock) (ho : w1.ownsRow B 100 4 v' D'.length (cellsD D')) (hv : ∀ g, v'.ownBlock = some g → vD.ownBlock = some g ∨ w.heap.size ≤ g) :
    RdAt (w1.setCell ⟨r, 0, none⟩ v') B r v' vO vQ D' O Q := by
  have hro : vD.ownBlock ≠ some r := fun e => h.fD.2.2 r e rfl
  exact ⟨h.hr, fz_grown h.fz h.fD.lt hg hro _ _, h.fD.put hg ho hv, h.fO.other hg hro (apart_sym h.dO) (by omega) _, h.fQ.other hg hro (apart_sym h.dQ) (by omega) _, apart_put hv h.dO h.fO.own_lt, apart_put hv h.dQ h.fQ.own_lt, h.oQ⟩
theorem RdAt.opn (h : RdAt w B r vD vO vQ D O Q) (hg : w.grownBy w1 vO.ownBlock) (ho : w1.ownsRow B 2 1 v' O'.length (cellsI O')) (hv : ∀ g, v'.ownBlock = some g → vO.ownBlock = some g ∨ w.heap.size ≤ g) :
    RdAt (w1.setCell ⟨r, 1, none⟩ v') B r vD v' vQ D O' Q := by
  have hro : vO.ownBlock ≠ some r := fun e => h.fO.2.2 r e rfl
  exact ⟨h.hr, fz_grown h.fz h.fD.lt hg hro _ _, h.fD.other hg hro h.dO (by omega) _, h.fO.put hg ho hv, h.fQ.other hg hro (apart_sym h.oQ) (by omega) _, apart_sym (apart_put hv (apart_sym h.dO) h.fD.own_lt), h.dQ, apart_put hv h.oQ h.fQ.own_lt⟩
theorem RdAt.quo (h : RdAt w B r vD vO vQ D O Q) (hg : w.grownBy w1 vQ.ownBlock) (ho : w1.ownsRow B 4 1 v' Q'.length (cellsB Q')) (hv : ∀ g, v'.ownBlock = some g → vQ.ownBlock = some g ∨ w.heap.size ≤ g) :
    RdAt (w1.setCell ⟨r, 2, none⟩ v') B r vD vO v' D O Q' := by
  have hro : vQ.ownBlock ≠ some r := fun e => h.fQ.2.2 r e rfl
  exact ⟨h.hr, fz_grown h.fz h.fD.lt hg hro _ _, h.fD.other hg hro h.dQ (by omega) _, h.fO.other hg hro h.oQ (by omega) _, h.fQ.put hg ho hv, h.dO, apart_sym (apart_put hv (apart_sym h.dQ) h.fD.own_lt), apart_sym (apart_put hv (apart_sym h.oQ) h.fO.own_lt)⟩
end
def Rd (w : World) (B r : Nat) (D : List Dat) (O : List Int) (Q : List Bool) : Prop := ∃ vD vO vQ, RdAt w B r vD vO vQ D O Q
end Go.Proofs.YtebnonpdaddniaaGreatDoor
